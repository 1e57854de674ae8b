/- Layer 9: the reader's methods: number, command, coordinate. -/
import Derived.Test.YtohgdlhijgjdkaaPathMath
import Derived.Test.YtohgdlhijgjdkaaPathLive2
namespace Go.Proofs.Ytohgdlhijgjdkaa
open Go.RowKit
set_option linter.unusedVariables false
set_option maxRecDepth 100000

def pan (n : Nat) : List PanicEntry := [{ v := .iface 25 (.int .i64 (n : Int)), recovered := false }]
/-- The block g holds a reader: the numbers l yet to come, the point p. -/
def RS (w : World) (base g : Nat) (l : List Nat) (p : P2) : Prop := ∃ a c, Whole w g 47 #[.slice a l.length c, .int .i64 p.1, .int .i64 p.2] ∧ Nums .u32 w base a l ∧ l.length ≤ c ∧ c ≤ maxLen
theorem RS.lt {w : World} {base g : Nat} {l : List Nat} {p : P2} (h : RS w base g l p) : g < w.heap.size := by
  obtain ⟨a, c, h1, _⟩ := h
  exact h1.lt
theorem RS.only {S : Nat → Prop} {w w' : World} {base g : Nat} {l : List Nat} {p : P2} (h : RS w base g l p) (ho : Only S w w') (hg : ¬ S g) (hb : ∀ b, S b → base ≤ b) (hB : base ≤ w.heap.size) : RS w' base g l p := by
  obtain ⟨a, c, h1, h2, h3, h4⟩ := h
  exact ⟨a, c, h1.only ho hg, h2.below (ho.below (fun b hlt hS => by have := hb b hS; omega) hB), h3, h4⟩
theorem number_none (base g : Nat) (p : P2) (w : World) (h : RS w base g [] p) :
    Calls Try.prog 38 #[.pointer (some ⟨g, 0, none⟩)] w fun e w' => e = .panicked (pan 2) ∧ w = w' := by
  obtain ⟨a, c, h1, h2, h3, h4⟩ := h
  have c0 := h1.cell 0
  simp only [List.length_nil, List.getElem?_toArray, List.getElem?_cons_zero, List.getElem?_cons_succ] at c0
  have HW := Lib.hid h1
  clear h1 h2
  go_enter Try.func38, Try.ntmps38
  go_wp2_with fail
  exact ⟨rfl, rfl, rfl⟩
theorem RS.pop {w : World} {base g m : Nat} {v : Value} {A : Option Addr} {C : Nat} {r : List Nat} {p : P2} (h : Whole w g 47 #[v, .int .i64 p.1, .int .i64 p.2]) (hN : Nums .u32 w base A r) (hm : m = r.length) (h3 : m ≤ C) (h4 : C ≤ maxLen) (hg : base ≤ g) :
    RS (w.setCell ⟨g, 0, none⟩ (.slice A m C)) base g r p ∧ Only (fun b => b = g) w (w.setCell ⟨g, 0, none⟩ (.slice A m C)) := by
  subst hm
  have ho : Only (fun b => b = g) w (w.setCell ⟨g, 0, none⟩ (.slice A r.length C)) := Only.setCell (S := fun b => b = g) (Only.refl _ _) (p := ⟨g, 0, none⟩) (fun _ => rfl) _
  refine ⟨⟨A, C, by simpa using h.set 0 (.slice A r.length C), hN.below ?_, h3, h4⟩, ho⟩
  exact (Below.refl base w).setCell (p := ⟨g, 0, none⟩) hg _
set_option maxHeartbeats 2000000 in
theorem number_some (base g : Nat) (x : Nat) (r : List Nat) (p : P2) (w : World) (h : RS w base g (x :: r) p) (hg : base ≤ g) :
    Calls Try.prog 38 #[.pointer (some ⟨g, 0, none⟩)] w fun e w' => e = .returned (.int .u32 (x : Int)) ∧ RS w' base g r p ∧ Only (fun b => b = g) w w' := by
  obtain ⟨a, c, h1, h2, h3, h4⟩ := h
  have c0 := h1.cell 0
  simp only [List.length_cons, List.getElem?_toArray, List.getElem?_cons_zero, List.getElem?_cons_succ] at c0 h3
  obtain ⟨b, off, rfl, hb, hc⟩ := h2 (by simp)
  have e0 := hc 0 (by simp)
  simp only [Nat.add_zero, List.getD_cons_zero] at e0
  have f0 := h1.frozen 0
  have hmx : c ≤ 9223372036854775807 := h4
  obtain ⟨m, hm⟩ : ∃ z, z = r.length := ⟨_, rfl⟩
  rw [← hm] at c0 h3
  have h30 : (1 : Int) ≤ ((m + 1 : Nat) : Int) := by omega
  have h31 : ((m + 1 : Nat) : Int) ≤ (c : Int) := by omega
  have HW := Lib.hid h1
  have HC := Lib.hid hc
  have HM := Lib.hid hm
  clear h1 h2 hc hm
  go_enter Try.func38, Try.ntmps38
  have hN1 : ∀ A, (0 < r.length → A = some (⟨b, off + 1, none⟩ : Addr)) → Nums .u32 w base A r := fun A hA hl => ⟨b, off + 1, hA hl, hb, fun i hi => by
    have := HC.out (i + 1) (by simp; omega)
    rw [show off + 1 + i = off + (i + 1) by omega, this]
    simp⟩
  have HN1 := Lib.hid hN1
  clear hN1
  go_wp2_with fail
  · next hcc =>
    have hm0 := HM.out
    obtain ⟨q1, q2⟩ := RS.pop (C := 0) HW.out (HN1.out (some ⟨b, off, none⟩) (fun hl => by omega)) HM.out (by omega) (by omega) hg
    go_ret
    exact ⟨rfl, q1, q2⟩
  · obtain ⟨q1, q2⟩ := RS.pop (C := c - 1) HW.out (HN1.out (some ⟨b, off + 1, none⟩) (fun _ => rfl)) HM.out (by omega) (by omega) hg
    go_ret
    exact ⟨rfl, q1, q2⟩
/-- What a method does whose result is R: it hands it back, or it panics with the error's number. -/
def MPost {α : Type} (base : Nat) (w : World) (R : Except Nat α) (ok : α → Ending → World → Prop) (e : Ending) (w' : World) : Prop :=
  match R with
  | .ok a => ok a e w'
  | .error n => e = .panicked (pan n) ∧ Below base w w'
theorem only_g {w w' : World} {base g : Nat} (h : Only (fun b => b = g) w w') (hg : base ≤ g) (hB : base ≤ w.heap.size) : Below base w w' := h.below (fun b hlt hS => by omega) hB
def CmdOk (base g : Nat) (p : P2) (w : World) (a : Nat × List Nat) (e : Ending) (w' : World) : Prop := e = .returned (.int .i64 (a.1 : Int)) ∧ RS w' base g a.2 p ∧ Only (fun b => b = g) w w'
theorem command_any (base g op least most : Nat) (l : List Nat) (p : P2) (w : World) (h : RS w base g l p) (hg : base ≤ g) (hB : base ≤ w.heap.size) (hop : op < 4294967296) (h1 : least ≤ 1073741824) (h2 : most ≤ 1073741824) (hl : ∀ x ∈ l, x < 4294967296) :
    Calls Try.prog 31 #[.pointer (some ⟨g, 0, none⟩), .int .u32 (op : Int), .int .i64 (least : Int), .int .i64 (most : Int)] w (MPost base w (cmdM op least most l) (CmdOk base g p w)) := by
  cases l with
  | nil =>
    have HN := Lib.hid (number_none base g p w h)
    clear h
    go_enter Try.func31, Try.ntmps31
    go_wp2_with fail
    refine HN.out.mono ?_
    rintro e W ⟨rfl, rfl⟩
    exact ⟨rfl, rfl, Below.refl _ _⟩
  | cons x r =>
    have HN := Lib.hid (number_some base g x r p w h hg)
    have hx := hl x (List.mem_cons_self ..)
    obtain ⟨q, hq⟩ : ∃ q, q = x / 8 := ⟨_, rfl⟩
    obtain ⟨m, hm⟩ : ∃ m, m = x % 8 := ⟨_, rfl⟩
    have hqI : (x : Int) / 8 = (q : Int) := by omega
    have hmI : (x : Int) % 8 = (m : Int) := by omega
    have hql : q < 536870912 := by omega
    have e0 : cmdM op least most (x :: r) = if m ≠ op ∨ q < least ∨ most < q then .error 3 else .ok (q, r) := by rw [hq, hm]; rfl
    rw [e0]
    clear hl h e0 hq hm
    by_cases c1 : m = op
    · have d1 : ((m : Int) != (op : Int)) = false := by simp [c1]
      by_cases c2 : q < least
      · have d2 : decide ((q : Int) < (least : Int)) = true := decide_eq_true (by omega)
        rw [if_pos (by omega)]
        go_enter Try.func31, Try.ntmps31
        go_wp2_with fail
        refine HN.out.mono ?_
        rintro e W ⟨rfl, hR, hO⟩
        have HO := Lib.hid (only_g hO hg hB)
        clear hR hO
        go_wp2_with fail
        exact ⟨rfl, rfl, HO.out⟩
      · have d2 : decide ((q : Int) < (least : Int)) = false := decide_eq_false (by omega)
        by_cases c3 : most < q
        · have d3 : decide ((most : Int) < (q : Int)) = true := decide_eq_true (by omega)
          rw [if_pos (by omega)]
          go_enter Try.func31, Try.ntmps31
          go_wp2_with fail
          refine HN.out.mono ?_
          rintro e W ⟨rfl, hR, hO⟩
          have HO := Lib.hid (only_g hO hg hB)
          clear hR hO
          go_wp2_with fail
          exact ⟨rfl, rfl, HO.out⟩
        · have d3 : decide ((most : Int) < (q : Int)) = false := decide_eq_false (by omega)
          rw [if_neg (by omega)]
          go_enter Try.func31, Try.ntmps31
          go_wp2_with fail
          refine HN.out.mono ?_
          rintro e W ⟨rfl, hR, hO⟩
          have HR := Lib.hid hR
          have HO := Lib.hid hO
          clear hR hO
          go_wp2_with fail
          go_ret
          exact ⟨rfl, HR.out, HO.out⟩
    · have d1 : ((m : Int) != (op : Int)) = true := by simp; omega
      rw [if_pos (by omega)]
      go_enter Try.func31, Try.ntmps31
      go_wp2_with fail
      refine HN.out.mono ?_
      rintro e W ⟨rfl, hR, hO⟩
      have HO := Lib.hid (only_g hO hg hB)
      clear hR hO
      go_wp2_with fail
      exact ⟨rfl, rfl, HO.out⟩
theorem within_any (n : Int) (w : World) : Calls Try.prog 36 #[.int .i64 n] w fun e w' => e = .returned (.bool (okC n)) ∧ w = w' := by
  unfold okC
  by_cases h1 : -1048576 ≤ n
  · by_cases h7 : n ≤ 1048576
    · have e : decide (-1048576 ≤ n ∧ n ≤ 1048576) = true := decide_eq_true ⟨h1, h7⟩
      have d1 : decide (-1048576 ≤ n) = true := decide_eq_true h1
      have d7 : decide (n ≤ 1048576) = true := decide_eq_true h7
      rw [e]
      clear e
      go_enter Try.func36, Try.ntmps36
      go_wp2_with fail
      go_ret
      exact ⟨rfl, rfl⟩
    · have e : decide (-1048576 ≤ n ∧ n ≤ 1048576) = false := decide_eq_false (by omega)
      have d1 : decide (-1048576 ≤ n) = true := decide_eq_true h1
      have d7 : decide (n ≤ 1048576) = false := decide_eq_false h7
      rw [e]
      clear e
      go_enter Try.func36, Try.ntmps36
      go_wp2_with fail
      go_ret
      exact ⟨rfl, rfl⟩
  · have e : decide (-1048576 ≤ n ∧ n ≤ 1048576) = false := decide_eq_false (by omega)
    have d1 : decide (-1048576 ≤ n) = false := decide_eq_false h1
    rw [e]
    clear e
    go_enter Try.func36, Try.ntmps36
    go_wp2_with fail
    go_ret
    exact ⟨rfl, rfl⟩
theorem zag32 (a : Nat) (h : a < 4294967296) : -2147483648 ≤ zag a ∧ zag a ≤ 2147483647 := by unfold zag; split <;> omega
def CrdOk (base g : Nat) (p : P2) (w : World) (a : Int × List Nat) (e : Ending) (w' : World) : Prop := e = .returned (.int .i64 a.1) ∧ RS w' base g a.2 p ∧ Only (fun b => b = g) w w'
theorem coordinate_any (base g : Nat) (x : Int) (l : List Nat) (p : P2) (w : World) (h : RS w base g l p) (hg : base ≤ g) (hB : base ≤ w.heap.size) (hx : -1048576 ≤ x ∧ x ≤ 1048576) (hl : ∀ x ∈ l, x < 4294967296) :
    Calls Try.prog 37 #[.pointer (some ⟨g, 0, none⟩), .int .i64 x] w (MPost base w (crd x l) (CrdOk base g p w)) := by
  cases l with
  | nil =>
    have HN := Lib.hid (number_none base g p w h)
    clear h
    go_enter Try.func37, Try.ntmps37
    go_wp2_with fail
    refine HN.out.mono ?_
    rintro e W ⟨rfl, rfl⟩
    exact ⟨rfl, rfl, Below.refl _ _⟩
  | cons a r =>
    have HN := Lib.hid (number_some base g a r p w h hg)
    have ha := hl a (List.mem_cons_self ..)
    have hz := zag32 a ha
    have HZ := Lib.hid fun W => zag_any a W (by omega)
    have HWi := Lib.hid fun n W => within_any n W
    have e0 : crd x (a :: r) = if okC (x + zag a) = true then .ok (x + zag a, r) else .error 8 := rfl
    rw [e0]
    obtain ⟨z, hze⟩ : ∃ z, z = zag a := ⟨_, rfl⟩
    rw [← hze] at HZ hz ⊢
    clear hl h e0 hze
    cases hk : okC (x + z) with
    | true =>
      rw [if_pos rfl]
      go_enter Try.func37, Try.ntmps37
      go_wp2_with fail
      refine HN.out.mono ?_
      rintro e W ⟨rfl, hR, hO⟩
      have HR := Lib.hid hR
      have HO := Lib.hid hO
      clear hR hO
      go_wp2_with (go_at_call 40; refine (HZ.out _).mono ?_; rintro e W9 ⟨rfl, rfl⟩)
      refine (HWi.out _ _).mono ?_
      rintro e W9 ⟨rfl, rfl⟩
      go_wp2_with fail
      go_ret
      exact ⟨rfl, HR.out, HO.out⟩
    | false =>
      rw [if_neg (by simp)]
      go_enter Try.func37, Try.ntmps37
      go_wp2_with fail
      refine HN.out.mono ?_
      rintro e W ⟨rfl, hR, hO⟩
      have HO := Lib.hid (only_g hO hg hB)
      clear hR hO
      go_wp2_with (go_at_call 40; refine (HZ.out _).mono ?_; rintro e W9 ⟨rfl, rfl⟩)
      refine (HWi.out _ _).mono ?_
      rintro e W9 ⟨rfl, rfl⟩
      go_wp2_with fail
      exact ⟨rfl, rfl, HO.out⟩
end Go.Proofs.Ytohgdlhijgjdkaa
