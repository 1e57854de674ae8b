/- Walks over layer 12: byID, and the search over entries in order. -/
import Derived.Test.YtaafcmgkmdbefaaDirRight
namespace Go.Proofs.Ytaafcmgkmdbefaa
open Go.RowKit
set_option linter.unusedVariables false
set_option maxRecDepth 100000

def cmpE (a x : Nat) : Int := if a < x then -1 else if x < a then 1 else 0
set_option maxHeartbeats 2000000 in
theorem byID_any (id off len run x : Nat) (w : World) :
    Calls Try.prog 26 #[.agg #[.int .u64 (id : Int), .int .u64 (off : Int), .int .u64 (len : Int), .int .u64 (run : Int)], .int .u64 (x : Int)] w fun e w' => e = .returned (.int .i64 (cmpE id x)) ∧ Below w.heap.size w w' := by
  unfold cmpE
  by_cases h1 : id < x
  · rw [if_pos h1]
    have d1 : decide ((id : Int) < (x : Int)) = true := decide_eq_true (by omega)
    go_enter Try.func26, Try.ntmps26
    go_wp2_with fail
    go_ret
    exact ⟨rfl, (Below.refl _ _).alloc (Nat.le_refl _) _⟩
  · rw [if_neg h1]
    have d1 : decide ((id : Int) < (x : Int)) = false := decide_eq_false (by omega)
    have d3 : decide (id < x) = false := decide_eq_false h1
    by_cases h2 : x < id
    · rw [if_pos h2]
      have d2 : decide ((x : Int) < (id : Int)) = true := decide_eq_true (by omega)
      go_enter Try.func26, Try.ntmps26
      go_wp2_with fail
      go_ret
      exact ⟨rfl, (Below.refl _ _).alloc (Nat.le_refl _) _⟩
    · rw [if_neg h2]
      have d2 : decide ((x : Int) < (id : Int)) = false := decide_eq_false (by omega)
      have d4 : decide (x < id) = false := decide_eq_false h2
      go_enter Try.func26, Try.ntmps26
      go_wp2_with fail
      go_ret
      exact ⟨rfl, (Below.refl _ _).alloc (Nat.le_refl _) _⟩

/-- The entries stand in order. -/
def srt (l : List En) : Prop := ∀ p q (hp : p < l.length) (hq : q < l.length), p < q → (l[p]).id < (l[q]).id
/-- n entries stand ahead of x. -/
def cut (l : List En) (x n : Nat) : Prop := n ≤ l.length ∧ (∀ q (h : q < l.length), q < n → (l[q]).id < x) ∧ (∀ q (h : q < l.length), n ≤ q → x ≤ (l[q]).id)
def hit (l : List En) (x n : Nat) : Bool := match l[n]? with
  | none => false
  | some e => decide (e.id = x)
set_option maxHeartbeats 8000000 in
theorem search_any (v : Value) (l : List En) (x : Nat) (w : World) (h : RdE w w.heap.size v l) (hl : l.length ≤ 100000000) (hs : srt l) :
    Calls Try.prog 25 #[v, .int .u64 (x : Int), .func (.func 26) #[] #[]] w
      fun e w' => ∃ n, cut l x n ∧ e = .returned (.tuple #[.int .i64 (n : Int), .bool (hit l x n)]) ∧ Below w.heap.size w w' := by
  obtain ⟨a, c, rfl, _, _, ha, hok⟩ := h
  obtain ⟨L, hL⟩ : ∃ L, L = l.length := ⟨_, rfl⟩
  have HA := Lib.hid ha
  have HL := Lib.hid hL
  have Hs := Lib.hid hs
  have Hb := Lib.hid fun id off len run W => byID_any id off len run x W
  rw [← hL] at hl ⊢
  clear hL ha hok hs
  go_enter Try.func25, Try.ntmps25
  go_wp2_with fail
  go_loopw [9, 10] (fun s t W => ∃ i j : Nat, i ≤ j ∧ j ≤ L ∧ s = .int .i64 (i : Int) ∧ t = .int .i64 (j : Int) ∧ Hid (Below w.heap.size w W) ∧ Hid (∀ q (h : q < l.length), q < i → (l[q]).id < x) ∧ Hid (∀ q (h : q < l.length), j ≤ q → x ≤ (l[q]).id)) (fun s t _ => (intOf t).toNat - (intOf s).toNat)
  case atStart => exact ⟨0, L, Nat.zero_le _, Nat.le_refl _, rfl, rfl, Below.refl _ _, Lib.hid (fun q h h2 => absurd h2 (by omega)), Lib.hid (fun q h h2 => absurd h (by have := HL.out; omega))⟩
  case round =>
    obtain ⟨i, j, hij, hj, rfl, rfl, HBW, H1, H2⟩ := hrel
    by_cases hlt : i < j
    · obtain ⟨m, hm⟩ : ∃ m, m = (i + j) / 2 := ⟨_, rfl⟩
      have hmL : m < L := by omega
      have hml : m < l.length := by have := HL.out; omega
      have n1 : decide ((i : Int) < (j : Int)) = true := decide_eq_true (by omega)
      have n2 : IntKind.i64.wrap ((i : Int) + (j : Int)) = ((i + j : Nat) : Int) := by rw [IntWalk.i64_in _ ⟨by omega, by omega⟩]; omega
      obtain ⟨S, hS⟩ : ∃ S : Nat, i + j = S := ⟨_, rfl⟩
      rw [hS] at n2 hm
      have n3 : IntKind.u64.wrap (S : Int) = (S : Int) := IntWalk.u64_in _ ⟨by omega, by omega⟩
      have n4 : (S : Int) / 2 = (m : Int) := by omega
      have n5 : IntKind.i64.wrap (m : Int) = (m : Int) := IntWalk.i64_in _ ⟨by omega, by omega⟩
      have n6 : IntKind.i64.wrap ((m : Int) + 1) = ((m + 1 : Nat) : Int) := by rw [IntWalk.i64_in _ ⟨by omega, by omega⟩]; omega
      have n7 : IntKind.u64.wrap (m : Int) = (m : Int) := IntWalk.u64_in _ ⟨by omega, by omega⟩
      obtain ⟨b1, o1, rfl, hb1, p0, p1, p2, p3⟩ := (HA.out.below HBW.out).at m hml
      have G1 : Hid ((l[m]).id < x → ∀ q (h : q < l.length), q < m + 1 → (l[q]).id < x) := fun hh q h h2 => by
        rcases Nat.lt_or_eq_of_le (Nat.le_of_lt_succ h2) with h3 | h3
        · exact Nat.lt_trans (Hs.out q m h hml h3) hh
        · subst h3; exact hh
      have G2 : Hid (¬ (l[m]).id < x → ∀ q (h : q < l.length), m ≤ q → x ≤ (l[q]).id) := fun hh q h h2 => by
        rcases Nat.lt_or_eq_of_le h2 with h3 | h3
        · have := Hs.out m q hml h h3; omega
        · subst h3; omega
      generalize l[m]'hml = e at *
      obtain ⟨id, off, len, run⟩ := e
      simp only at p0 p1 p2 p3 G1 G2
      have hk0 : (0 : Int) ≤ (m : Int) := by omega
      have hk1 : (m : Int) < (L : Int) := by omega
      have Hij : Hid (i ≤ m ∧ m < j) := by show _ ∧ _; omega
      clear hm hS
      go_wp2_with fail
      refine (Hb.out id off len run _).mono ?_
      rintro e X ⟨rfl, hX⟩
      have HX := Lib.hid (below_then HBW.out hX HBW.out.size)
      clear hX p0 p1 p2 p3
      by_cases hc : id < x
      · rw [show cmpE id x = -1 from if_pos hc]
        have HG := Lib.hid (G1.out hc)
        clear hc G1 G2
        go_wp2_with fail
        go_roundw
        case rel => exact ⟨m + 1, j, by have := Hij.out; omega, hj, by go_num, rfl, HX, HG, H2⟩
        case measure => have := Hij.out; simp [intOf]; omega
      · have hd : decide (cmpE id x < 0) = false := by unfold cmpE; rw [if_neg hc]; split <;> rfl
        have HG := Lib.hid (G2.out hc)
        generalize cmpE id x = C at *
        clear hc G1 G2
        go_wp2_with fail
        go_roundw
        case rel => exact ⟨i, m, by have := Hij.out; omega, by omega, rfl, rfl, HX, H1, HG⟩
        case measure => have := Hij.out; simp [intOf]; omega
    · obtain rfl : i = j := by omega
      have n1 : decide ((i : Int) < (i : Int)) = false := decide_eq_false (by omega)
      have Hcut : Hid (cut l x i) := ⟨by have := HL.out; omega, H1.out, H2.out⟩
      by_cases hi : i < L
      · have hil : i < l.length := by have := HL.out; omega
        have n2 : decide ((i : Int) < (L : Int)) = true := decide_eq_true (by omega)
        have n3 : decide (i < L) = true := decide_eq_true hi
        obtain ⟨b1, o1, rfl, hb1, p0, p1, p2, p3⟩ := (HA.out.below HBW.out).at i hil
        have hh : hit l x i = decide ((l[i]).id = x) := by unfold hit; rw [List.getElem?_eq_getElem hil]
        generalize l[i]'hil = e at *
        obtain ⟨id, off, len, run⟩ := e
        simp only at p0 p1 p2 p3 hh
        have hk0 : (0 : Int) ≤ (i : Int) := by omega
        have hk1 : (i : Int) < (L : Int) := by omega
        have Hh := Lib.hid hh
        clear hh
        go_wp2_with fail
        refine (Hb.out id off len run _).mono ?_
        rintro e X ⟨rfl, hX⟩
        have HX := Lib.hid (below_then HBW.out hX HBW.out.size)
        have hc : (cmpE id x == 0) = decide (id = x) := by unfold cmpE; by_cases h1 : id < x <;> by_cases h2 : x < id <;> simp [h1, h2] <;> omega
        have Hc := Lib.hid hc
        generalize cmpE id x = C at *
        clear hX p0 p1 p2 p3 hc
        go_wp2_with fail
        go_ret2
        exact ⟨i, Hcut.out, by rw [Hh.out, ← Hc.out]; rfl, HX.out⟩
      · obtain rfl : i = L := by omega
        have hh : hit l x i = false := by unfold hit; rw [List.getElem?_eq_none (by have := HL.out; omega)]
        have Hh := Lib.hid hh
        clear hh
        go_wp2_with fail
        go_ret2
        exact ⟨i, Hcut.out, by rw [Hh.out]; rfl, HBW.out⟩
end Go.Proofs.Ytaafcmgkmdbefaa
