/- Walks over layer 12: Find, both. -/
import Derived.Test.YtaafcmgkmdbefaaDirSearch
import Derived.Laws.StructEq
import Derived.Deep.DeepCutAuto
namespace Go.Proofs.Ytaafcmgkmdbefaa
open Go.RowKit
set_option linter.unusedVariables false
set_option maxRecDepth 100000

theorem rgt_all : ∀ (l : List En) (p : Option En), rgt p l = true → (∀ i (h : i < l.length), oneE l[i] = true) ∧ (∀ i (h : i + 1 < l.length), (l[i]'(by omega)).id < (l[i + 1]).id)
  | [], p, _ => ⟨fun i h => by simp at h, fun i h => by simp at h⟩
  | e :: l, p, h => by
    have h1 : oneE e = true ∧ aftE p e = true ∧ rgt (some e) l = true := by
      have h0 : (oneE e && (aftE p e && rgt (some e) l)) = true := h
      simpa using h0
    obtain ⟨k1, k2⟩ := rgt_all l (some e) h1.2.2
    refine ⟨fun i hi => ?_, fun i hi => ?_⟩
    · cases i with
      | zero => exact h1.1
      | succ i => exact k1 i (by simpa using hi)
    · cases i with
      | succ i => exact k2 i (by simpa using hi)
      | zero =>
        cases l with
        | nil => simp at hi
        | cons e2 l =>
          have h3 : (oneE e2 && (aftE (some e) e2 && rgt (some e2) l)) = true := h1.2.2
          have h4 : aftE (some e) e2 = true := by simp at h3; exact h3.2.1
          have h5 : e.id + max 1 e.run ≤ e2.id := of_decide_eq_true h4
          show e.id < e2.id
          omega
theorem right_all {l : List En} (h : rightE l = true) : (1 ≤ l.length ∧ l.length ≤ 65536) ∧ (∀ i (h : i < l.length), oneE l[i] = true) ∧ srt l := by
  unfold rightE at h
  rw [Bool.and_eq_true] at h
  obtain ⟨k1, k2⟩ := rgt_all l none h.2
  refine ⟨of_decide_eq_true h.1, k1, fun p q hp hq hpq => ?_⟩
  obtain ⟨d, rfl⟩ : ∃ d, q = p + 1 + d := ⟨q - p - 1, by omega⟩
  clear hpq
  induction d with
  | zero => exact k2 p hq
  | succ d ih => exact Nat.lt_trans (ih (by omega)) (k2 (p + 1 + d) hq)

/-- m is the last place whose entry stands at or ahead of x. -/
def lastE (l : List En) (x : Nat) : Option Nat → Prop
  | none => ∀ q (h : q < l.length), x < (l[q]).id
  | some m => ∃ h : m < l.length, (l[m]).id ≤ x ∧ ∀ q (h : q < l.length), m < q → x < (l[q]).id
theorem lastE_one {l : List En} {x : Nat} : ∀ {m n : Option Nat}, lastE l x m → lastE l x n → m = n
  | none, none, _, _ => rfl
  | none, some n, h, ⟨h1, h2, _⟩ => by have := h n h1; omega
  | some m, none, ⟨h1, h2, _⟩, h => by have := h m h1; omega
  | some m, some n, ⟨h1, h2, h3⟩, ⟨k1, k2, k3⟩ => by
    rcases Nat.lt_trichotomy m n with h | h | h
    · have := h3 n k1 h; omega
    · rw [h]
    · have := k3 m h1 h; omega
theorem hit_yes {l : List En} {x n : Nat} (h : hit l x n = true) : ∃ h : n < l.length, (l[n]).id = x := by
  unfold hit at h
  split at h
  · cases h
  · next e he =>
    obtain ⟨h1, h2⟩ := List.getElem?_eq_some_iff.1 he
    exact ⟨h1, by rw [h2]; exact of_decide_eq_true h⟩
theorem hit_no {l : List En} {x n : Nat} (h : hit l x n = false) (hn : n < l.length) : (l[n]).id ≠ x := by
  unfold hit at h
  rw [List.getElem?_eq_getElem hn] at h
  exact of_decide_eq_false h
theorem last_hit {l : List En} {x n : Nat} (hs : srt l) (hc : cut l x n) (h : hit l x n = true) : lastE l x (some n) := by
  obtain ⟨h1, h2⟩ := hit_yes h
  exact ⟨h1, by omega, fun q hq hnq => by have := hs n q h1 hq hnq; omega⟩
theorem above_cut {l : List En} {x n : Nat} (hs : srt l) (hc : cut l x n) (h : hit l x n = false) (q : Nat) (hq : q < l.length) (hnq : n ≤ q) : x < (l[q]).id := by
  have hn : n < l.length := by omega
  have h1 := hit_no h hn
  have h2 := hc.2.2 n hn (Nat.le_refl _)
  rcases Nat.lt_or_eq_of_le hnq with h3 | h3
  · have := hs n q hn hq h3; omega
  · subst h3; omega
theorem last_none {l : List En} {x : Nat} (hs : srt l) (hc : cut l x 0) (h : hit l x 0 = false) : lastE l x none := fun q hq => above_cut hs hc h q hq (Nat.zero_le _)
theorem last_some {l : List En} {x n : Nat} (hs : srt l) (hc : cut l x (n + 1)) (h : hit l x (n + 1) = false) : lastE l x (some n) := by
  have hn : n < l.length := by have := hc.1; omega
  exact ⟨hn, by have := hc.2.1 n hn (by omega); omega, fun q hq hnq => above_cut hs hc h q hq hnq⟩

/-- What Find answers of the entry that it found. -/
def resE (e : En) (x : Nat) : En × Bool := if 0 < e.run ∧ e.id + e.run ≤ x then (⟨0, 0, 0, 0⟩, false) else (e, true)
def noneE : En × Bool := (⟨0, 0, 0, 0⟩, false)
def resV (p : En × Bool) : Value := .tuple #[.agg #[.int .u64 (p.1.id : Int), .int .u64 (p.1.off : Int), .int .u64 (p.1.len : Int), .int .u64 (p.1.run : Int)], .bool p.2]
def ansE (l : List En) (x : Nat) : Option Nat → En × Bool
  | none => noneE
  | some m => match l[m]? with
    | none => noneE
    | some e => resE e x
theorem ansE_some {l : List En} {x m : Nat} (h : m < l.length) : ansE l x (some m) = resE l[m] x := by
  show (match l[m]? with
    | none => noneE
    | some e => resE e x) = _
  rw [List.getElem?_eq_getElem h]
def FPost (w : World) (p : En × Bool) (e : Ending) (w' : World) : Prop := e = .returned (resV p) ∧ Below w.heap.size w w'
theorem set4 {w X : World} {g : Nat} {a b c d : Value} (h : Below w.heap.size w X) (hg : w.heap.size ≤ g) : Below w.heap.size w ((((X.setCell ⟨g, 0, none⟩ a).setCell ⟨g, 1, none⟩ b).setCell ⟨g, 2, none⟩ c).setCell ⟨g, 3, none⟩ d) :=
  (((h.setCell (p := ⟨g, 0, none⟩) hg a).setCell (p := ⟨g, 1, none⟩) hg b).setCell (p := ⟨g, 2, none⟩) hg c).setCell (p := ⟨g, 3, none⟩) hg d

set_option maxHeartbeats 8000000 in
theorem find_no (v : Value) (l : List En) (x : Nat) (w : World) (h : RdE w w.heap.size v l) (hl : l.length ≤ 100000000) (hr : rightE l = false) : Calls Try.prog 16 #[v, .int .u64 (x : Int)] w (FPost w noneE) := by
  obtain ⟨X0, hX0⟩ : ∃ X, X = w.alloc (.cells #[.int .u64 0, .int .u64 0, .int .u64 0, .int .u64 0] 39) := ⟨_, rfl⟩
  obtain ⟨g, hg⟩ : ∃ g, g = w.heap.size := ⟨_, rfl⟩
  have HW0 : Hid (Whole X0 g 39 #[.int .u64 0, .int .u64 0, .int .u64 0, .int .u64 0]) := by rw [hX0, hg]; exact Whole.new w _ _
  have HB0 : Hid (Below w.heap.size w X0) := by rw [hX0]; exact (Below.refl _ _).alloc (Nat.le_refl _) _
  have Hg : Hid (w.heap.size ≤ g) := by show _ ≤ _; omega
  have Hr := Lib.hid (right_any v l X0 ((h.below HB0.out).more HB0.out.size) hl false hr)
  obtain ⟨a, c, rfl, _, _, ha, hok⟩ := h
  have HX0 := Lib.hid hX0
  have Hg0 := Lib.hid hg
  clear hX0 hg ha hok hr hl
  go_enter Try.func16, Try.ntmps16
  go_wp2_with fail
  rw [← HX0.out, ← Hg0.out]
  refine Hr.out.mono ?_
  rintro e X1 ⟨rfl, hX⟩
  have HB1 := Lib.hid (below_then HB0.out hX HB0.out.size)
  have HW1 := Lib.hid (HW0.out.below hX HW0.out.lt)
  clear hX
  have a0 := HW1.out.cell 0
  have a1 := HW1.out.cell 1
  have a2 := HW1.out.cell 2
  have a3 := HW1.out.cell 3
  have f0 := HW1.out.frozen 0
  have f1 := HW1.out.frozen 1
  have f2 := HW1.out.frozen 2
  have f3 := HW1.out.frozen 3
  simp only [List.getElem?_toArray, List.getElem?_cons_zero, List.getElem?_cons_succ] at a0 a1 a2 a3
  go_wp2_with fail
  exact bodyPost_ret (v := resV noneE) (by simp [results, Try.results16, go_sem, a0, a1, a2, a3, resV, noneE]) rfl ⟨rfl, set4 HB1.out Hg.out⟩

set_option maxHeartbeats 16000000 in
theorem find_yes (v : Value) (l : List En) (x : Nat) (w : World) (h : RdE w w.heap.size v l) (hl : l.length ≤ 100000000) (hr : rightE l = true) (m : Option Nat) (hm : lastE l x m) (R : En × Bool) (hR : ansE l x m = R) : Calls Try.prog 16 #[v, .int .u64 (x : Int)] w (FPost w R) := by
  obtain ⟨X0, hX0⟩ : ∃ X, X = w.alloc (.cells #[.int .u64 0, .int .u64 0, .int .u64 0, .int .u64 0] 39) := ⟨_, rfl⟩
  obtain ⟨g, hg⟩ : ∃ g, g = w.heap.size := ⟨_, rfl⟩
  have HW0 : Hid (Whole X0 g 39 #[.int .u64 0, .int .u64 0, .int .u64 0, .int .u64 0]) := by rw [hX0, hg]; exact Whole.new w _ _
  have HB0 : Hid (Below w.heap.size w X0) := by rw [hX0]; exact (Below.refl _ _).alloc (Nat.le_refl _) _
  have Hg : Hid (w.heap.size ≤ g) := by show _ ≤ _; omega
  obtain ⟨_, hone, hsrt⟩ := right_all hr
  have Hr := Lib.hid (right_any v l X0 ((h.below HB0.out).more HB0.out.size) hl true hr)
  have Hsr := Lib.hid fun W hW => search_any v l x W hW hl hsrt
  have HV := Lib.hid h
  obtain ⟨a, c, rfl, _, _, ha, hok⟩ := h
  obtain ⟨L, hL⟩ : ∃ L, L = l.length := ⟨_, rfl⟩
  have HA := Lib.hid ha
  have HL := Lib.hid hL
  have Hone := Lib.hid hone
  have Hsrt := Lib.hid hsrt
  have Hm := Lib.hid hm
  have HR := Lib.hid hR
  have HX0 := Lib.hid hX0
  have Hg0 := Lib.hid hg
  have Hll : Hid (l.length ≤ 100000000) := hl
  rw [← hL] at Hr Hsr HV ⊢
  clear hX0 hg ha hok hr hl hL hm hone hsrt hR
  go_enter Try.func16, Try.ntmps16
  go_wp2_with fail
  rw [← HX0.out, ← Hg0.out]
  refine Hr.out.mono ?_
  rintro e X1 ⟨rfl, hX⟩
  have HB1 := Lib.hid (below_then HB0.out hX HB0.out.size)
  have HW1 := Lib.hid (HW0.out.below hX HW0.out.lt)
  clear hX
  go_wp2_with fail
  refine (Hsr.out _ ((HV.out.below HB1.out).more HB1.out.size)).mono ?_
  rintro e X2 ⟨n, hcut, rfl, hX⟩
  have HB2 := Lib.hid (below_then HB1.out hX HB1.out.size)
  have HW2 := Lib.hid (HW1.out.below hX HW1.out.lt)
  clear hX
  cases hh : hit l x n
  · cases n with
    | zero =>
      have e := lastE_one Hm.out (last_none Hsrt.out hcut hh)
      subst e
      have e9 : noneE = R := HR.out
      subst e9
      clear hh hcut Hm
      have a0 := HW2.out.cell 0
      have a1 := HW2.out.cell 1
      have a2 := HW2.out.cell 2
      have a3 := HW2.out.cell 3
      have f0 := HW2.out.frozen 0
      have f1 := HW2.out.frozen 1
      have f2 := HW2.out.frozen 2
      have f3 := HW2.out.frozen 3
      simp only [List.getElem?_toArray, List.getElem?_cons_zero, List.getElem?_cons_succ] at a0 a1 a2 a3
      go_wp2_with fail
      exact bodyPost_ret (v := resV noneE) (by simp [results, Try.results16, go_sem, a0, a1, a2, a3, resV, noneE]) rfl ⟨rfl, set4 HB2.out Hg.out⟩
    | succ k =>
      have hls := last_some Hsrt.out hcut hh
      have e := lastE_one Hm.out hls
      subst e
      obtain ⟨hkl, hle, _⟩ := hls
      have n1 : IntKind.i64.wrap (((k + 1 : Nat) : Int) - 1) = (k : Int) := by have := Hll.out; rw [IntWalk.i64_in _ ⟨by omega, by omega⟩]; omega
      have n2 : IntKind.i64.wrap ((k : Int) + 1 - 1) = (k : Int) := by have := Hll.out; rw [IntWalk.i64_in _ ⟨by omega, by omega⟩]; omega
      clear hh hcut Hm
      obtain ⟨b1, o1, rfl, hb1, p0, p1, p2, p3⟩ := (HA.out.below HB2.out).at k hkl
      have hek := oneE_yes (Hone.out k hkl)
      have hans : ansE l x (some k) = resE l[k] x := ansE_some hkl
      have hR9 : resE l[k] x = R := by rw [← hans]; exact HR.out
      clear hans HR
      generalize l[k]'hkl = e at *
      obtain ⟨id, off, len, run⟩ := e
      simp only at p0 p1 p2 p3 hek hle
      have HR9 := Lib.hid hR9
      clear hR9
      obtain ⟨g0, g1, _, _, _⟩ := hek
      have hk0 : (0 : Int) ≤ (k : Int) := by omega
      have hk1 : (k : Int) < (L : Int) := by have := HL.out; omega
      have kneg : decide ((k : Int) < 0) = false := decide_eq_false (by omega)
      go_upto_region 9 with (fail)
      obtain ⟨X3, hX⟩ : ∃ X, X = X2.alloc (.cells #[.int .u64 (id : Int), .int .u64 (off : Int), .int .u64 (len : Int), .int .u64 (run : Int)] 39) := ⟨_, rfl⟩
      obtain ⟨g2, hg2⟩ : ∃ g, g = X2.heap.size := ⟨_, rfl⟩
      have HW3 : Hid (Whole X3 g 39 #[.int .u64 0, .int .u64 0, .int .u64 0, .int .u64 0]) := by rw [hX]; exact HW2.out.alloc _
      have HB3 : Hid (Below w.heap.size w X3) := by rw [hX]; exact below_then HB2.out ((Below.refl _ _).alloc (Nat.le_refl _) _) HB2.out.size
      have HN : Hid (Whole X3 g2 39 #[.int .u64 (id : Int), .int .u64 (off : Int), .int .u64 (len : Int), .int .u64 (run : Int)]) := by rw [hX, hg2]; exact Whole.new X2 _ _
      rw [← hX, ← hg2]
      clear hX hg2 p0 p1 p2 p3
      have r0 := HN.out.cell 0
      have r1 := HN.out.cell 1
      have r2 := HN.out.cell 2
      have r3 := HN.out.cell 3
      simp only [List.getElem?_toArray, List.getElem?_cons_zero, List.getElem?_cons_succ] at r0 r1 r2 r3
      have a0 := HW3.out.cell 0
      have a1 := HW3.out.cell 1
      have a2 := HW3.out.cell 2
      have a3 := HW3.out.cell 3
      have f0 := HW3.out.frozen 0
      have f1 := HW3.out.frozen 1
      have f2 := HW3.out.frozen 2
      have f3 := HW3.out.frozen 3
      simp only [List.getElem?_toArray, List.getElem?_cons_zero, List.getElem?_cons_succ] at a0 a1 a2 a3
      have w1 : IntKind.u64.wrap ((id : Int) + (run : Int)) = ((id + run : Nat) : Int) := by rw [IntWalk.u64_in _ ⟨by omega, by omega⟩]; omega
      obtain ⟨S, hS⟩ : ∃ S : Nat, id + run = S := ⟨_, rfl⟩
      rw [hS] at w1
      by_cases c1 : 0 < run
      · have d1 : decide ((0 : Int) < (run : Int)) = true := decide_eq_true (by omega)
        have d2 : decide (0 < run) = true := decide_eq_true c1
        by_cases c2 : S ≤ x
        · have d3 : decide ((S : Int) ≤ (x : Int)) = true := decide_eq_true (by omega)
          have d4 : decide (S ≤ x) = true := decide_eq_true c2
          have e9 : noneE = R := by rw [← HR9.out]; exact (show resE ⟨id, off, len, run⟩ x = noneE from if_pos ⟨c1, by rw [hS]; exact c2⟩).symm
          subst e9
          clear c1 c2 hS g0 g1
          go_wp2_with fail
          exact bodyPost_ret (v := resV noneE) (by simp [results, Try.results16, go_sem, a0, a1, a2, a3, resV, noneE]) rfl ⟨rfl, set4 HB3.out Hg.out⟩
        · have d3 : decide ((S : Int) ≤ (x : Int)) = false := decide_eq_false (by omega)
          have d4 : decide (S ≤ x) = false := decide_eq_false c2
          have e9 : (⟨id, off, len, run⟩, true) = R := by rw [← HR9.out]; exact (show resE ⟨id, off, len, run⟩ x = (⟨id, off, len, run⟩, true) from if_neg (fun h => c2 (by have := h.2; rw [hS] at this; exact this))).symm
          subst e9
          clear c1 c2 hS g0 g1
          go_wp2_with fail
          exact bodyPost_ret (v := resV (⟨id, off, len, run⟩, true)) (by simp [results, Try.results16, go_sem, a0, a1, a2, a3, resV]) rfl ⟨rfl, set4 HB3.out Hg.out⟩
      · have d1 : decide ((0 : Int) < (run : Int)) = false := decide_eq_false (by omega)
        have d2 : decide (0 < run) = false := decide_eq_false c1
        have e9 : (⟨id, off, len, run⟩, true) = R := by rw [← HR9.out]; exact (show resE ⟨id, off, len, run⟩ x = (⟨id, off, len, run⟩, true) from if_neg (fun h => c1 h.1)).symm
        subst e9
        clear c1 hS g0 g1
        go_wp2_with fail
        exact bodyPost_ret (v := resV (⟨id, off, len, run⟩, true)) (by simp [results, Try.results16, go_sem, a0, a1, a2, a3, resV]) rfl ⟨rfl, set4 HB3.out Hg.out⟩
  · have hls := last_hit Hsrt.out hcut hh
    have e := lastE_one Hm.out hls
    subst e
    obtain ⟨k, hk⟩ : ∃ k, n = k := ⟨_, rfl⟩
    subst hk
    obtain ⟨hkl, hle, _⟩ := hls
    clear hh hcut Hm
    obtain ⟨b1, o1, rfl, hb1, p0, p1, p2, p3⟩ := (HA.out.below HB2.out).at n hkl
    have hek := oneE_yes (Hone.out n hkl)
    have hans : ansE l x (some n) = resE l[n] x := ansE_some hkl
    have hR9 : resE l[n] x = R := by rw [← hans]; exact HR.out
    clear hans HR
    generalize l[n]'hkl = e at *
    obtain ⟨id, off, len, run⟩ := e
    simp only at p0 p1 p2 p3 hek hle
    have HR9 := Lib.hid hR9
    clear hR9
    obtain ⟨g0, g1, _, _, _⟩ := hek
    have hk0 : (0 : Int) ≤ (n : Int) := by omega
    have hk1 : (n : Int) < (L : Int) := by have := HL.out; omega
    have kneg : decide ((n : Int) < 0) = false := decide_eq_false (by omega)
    go_upto_region 9 with (fail)
    obtain ⟨X3, hX⟩ : ∃ X, X = X2.alloc (.cells #[.int .u64 (id : Int), .int .u64 (off : Int), .int .u64 (len : Int), .int .u64 (run : Int)] 39) := ⟨_, rfl⟩
    obtain ⟨g2, hg2⟩ : ∃ g, g = X2.heap.size := ⟨_, rfl⟩
    have HW3 : Hid (Whole X3 g 39 #[.int .u64 0, .int .u64 0, .int .u64 0, .int .u64 0]) := by rw [hX]; exact HW2.out.alloc _
    have HB3 : Hid (Below w.heap.size w X3) := by rw [hX]; exact below_then HB2.out ((Below.refl _ _).alloc (Nat.le_refl _) _) HB2.out.size
    have HN : Hid (Whole X3 g2 39 #[.int .u64 (id : Int), .int .u64 (off : Int), .int .u64 (len : Int), .int .u64 (run : Int)]) := by rw [hX, hg2]; exact Whole.new X2 _ _
    rw [← hX, ← hg2]
    clear hX hg2 p0 p1 p2 p3
    have r0 := HN.out.cell 0
    have r1 := HN.out.cell 1
    have r2 := HN.out.cell 2
    have r3 := HN.out.cell 3
    simp only [List.getElem?_toArray, List.getElem?_cons_zero, List.getElem?_cons_succ] at r0 r1 r2 r3
    have a0 := HW3.out.cell 0
    have a1 := HW3.out.cell 1
    have a2 := HW3.out.cell 2
    have a3 := HW3.out.cell 3
    have f0 := HW3.out.frozen 0
    have f1 := HW3.out.frozen 1
    have f2 := HW3.out.frozen 2
    have f3 := HW3.out.frozen 3
    simp only [List.getElem?_toArray, List.getElem?_cons_zero, List.getElem?_cons_succ] at a0 a1 a2 a3
    have w1 : IntKind.u64.wrap ((id : Int) + (run : Int)) = ((id + run : Nat) : Int) := by rw [IntWalk.u64_in _ ⟨by omega, by omega⟩]; omega
    obtain ⟨S, hS⟩ : ∃ S : Nat, id + run = S := ⟨_, rfl⟩
    rw [hS] at w1
    by_cases c1 : 0 < run
    · have d1 : decide ((0 : Int) < (run : Int)) = true := decide_eq_true (by omega)
      have d2 : decide (0 < run) = true := decide_eq_true c1
      by_cases c2 : S ≤ x
      · have d3 : decide ((S : Int) ≤ (x : Int)) = true := decide_eq_true (by omega)
        have d4 : decide (S ≤ x) = true := decide_eq_true c2
        have e9 : noneE = R := by rw [← HR9.out]; exact (show resE ⟨id, off, len, run⟩ x = noneE from if_pos ⟨c1, by rw [hS]; exact c2⟩).symm
        subst e9
        clear c1 c2 hS g0 g1
        go_wp2_with fail
        exact bodyPost_ret (v := resV noneE) (by simp [results, Try.results16, go_sem, a0, a1, a2, a3, resV, noneE]) rfl ⟨rfl, set4 HB3.out Hg.out⟩
      · have d3 : decide ((S : Int) ≤ (x : Int)) = false := decide_eq_false (by omega)
        have d4 : decide (S ≤ x) = false := decide_eq_false c2
        have e9 : (⟨id, off, len, run⟩, true) = R := by rw [← HR9.out]; exact (show resE ⟨id, off, len, run⟩ x = (⟨id, off, len, run⟩, true) from if_neg (fun h => c2 (by have := h.2; rw [hS] at this; exact this))).symm
        subst e9
        clear c1 c2 hS g0 g1
        go_wp2_with fail
        exact bodyPost_ret (v := resV (⟨id, off, len, run⟩, true)) (by simp [results, Try.results16, go_sem, a0, a1, a2, a3, resV]) rfl ⟨rfl, set4 HB3.out Hg.out⟩
    · have d1 : decide ((0 : Int) < (run : Int)) = false := decide_eq_false (by omega)
      have d2 : decide (0 < run) = false := decide_eq_false c1
      have e9 : (⟨id, off, len, run⟩, true) = R := by rw [← HR9.out]; exact (show resE ⟨id, off, len, run⟩ x = (⟨id, off, len, run⟩, true) from if_neg (fun h => c1 h.1)).symm
      subst e9
      clear c1 hS g0 g1
      go_wp2_with fail
      exact bodyPost_ret (v := resV (⟨id, off, len, run⟩, true)) (by simp [results, Try.results16, go_sem, a0, a1, a2, a3, resV]) rfl ⟨rfl, set4 HB3.out Hg.out⟩

/-- The last place of the first k whose entry stands at or ahead of x, as the reference counts it. -/
def bestE (l : List En) (x k : Nat) (u : Value) : Prop :=
  (u = .int .i64 (-1) ∧ ∀ q (h : q < l.length), q < k → x < (l[q]).id) ∨
  (∃ m : Nat, u = .int .i64 (m : Int) ∧ m < k ∧ ∃ h : m < l.length, (l[m]).id ≤ x ∧ ∀ q (h : q < l.length), m < q → q < k → x < (l[q]).id)
theorem bestE_up {l : List En} {x : Nat} {u : Value} (k : Nat) (hk : k < l.length) (h : bestE l x k u) : (l[k]).id ≤ x → bestE l x (k + 1) (.int .i64 (k : Int)) := fun hle =>
  .inr ⟨k, rfl, by omega, hk, hle, fun q hq h1 h2 => absurd h2 (by omega)⟩
theorem bestE_stay {l : List En} {x : Nat} {u : Value} (k : Nat) (hk : k < l.length) (h : bestE l x k u) : ¬ (l[k]).id ≤ x → bestE l x (k + 1) u := fun hle => by
  have key : ∀ q (hq : q < l.length), q = k → x < (l[q]).id := fun q hq e => by subst e; omega
  rcases h with ⟨h1, h2⟩ | ⟨m, h1, h2, h3, h4, h5⟩
  · exact .inl ⟨h1, fun q hq hqk => by
      by_cases e : q = k
      · exact key q hq e
      · exact h2 q hq (by omega)⟩
  · exact .inr ⟨m, h1, by omega, h3, h4, fun q hq h6 h7 => by
      by_cases e : q = k
      · exact key q hq e
      · exact h5 q hq h6 (by omega)⟩

set_option maxHeartbeats 8000000 in
theorem refFind_no (v : Value) (l : List En) (x : Nat) (w : World) (h : RdE w w.heap.size v l) (hl : l.length ≤ 100000000) (hr : rightE l = false) : Calls Try.prog 17 #[v, .int .u64 (x : Int)] w (FPost w noneE) := by
  obtain ⟨X0, hX0⟩ : ∃ X, X = w.alloc (.cells #[.int .u64 0, .int .u64 0, .int .u64 0, .int .u64 0] 39) := ⟨_, rfl⟩
  obtain ⟨g, hg⟩ : ∃ g, g = w.heap.size := ⟨_, rfl⟩
  have HW0 : Hid (Whole X0 g 39 #[.int .u64 0, .int .u64 0, .int .u64 0, .int .u64 0]) := by rw [hX0, hg]; exact Whole.new w _ _
  have HB0 : Hid (Below w.heap.size w X0) := by rw [hX0]; exact (Below.refl _ _).alloc (Nat.le_refl _) _
  have Hg : Hid (w.heap.size ≤ g) := by show _ ≤ _; omega
  have Hr := Lib.hid fun W hW => refRight_any v l W hW hl false hr
  have HV := Lib.hid h
  obtain ⟨a, c, rfl, _, _, ha, hok⟩ := h
  obtain ⟨L, hL⟩ : ∃ L, L = l.length := ⟨_, rfl⟩
  have HA := Lib.hid ha
  have HL := Lib.hid hL
  have HX0 := Lib.hid hX0
  have Hg0 := Lib.hid hg
  have Hll : Hid (l.length ≤ 100000000) := hl
  rw [← hL] at Hr HV hl ⊢
  clear hX0 hg ha hok hr hL
  go_enter Try.func17, Try.ntmps17
  go_wp2_with fail
  rw [← HX0.out, ← Hg0.out]
  go_loopw [7, 6] (fun i u W => ∃ k : Nat, k ≤ L ∧ i = .int .i64 (k : Int) ∧ Hid (Below X0.heap.size X0 W) ∧ Hid (bestE l x k u)) (fun i _ _ => L - (intOf i).toNat)
  case atStart => exact ⟨0, Nat.zero_le _, rfl, Below.refl _ _, Lib.hid (.inl ⟨rfl, fun q hq h => absurd h (by omega)⟩)⟩
  case round =>
    obtain ⟨k, hk, rfl, HBW, HE⟩ := hrel
    by_cases hlt : k < L
    · have hkl : k < l.length := by have := HL.out; omega
      obtain ⟨b1, o1, rfl, hb1, p0, p1, p2, p3⟩ := (HA.out.below (below_then HB0.out HBW.out HB0.out.size)).at k hkl
      have hup := bestE_up k hkl HE.out
      have hst := bestE_stay k hkl HE.out
      generalize l[k]'hkl = e at *
      obtain ⟨id, off, len, run⟩ := e
      simp only at p0 p1 p2 p3 hup hst
      have hk0 : (0 : Int) ≤ (k : Int) := by omega
      have hk1 : (k : Int) < (L : Int) := by omega
      by_cases c1 : id ≤ x
      · have d1 : decide ((id : Int) ≤ (x : Int)) = true := decide_eq_true (by omega)
        have d2 : decide (id ≤ x) = true := decide_eq_true c1
        have Hu := Lib.hid (hup c1)
        clear hup hst c1 HE
        go_wp2_with fail
        go_roundw
        case rel => exact ⟨k + 1, hlt, by go_num, HBW, Hu⟩
        case measure => simp [intOf]; omega
      · have d1 : decide ((id : Int) ≤ (x : Int)) = false := decide_eq_false (by omega)
        have d2 : decide (id ≤ x) = false := decide_eq_false c1
        have Hu := Lib.hid (hst c1)
        clear hup hst c1 HE
        go_wp2_with fail
        go_roundw
        case rel => exact ⟨k + 1, hlt, by go_num, HBW, Hu⟩
        case measure => simp [intOf]; omega
    · obtain rfl : L = k := by omega
      obtain ⟨X1, hX1⟩ : ∃ X, X = wr := ⟨_, rfl⟩
      rw [← hX1] at HBW ⊢
      have HB1 := Lib.hid (below_then HB0.out HBW.out HB0.out.size)
      have HW1 := Lib.hid (HW0.out.below HBW.out HW0.out.lt)
      clear hX1
      go_wp2_with fail
      refine (Hr.out _ ((HV.out.below HB1.out).more HB1.out.size)).mono ?_
      rintro e X2 ⟨rfl, hX⟩
      have HB2 := Lib.hid (below_then HB1.out hX HB1.out.size)
      have HW2 := Lib.hid (HW1.out.below hX HW1.out.lt)
      clear hX
      have a0 := HW2.out.cell 0
      have a1 := HW2.out.cell 1
      have a2 := HW2.out.cell 2
      have a3 := HW2.out.cell 3
      have f0 := HW2.out.frozen 0
      have f1 := HW2.out.frozen 1
      have f2 := HW2.out.frozen 2
      have f3 := HW2.out.frozen 3
      simp only [List.getElem?_toArray, List.getElem?_cons_zero, List.getElem?_cons_succ] at a0 a1 a2 a3
      go_wp2_with fail
      exact bodyPost_ret (v := resV noneE) (by simp [results, Try.results17, go_sem, a0, a1, a2, a3, resV, noneE]) rfl ⟨rfl, set4 HB2.out Hg.out⟩

set_option maxHeartbeats 16000000 in
theorem refFind_yes (v : Value) (l : List En) (x : Nat) (w : World) (h : RdE w w.heap.size v l) (hl : l.length ≤ 100000000) (hx : x < 18446744073709551616) (hr : rightE l = true) (m : Option Nat) (hm : lastE l x m) (R : En × Bool) (hR : ansE l x m = R) : Calls Try.prog 17 #[v, .int .u64 (x : Int)] w (FPost w R) := by
  obtain ⟨X0, hX0⟩ : ∃ X, X = w.alloc (.cells #[.int .u64 0, .int .u64 0, .int .u64 0, .int .u64 0] 39) := ⟨_, rfl⟩
  obtain ⟨g, hg⟩ : ∃ g, g = w.heap.size := ⟨_, rfl⟩
  have HW0 : Hid (Whole X0 g 39 #[.int .u64 0, .int .u64 0, .int .u64 0, .int .u64 0]) := by rw [hX0, hg]; exact Whole.new w _ _
  have HB0 : Hid (Below w.heap.size w X0) := by rw [hX0]; exact (Below.refl _ _).alloc (Nat.le_refl _) _
  have Hg : Hid (w.heap.size ≤ g) := by show _ ≤ _; omega
  obtain ⟨_, hone, hsrt⟩ := right_all hr
  have Hr := Lib.hid fun W hW => refRight_any v l W hW hl true hr
  have HV := Lib.hid h
  obtain ⟨a, c, rfl, _, _, ha, hok⟩ := h
  obtain ⟨L, hL⟩ : ∃ L, L = l.length := ⟨_, rfl⟩
  have HA := Lib.hid ha
  have HL := Lib.hid hL
  have Hone := Lib.hid hone
  have Hm := Lib.hid hm
  have HR := Lib.hid hR
  have HX0 := Lib.hid hX0
  have Hg0 := Lib.hid hg
  have Hll : Hid (l.length ≤ 100000000) := hl
  rw [← hL] at Hr HV hl ⊢
  clear hX0 hg ha hok hr hL hm hone hsrt hR
  go_enter Try.func17, Try.ntmps17
  go_wp2_with fail
  rw [← HX0.out, ← Hg0.out]
  go_loopw [7, 6] (fun i u W => ∃ k : Nat, k ≤ L ∧ i = .int .i64 (k : Int) ∧ Hid (Below X0.heap.size X0 W) ∧ Hid (bestE l x k u)) (fun i _ _ => L - (intOf i).toNat)
  case atStart => exact ⟨0, Nat.zero_le _, rfl, Below.refl _ _, Lib.hid (.inl ⟨rfl, fun q hq h => absurd h (by omega)⟩)⟩
  case round =>
    obtain ⟨k, hk, rfl, HBW, HE⟩ := hrel
    by_cases hlt : k < L
    · have hkl : k < l.length := by have := HL.out; omega
      obtain ⟨b1, o1, rfl, hb1, p0, p1, p2, p3⟩ := (HA.out.below (below_then HB0.out HBW.out HB0.out.size)).at k hkl
      have hup := bestE_up k hkl HE.out
      have hst := bestE_stay k hkl HE.out
      generalize l[k]'hkl = e at *
      obtain ⟨id, off, len, run⟩ := e
      simp only at p0 p1 p2 p3 hup hst
      have hk0 : (0 : Int) ≤ (k : Int) := by omega
      have hk1 : (k : Int) < (L : Int) := by omega
      by_cases c1 : id ≤ x
      · have d1 : decide ((id : Int) ≤ (x : Int)) = true := decide_eq_true (by omega)
        have d2 : decide (id ≤ x) = true := decide_eq_true c1
        have Hu := Lib.hid (hup c1)
        clear hup hst c1 HE
        go_wp2_with fail
        go_roundw
        case rel => exact ⟨k + 1, hlt, by go_num, HBW, Hu⟩
        case measure => simp [intOf]; omega
      · have d1 : decide ((id : Int) ≤ (x : Int)) = false := decide_eq_false (by omega)
        have d2 : decide (id ≤ x) = false := decide_eq_false c1
        have Hu := Lib.hid (hst c1)
        clear hup hst c1 HE
        go_wp2_with fail
        go_roundw
        case rel => exact ⟨k + 1, hlt, by go_num, HBW, Hu⟩
        case measure => simp [intOf]; omega
    · obtain rfl : L = k := by omega
      obtain ⟨X1, hX1⟩ : ∃ X, X = wr := ⟨_, rfl⟩
      rw [← hX1] at HBW ⊢
      have HB1 := Lib.hid (below_then HB0.out HBW.out HB0.out.size)
      have HW1 := Lib.hid (HW0.out.below HBW.out HW0.out.lt)
      clear hX1
      rcases HE.out with ⟨rfl, h2⟩ | ⟨k, rfl, h2, hls⟩
      · have hls : lastE l x none := fun q hq => h2 q hq (by have := HL.out; omega)
        have e := lastE_one Hm.out hls
        subst e
        have e9 : noneE = R := HR.out
        subst e9
        clear h2 hls HE
        go_wp2_with fail
        refine (Hr.out _ ((HV.out.below HB1.out).more HB1.out.size)).mono ?_
        rintro e X2 ⟨rfl, hX⟩
        have HB2 := Lib.hid (below_then HB1.out hX HB1.out.size)
        have HW2 := Lib.hid (HW1.out.below hX HW1.out.lt)
        clear hX
        have a0 := HW2.out.cell 0
        have a1 := HW2.out.cell 1
        have a2 := HW2.out.cell 2
        have a3 := HW2.out.cell 3
        have f0 := HW2.out.frozen 0
        have f1 := HW2.out.frozen 1
        have f2 := HW2.out.frozen 2
        have f3 := HW2.out.frozen 3
        simp only [List.getElem?_toArray, List.getElem?_cons_zero, List.getElem?_cons_succ] at a0 a1 a2 a3
        go_wp2_with fail
        exact bodyPost_ret (v := resV noneE) (by simp [results, Try.results17, go_sem, a0, a1, a2, a3, resV, noneE]) rfl ⟨rfl, set4 HB2.out Hg.out⟩
      · obtain ⟨hkl, hle, h5⟩ := hls
        have hls : lastE l x (some k) := ⟨hkl, hle, fun q hq h6 => h5 q hq h6 (by have := HL.out; omega)⟩
        have e := lastE_one Hm.out hls
        subst e
        have kneg : decide ((k : Int) < 0) = false := decide_eq_false (by omega)
        clear h2 h5 hls HE
        go_wp2_with fail
        refine (Hr.out _ ((HV.out.below HB1.out).more HB1.out.size)).mono ?_
        rintro e X2 ⟨rfl, hX⟩
        have HB2 := Lib.hid (below_then HB1.out hX HB1.out.size)
        have HW2 := Lib.hid (HW1.out.below hX HW1.out.lt)
        clear hX
        obtain ⟨b1, o1, rfl, hb1, p0, p1, p2, p3⟩ := (HA.out.below HB2.out).at k hkl
        have hek := oneE_yes (Hone.out k hkl)
        have hans : ansE l x (some k) = resE l[k] x := ansE_some hkl
        have hR9 : resE l[k] x = R := by rw [← hans]; exact HR.out
        clear hans HR
        generalize l[k]'hkl = e at *
        obtain ⟨id, off, len, run⟩ := e
        simp only at p0 p1 p2 p3 hek hle
        have HR9 := Lib.hid hR9
        clear hR9
        obtain ⟨g0, g1, _, _, _⟩ := hek
        have hk0 : (0 : Int) ≤ (k : Int) := by omega
        have hk1 : (k : Int) < (L : Int) := by have := HL.out; omega
        have kneg : decide ((k : Int) < 0) = false := decide_eq_false (by omega)
        go_upto_region 10 with (fail)
        obtain ⟨X3, hX⟩ : ∃ X, X = X2.alloc (.cells #[.int .u64 (id : Int), .int .u64 (off : Int), .int .u64 (len : Int), .int .u64 (run : Int)] 39) := ⟨_, rfl⟩
        obtain ⟨g2, hg2⟩ : ∃ g, g = X2.heap.size := ⟨_, rfl⟩
        have HW3 : Hid (Whole X3 g 39 #[.int .u64 0, .int .u64 0, .int .u64 0, .int .u64 0]) := by rw [hX]; exact HW2.out.alloc _
        have HB3 : Hid (Below w.heap.size w X3) := by rw [hX]; exact below_then HB2.out ((Below.refl _ _).alloc (Nat.le_refl _) _) HB2.out.size
        have HN : Hid (Whole X3 g2 39 #[.int .u64 (id : Int), .int .u64 (off : Int), .int .u64 (len : Int), .int .u64 (run : Int)]) := by rw [hX, hg2]; exact Whole.new X2 _ _
        rw [← hX, ← hg2]
        clear hX hg2 p0 p1 p2 p3
        have r0 := HN.out.cell 0
        have r1 := HN.out.cell 1
        have r2 := HN.out.cell 2
        have r3 := HN.out.cell 3
        simp only [List.getElem?_toArray, List.getElem?_cons_zero, List.getElem?_cons_succ] at r0 r1 r2 r3
        have a0 := HW3.out.cell 0
        have a1 := HW3.out.cell 1
        have a2 := HW3.out.cell 2
        have a3 := HW3.out.cell 3
        have f0 := HW3.out.frozen 0
        have f1 := HW3.out.frozen 1
        have f2 := HW3.out.frozen 2
        have f3 := HW3.out.frozen 3
        simp only [List.getElem?_toArray, List.getElem?_cons_zero, List.getElem?_cons_succ] at a0 a1 a2 a3
        have w1 : IntKind.u64.wrap ((x : Int) - (id : Int)) = ((x - id : Nat) : Int) := by rw [IntWalk.u64_in _ ⟨by omega, by omega⟩]; omega
        obtain ⟨S, hS⟩ : ∃ S : Nat, x - id = S := ⟨_, rfl⟩
        rw [hS] at w1
        by_cases c1 : run = 0
        · subst c1
          have e9 : (⟨id, off, len, 0⟩, true) = R := by rw [← HR9.out]; exact (show resE ⟨id, off, len, 0⟩ x = (⟨id, off, len, 0⟩, true) from if_neg (fun h => absurd h.1 (by show ¬ 0 < 0; omega))).symm
          subst e9
          clear hS g0 g1
          go_wp2_with fail
          exact bodyPost_ret (v := resV (⟨id, off, len, 0⟩, true)) (by simp [results, Try.results17, go_sem, a0, a1, a2, a3, resV]) rfl ⟨rfl, set4 HB3.out Hg.out⟩
        · have d1 : ((run : Int) == 0) = false := beq_eq_false_iff_ne.mpr (by omega)
          by_cases c2 : S < run
          · have d3 : decide ((S : Int) < (run : Int)) = true := decide_eq_true (by omega)
            have d4 : decide (S < run) = true := decide_eq_true c2
            have e9 : (⟨id, off, len, run⟩, true) = R := by rw [← HR9.out]; exact (show resE ⟨id, off, len, run⟩ x = (⟨id, off, len, run⟩, true) from if_neg (fun h => by have := h.2; simp only at this; omega)).symm
            subst e9
            clear c1 c2 hS g0 g1
            go_wp2_with fail
            exact bodyPost_ret (v := resV (⟨id, off, len, run⟩, true)) (by simp [results, Try.results17, go_sem, a0, a1, a2, a3, resV]) rfl ⟨rfl, set4 HB3.out Hg.out⟩
          · have d3 : decide ((S : Int) < (run : Int)) = false := decide_eq_false (by omega)
            have d4 : decide (S < run) = false := decide_eq_false c2
            have e9 : noneE = R := by rw [← HR9.out]; exact (show resE ⟨id, off, len, run⟩ x = noneE from if_pos ⟨by show 0 < run; omega, by show id + run ≤ x; omega⟩).symm
            subst e9
            clear c1 c2 hS g0 g1
            go_wp2_with fail
            exact bodyPost_ret (v := resV noneE) (by simp [results, Try.results17, go_sem, a0, a1, a2, a3, resV, noneE]) rfl ⟨rfl, set4 HB3.out Hg.out⟩
end Go.Proofs.Ytaafcmgkmdbefaa
