/- Layer 16: which of two decimals is greater: plain mathematics. -/
import Derived.Test.YtdbcklabinmgfaaDoorDecMath
namespace Go.Proofs.YtdbcklabinmgfaaDoor
set_option linter.unusedVariables false
def rightD (d : DV) : Bool :=
  if d.2.1 = [] then !d.1 && decide (d.2.2 = 0) else decide (d.2.1.length ≤ 100) && decide (d.2.1.getD 0 0 ≠ 48) && decide (d.2.1.getD (d.2.1.length - 1) 0 ≠ 48) && d.2.1.all isD && inR d.2.2
def cbN : List Nat → List Nat → Int
  | [], [] => 0
  | [], _ :: _ => -1
  | _ :: _, [] => 1
  | a :: l, b :: m => if a < b then -1 else if b < a then 1 else cbN l m
theorem cbN_anti : ∀ l m : List Nat, cbN m l = -cbN l m
  | [], [] => rfl
  | [], _ :: _ => rfl
  | _ :: _, [] => rfl
  | a :: l, b :: m => by
    have ih := cbN_anti l m
    unfold cbN
    by_cases h1 : a < b
    · rw [if_pos h1, if_neg (by omega), if_pos h1]; rfl
    · by_cases h2 : b < a
      · rw [if_pos h2, if_neg h1, if_pos h2]
      · rw [if_neg h1, if_neg h2, if_neg h2, if_neg h1]; exact ih
/-- The first place, from p down, n of them, where two numbers' digits differ. -/
def fdiff (u v : Int → Int) (p : Int) : Nat → Int
  | 0 => 0
  | n + 1 => if u p < v p then -1 else if v p < u p then 1 else fdiff u v (p - 1) n
theorem fdiff_anti (u v : Int → Int) : ∀ (n : Nat) (p : Int), fdiff v u p n = -fdiff u v p n
  | 0, p => rfl
  | n + 1, p => by
    have ih := fdiff_anti u v n (p - 1)
    unfold fdiff
    by_cases h1 : u p < v p
    · rw [if_pos h1, if_neg (by omega), if_pos h1]; rfl
    · by_cases h2 : v p < u p
      · rw [if_pos h2, if_neg h1, if_pos h2]
      · rw [if_neg h1, if_neg h2, if_neg h2, if_neg h1]; exact ih
theorem fdiff_skip (u v : Int → Int) : ∀ (k n : Nat) (p : Int), (∀ q, p - k < q → q ≤ p → u q = v q) → fdiff u v p (n + k) = fdiff u v (p - k) n
  | 0, n, p, h => by rw [show p - ((0 : Nat) : Int) = p by omega]; rfl
  | k + 1, n, p, h => by
    have hp := h p (by omega) (by omega)
    have ih := fdiff_skip u v k n (p - 1) (fun q h1 h2 => h q (by omega) (by omega))
    rw [show n + (k + 1) = (n + k) + 1 by omega]
    show (if u p < v p then -1 else if v p < u p then 1 else fdiff u v (p - 1) (n + k)) = _
    rw [if_neg (by omega), if_neg (by omega), ih]
    congr 1
    omega
theorem fdiff_none (u v : Int → Int) : ∀ (n : Nat) (p : Int), (∀ q, q ≤ p → u q = v q) → fdiff u v p n = 0
  | 0, p, h => rfl
  | n + 1, p, h => by
    have hp := h p (by omega)
    show (if u p < v p then -1 else if v p < u p then 1 else fdiff u v (p - 1) n) = _
    rw [if_neg (by omega), if_neg (by omega)]
    exact fdiff_none u v n (p - 1) (fun q h1 => h q (by omega))
theorem fdiff_neg (u v : Int → Int) : ∀ (n : Nat) (p : Int), fdiff (fun q => -u q) (fun q => -v q) p n = fdiff v u p n
  | 0, p => rfl
  | n + 1, p => by
    have ih := fdiff_neg u v n (p - 1)
    show (if -u p < -v p then -1 else if -v p < -u p then 1 else fdiff (fun q => -u q) (fun q => -v q) (p - 1) n) = (if v p < u p then -1 else if u p < v p then 1 else fdiff v u (p - 1) n)
    rw [ih]
    by_cases h1 : v p < u p
    · rw [if_pos h1, if_pos (by omega)]
    · rw [if_neg h1, if_neg (by omega)]
      by_cases h2 : u p < v p
      · rw [if_pos h2, if_pos (by omega)]
      · rw [if_neg h2, if_neg (by omega)]
def dg (D : List Nat) (x p : Int) : Int :=
  if 0 ≤ (D.length : Int) - 1 - (p - x) ∧ (D.length : Int) - 1 - (p - x) < (D.length : Int) then (D.getD ((D.length : Int) - 1 - (p - x)).toNat 0 : Int) - 48 else 0
def sgI (b : Bool) (z : Int) : Int := if b = true then -z else z
def Ends (D : List Nat) : Prop := ∀ t, D ≠ t ++ [48]
theorem Ends.tail {d : Nat} {D : List Nat} (h : Ends (d :: D)) : Ends D := fun t e => h (d :: t) (by rw [e]; rfl)
theorem cbN_pad : ∀ (D E : List Nat) (u v : Int → Int) (q : Int) (n : Nat), (∀ d ∈ D, 48 ≤ d) → (∀ d ∈ E, 48 ≤ d) → Ends D → Ends E →
    (∀ i : Nat, u (q - i) = ((D.getD i 48 : Nat) : Int) - 48) → (∀ i : Nat, v (q - i) = ((E.getD i 48 : Nat) : Int) - 48) → D.length ≤ n → E.length ≤ n → fdiff u v q n = cbN D E
  | [], [], u, v, q, n, _, _, _, _, hu, hv, _, _ => by
    rw [fdiff_none]
    · rfl
    · intro z hz
      obtain ⟨i, hi⟩ : ∃ i : Nat, (q - z) = i := ⟨(q - z).toNat, by omega⟩
      have := hu i
      have := hv i
      rw [show z = q - i by omega]
      rw [hu i, hv i]
  | [], e :: E, u, v, q, n, hD, hE, eD, eE, hu, hv, hn, hm => by
    obtain ⟨n, rfl⟩ : ∃ m, n = m + 1 := ⟨n - 1, by simp only [List.length_cons] at hm; omega⟩
    have h1 := hu 0
    have h2 := hv 0
    simp only [List.getD_cons_zero, List.getD_nil] at h1 h2
    rw [show q - ((0 : Nat) : Int) = q by omega] at h1 h2
    have h3 := hE e (List.mem_cons_self ..)
    show (if u q < v q then -1 else if v q < u q then 1 else fdiff u v (q - 1) n) = -1
    by_cases h : 48 < e
    · rw [if_pos (by omega)]
    · rw [if_neg (by omega), if_neg (by omega)]
      rw [cbN_pad [] E u v (q - 1) n hD (fun d hd => hE d (List.mem_cons_of_mem _ hd)) eD eE.tail (fun i => by have := hu (i + 1); rw [show q - 1 - (i : Int) = q - ((i + 1 : Nat) : Int) by omega, this]; rfl) (fun i => by have := hv (i + 1); rw [show q - 1 - (i : Int) = q - ((i + 1 : Nat) : Int) by omega, this]; rfl) (Nat.zero_le _) (by simp only [List.length_cons] at hm; omega)]
      cases E with
      | nil => exact absurd (by rw [show e = 48 by omega]; rfl) (eE [])
      | cons a l => rfl
  | d :: D, [], u, v, q, n, hD, hE, eD, eE, hu, hv, hn, hm => by
    obtain ⟨n, rfl⟩ : ∃ m, n = m + 1 := ⟨n - 1, by simp only [List.length_cons] at hn; omega⟩
    have h1 := hu 0
    have h2 := hv 0
    simp only [List.getD_cons_zero, List.getD_nil] at h1 h2
    rw [show q - ((0 : Nat) : Int) = q by omega] at h1 h2
    have h3 := hD d (List.mem_cons_self ..)
    show (if u q < v q then -1 else if v q < u q then 1 else fdiff u v (q - 1) n) = 1
    by_cases h : 48 < d
    · rw [if_neg (by omega), if_pos (by omega)]
    · rw [if_neg (by omega), if_neg (by omega)]
      rw [cbN_pad D [] u v (q - 1) n (fun d hd => hD d (List.mem_cons_of_mem _ hd)) hE eD.tail eE (fun i => by have := hu (i + 1); rw [show q - 1 - (i : Int) = q - ((i + 1 : Nat) : Int) by omega, this]; rfl) (fun i => by have := hv (i + 1); rw [show q - 1 - (i : Int) = q - ((i + 1 : Nat) : Int) by omega, this]; rfl) (by simp only [List.length_cons] at hn; omega) (Nat.zero_le _)]
      cases D with
      | nil => exact absurd (by rw [show d = 48 by omega]; rfl) (eD [])
      | cons a l => rfl
  | d :: D, e :: E, u, v, q, n, hD, hE, eD, eE, hu, hv, hn, hm => by
    obtain ⟨n, rfl⟩ : ∃ m, n = m + 1 := ⟨n - 1, by simp only [List.length_cons] at hn; omega⟩
    have h1 := hu 0
    have h2 := hv 0
    simp only [List.getD_cons_zero] at h1 h2
    rw [show q - ((0 : Nat) : Int) = q by omega] at h1 h2
    show (if u q < v q then -1 else if v q < u q then 1 else fdiff u v (q - 1) n) = (if d < e then -1 else if e < d then 1 else cbN D E)
    by_cases h : d < e
    · rw [if_pos (by omega), if_pos h]
    · rw [if_neg (by omega), if_neg h]
      by_cases h' : e < d
      · rw [if_pos (by omega), if_pos h']
      · rw [if_neg (by omega), if_neg h']
        exact cbN_pad D E u v (q - 1) n (fun d hd => hD d (List.mem_cons_of_mem _ hd)) (fun d hd => hE d (List.mem_cons_of_mem _ hd)) eD.tail eE.tail (fun i => by have := hu (i + 1); rw [show q - 1 - (i : Int) = q - ((i + 1 : Nat) : Int) by omega, this]; rfl) (fun i => by have := hv (i + 1); rw [show q - 1 - (i : Int) = q - ((i + 1 : Nat) : Int) by omega, this]; rfl) (by simp only [List.length_cons] at hn; omega) (by simp only [List.length_cons] at hm; omega)
/-- A number that may be, and is none, or not zero. -/
structure RD (D : List Nat) (x : Int) : Prop where
  ne : D ≠ []
  len : D.length ≤ 100
  hd : D.getD 0 0 ≠ 48
  dig : ∀ d ∈ D, 48 ≤ d ∧ d ≤ 57
  en : Ends D
  lo : -1000 ≤ x
  hi : x ≤ 1000
theorem rightD_cases {d : DV} (h : rightD d = true) : d = (false, [], 0) ∨ RD d.2.1 d.2.2 := by
  obtain ⟨n, D, x⟩ := d
  unfold rightD at h
  simp only at h ⊢
  by_cases hD : D = []
  · subst hD
    rw [if_pos rfl] at h
    simp only [Bool.and_eq_true, Bool.not_eq_true', decide_eq_true_eq] at h
    rw [h.1, h.2]
    exact .inl rfl
  · rw [if_neg hD] at h
    simp only [Bool.and_eq_true, decide_eq_true_eq, List.all_eq_true] at h
    obtain ⟨⟨⟨⟨h1, h2⟩, h3⟩, h4⟩, h5⟩ := h
    unfold inR at h5
    have h6 := of_decide_eq_true h5
    refine .inr ⟨hD, h1, h2, fun d hd => by have := h4 d hd; unfold isD at this; exact of_decide_eq_true this, ?_, h6.1, h6.2⟩
    intro t e
    apply h3
    rw [e, List.length_append]
    simp
theorem getD_lt' {l : List Nat} {i : Nat} (d : Nat) (h : i < l.length) : l.getD i d = l[i] := by rw [List.getD_eq_getElem?_getD, List.getElem?_eq_getElem h]; rfl
theorem getD_out' {l : List Nat} {i : Nat} (d : Nat) (h : l.length ≤ i) : l.getD i d = d := by rw [List.getD_eq_getElem?_getD, List.getElem?_eq_none h]; rfl
theorem RD.pos {D : List Nat} {x : Int} (h : RD D x) : 0 < D.length := List.length_pos_iff.2 h.ne
theorem RD.top {D : List Nat} {x : Int} (h : RD D x) : 0 < dg D x (D.length + x - 1) := by
  have hp := h.pos
  have hm : D.getD 0 0 ∈ D := by rw [getD_lt' _ hp]; exact List.getElem_mem _
  have h1 := h.dig _ hm
  have h2 := h.hd
  unfold dg
  rw [show (D.length : Int) - 1 - ((D.length : Int) + x - 1 - x) = 0 by omega, if_pos (by omega)]
  show 0 < ((D.getD 0 0 : Nat) : Int) - 48
  omega
theorem RD.above {D : List Nat} {x : Int} {q : Int} (h : (D.length : Int) + x - 1 < q) : dg D x q = 0 := by
  unfold dg; rw [if_neg (by omega)]
theorem RD.nonneg {D : List Nat} {x : Int} (h : RD D x) (q : Int) : 0 ≤ dg D x q := by
  unfold dg
  by_cases hc : 0 ≤ (D.length : Int) - 1 - (q - x) ∧ (D.length : Int) - 1 - (q - x) < (D.length : Int)
  · rw [if_pos hc]
    have hi : ((D.length : Int) - 1 - (q - x)).toNat < D.length := by omega
    have := (h.dig (D.getD ((D.length : Int) - 1 - (q - x)).toNat 0) (by rw [getD_lt' _ hi]; exact List.getElem_mem _)).1
    omega
  · rw [if_neg hc]; omega
theorem dg_at (D : List Nat) (x : Int) (i : Nat) : dg D x ((D.length : Int) + x - 1 - i) = ((D.getD i 48 : Nat) : Int) - 48 := by
  unfold dg
  rw [show (D.length : Int) - 1 - ((D.length : Int) + x - 1 - (i : Int) - x) = i by omega]
  by_cases h : i < D.length
  · rw [if_pos (by omega), getD_lt' _ h, Int.toNat_natCast, getD_lt' _ h]
  · rw [if_neg (by omega), getD_out' _ (by omega)]; rfl
theorem dg_nil (x q : Int) : dg [] x q = 0 := by unfold dg; rw [if_neg (by simp only [List.length_nil]; omega)]
def cmpZ (a b : Int) : Int := if a < b then -1 else if b < a then 1 else 0
def signD (d : DV) : Int := if d.2.1 = [] then 0 else if d.1 = true then -1 else 1
def pointD (d : DV) : Int := (d.2.1.length : Int) + d.2.2
def orZ (a b : Int) : Int := if a ≠ 0 then a else b
def ordD (a b : DV) : Int :=
  if rightD a = true ∧ rightD b = true then
    if signD a ≠ signD b then cmpZ (signD a) (signD b) else orZ (cmpZ (pointD a) (pointD b)) (cbN a.2.1 b.2.1) * signD a
  else 0
def ordR (a b : DV) : Int := if rightD a = true ∧ rightD b = true then fdiff (fun p => sgI a.1 (dg a.2.1 a.2.2 p)) (fun p => sgI b.1 (dg b.2.1 b.2.2 p)) 1101 2103 else 0
theorem cmpZ_anti (a b : Int) : cmpZ b a = -cmpZ a b := by unfold cmpZ; by_cases h : a < b; rw [if_pos h, if_neg (by omega), if_pos h]; rfl; by_cases h2 : b < a; rw [if_pos h2, if_neg h, if_pos h2]; rw [if_neg h, if_neg h2, if_neg h2, if_neg h]; rfl
theorem orZ_anti (a b : Int) : orZ (-a) (-b) = -orZ a b := by unfold orZ; by_cases h : a = 0; rw [if_neg (by omega), if_neg (by omega)]; rw [if_pos (by omega), if_pos (by omega)]
theorem ordD_anti (a b : DV) : ordD b a = -ordD a b := by
  unfold ordD
  by_cases h : rightD a = true ∧ rightD b = true
  · rw [if_pos h, if_pos ⟨h.2, h.1⟩]
    by_cases hs : signD a = signD b
    · rw [if_neg (by simp [hs]), if_neg (by simp [hs]), cmpZ_anti, cbN_anti, orZ_anti, hs, Int.neg_mul]
    · rw [if_pos hs, if_pos (fun e => hs e.symm), cmpZ_anti]
  · rw [if_neg h, if_neg (fun e => h ⟨e.2, e.1⟩)]; rfl
/-- Of two whose signs differ, the negative one is less. -/
theorem fdiff_apart {u v : Int → Int} {m : Int} (h0 : ∀ q, m < q → u q = v q) (h1 : u m < v m) (hm : -1001 ≤ m) (hM : m ≤ 1101) : fdiff u v 1101 2103 = -1 := by
  obtain ⟨k, hk⟩ : ∃ k : Nat, 1101 - m = k := ⟨(1101 - m).toNat, by omega⟩
  obtain ⟨n, hn⟩ : ∃ n : Nat, 2103 = (n + 1) + k := ⟨2102 - k, by omega⟩
  rw [hn, fdiff_skip u v k (n + 1) 1101 (fun q h2 h3 => h0 q (by omega)), show (1101 : Int) - k = m by omega]
  show (if u m < v m then -1 else _) = _
  rw [if_pos h1]
theorem fdiff_apart' {u v : Int → Int} {m : Int} (h0 : ∀ q, m < q → u q = v q) (h1 : v m < u m) (hm : -1001 ≤ m) (hM : m ≤ 1101) : fdiff u v 1101 2103 = 1 := by
  rw [← Int.neg_neg (fdiff u v 1101 2103), ← fdiff_anti, fdiff_apart (fun q hq => (h0 q hq).symm) h1 hm hM]; rfl
theorem same_sign {D E : List Nat} {x y : Int} (hD : RD D x) (hE : RD E y) : fdiff (dg D x) (dg E y) 1101 2103 = orZ (cmpZ (D.length + x) (E.length + y)) (cbN D E) := by
  have p1 := hD.pos; have p2 := hE.pos
  have l1 := hD.len; have l2 := hE.len
  have x1 := hD.lo; have x2 := hD.hi; have y1 := hE.lo; have y2 := hE.hi
  unfold orZ cmpZ
  by_cases h1 : (D.length : Int) + x < E.length + y
  · rw [if_pos h1, if_pos (by decide)]
    refine fdiff_apart (m := E.length + y - 1) (fun q hq => by rw [RD.above (by omega), RD.above (by omega)]) ?_ (by omega) (by omega)
    rw [RD.above (by omega)]; exact hE.top
  · rw [if_neg h1]
    by_cases h2 : (E.length : Int) + y < D.length + x
    · rw [if_pos h2, if_pos (by decide)]
      refine fdiff_apart' (m := D.length + x - 1) (fun q hq => by rw [RD.above (by omega), RD.above (by omega)]) ?_ (by omega) (by omega)
      rw [RD.above (by omega)]; exact hD.top
    · rw [if_neg h2, if_neg (by decide)]
      obtain ⟨k, hk⟩ : ∃ k : Nat, 1101 - ((D.length : Int) + x - 1) = k := ⟨(1101 - ((D.length : Int) + x - 1)).toNat, by omega⟩
      obtain ⟨n, hn⟩ : ∃ n : Nat, 2103 = n + k := ⟨2103 - k, by omega⟩
      rw [hn, fdiff_skip _ _ k n 1101 (fun q h2 h3 => by rw [RD.above (by omega), RD.above (by omega)]), show (1101 : Int) - k = D.length + x - 1 by omega]
      exact cbN_pad D E _ _ _ _ (fun d hd => (hD.dig d hd).1) (fun d hd => (hE.dig d hd).1) hD.en hE.en (fun i => dg_at D x i) (fun i => by rw [show (D.length : Int) + x = E.length + y by omega]; exact dg_at E y i) (by omega) (by omega)
theorem ord_same (a b : DV) : ordR a b = ordD a b := by
  unfold ordR ordD
  by_cases h : rightD a = true ∧ rightD b = true
  · rw [if_pos h, if_pos h]
    have ha := rightD_cases h.1
    have hb := rightD_cases h.2
    obtain ⟨na, D, x⟩ := a
    obtain ⟨nb, E, y⟩ := b
    simp only at ha hb
    unfold signD pointD
    simp only
    rcases ha with ha | ha
    · injection ha with e1 e2; injection e2 with e2 e3; subst e1 e2 e3
      rcases hb with hb | hb
      · injection hb with e1 e2; injection e2 with e2 e3; subst e1 e2 e3
        rw [fdiff_none _ _ _ _ (fun q _ => rfl)]; rfl
      · have := hb.pos; have := hb.len; have := hb.lo; have := hb.hi
        rw [if_pos rfl, if_neg hb.ne]
        cases nb with
        | true =>
          simp only [if_true]
          rw [if_pos (by decide)]
          rw [fdiff_apart' (m := E.length + y - 1) (fun q hq => by show sgI false _ = sgI true _; rw [RD.above hq, dg_nil]; rfl) (by show -_ < _; rw [show sgI false (dg [] 0 (↑E.length + y - 1)) = dg [] 0 (↑E.length + y - 1) from rfl, dg_nil]; have := hb.top; omega) (by omega) (by omega)]
          rfl
        | false =>
          simp only [Bool.false_eq_true, if_false]
          rw [if_pos (by decide)]
          rw [fdiff_apart (m := E.length + y - 1) (fun q hq => by show sgI false _ = sgI false _; rw [RD.above hq, dg_nil]) (by show dg [] 0 _ < dg E y _; rw [dg_nil]; exact hb.top) (by omega) (by omega)]
          rfl
    · have := ha.pos; have := ha.len; have := ha.lo; have := ha.hi
      rw [if_neg ha.ne]
      rcases hb with hb | hb
      · injection hb with e1 e2; injection e2 with e2 e3; subst e1 e2 e3
        rw [if_pos rfl]
        cases na with
        | true =>
          simp only [if_true]
          rw [if_pos (by decide)]
          rw [fdiff_apart (m := D.length + x - 1) (fun q hq => by show sgI true _ = sgI false _; rw [RD.above hq, dg_nil]; rfl) (by show -_ < _; rw [show sgI false (dg [] 0 (↑D.length + x - 1)) = dg [] 0 (↑D.length + x - 1) from rfl, dg_nil]; have := ha.top; omega) (by omega) (by omega)]
          rfl
        | false =>
          simp only [Bool.false_eq_true, if_false]
          rw [if_pos (by decide)]
          rw [fdiff_apart' (m := D.length + x - 1) (fun q hq => by show sgI false _ = sgI false _; rw [RD.above hq, dg_nil]) (by show dg [] 0 _ < dg D x _; rw [dg_nil]; exact ha.top) (by omega) (by omega)]
          rfl
      · have := hb.pos; have := hb.len; have := hb.lo; have := hb.hi
        have t1 := ha.top; have t2 := hb.top
        have g1 := ha.nonneg; have g2 := hb.nonneg
        rw [if_neg hb.ne]
        have same := same_sign ha hb
        cases na with
        | true =>
          cases nb with
          | true =>
            simp only [if_true]
            rw [if_neg (by decide)]
            show fdiff (fun p => -dg D x p) (fun p => -dg E y p) 1101 2103 = _
            rw [fdiff_neg, fdiff_anti, same]
            omega
          | false =>
            simp only [Bool.false_eq_true, if_false, if_true]
            rw [if_pos (by decide)]
            show fdiff (fun p => -dg D x p) (fun p => dg E y p) 1101 2103 = -1
            by_cases hc : (D.length : Int) + x ≤ E.length + y
            · refine fdiff_apart (m := E.length + y - 1) (fun q hq => by show -dg D x q = dg E y q; rw [RD.above hq, RD.above (by omega)]; rfl) ?_ (by omega) (by omega)
              have := g1 (E.length + y - 1)
              show -dg D x _ < dg E y _
              omega
            · refine fdiff_apart (m := D.length + x - 1) (fun q hq => by show -dg D x q = dg E y q; rw [RD.above hq, RD.above (by omega)]; rfl) ?_ (by omega) (by omega)
              have := g2 (D.length + x - 1)
              show -dg D x _ < dg E y _
              omega
        | false =>
          cases nb with
          | true =>
            simp only [Bool.false_eq_true, if_false, if_true]
            rw [if_pos (by decide)]
            show fdiff (fun p => dg D x p) (fun p => -dg E y p) 1101 2103 = 1
            by_cases hc : (D.length : Int) + x ≤ E.length + y
            · refine fdiff_apart' (m := E.length + y - 1) (fun q hq => by show dg D x q = -dg E y q; rw [RD.above hq, RD.above (by omega)]; rfl) ?_ (by omega) (by omega)
              have := g1 (E.length + y - 1)
              show -dg E y _ < dg D x _
              omega
            · refine fdiff_apart' (m := D.length + x - 1) (fun q hq => by show dg D x q = -dg E y q; rw [RD.above hq, RD.above (by omega)]; rfl) ?_ (by omega) (by omega)
              have := g2 (D.length + x - 1)
              show -dg E y _ < dg D x _
              omega
          | false =>
            simp only [Bool.false_eq_true, if_false]
            rw [if_neg (by decide)]
            show fdiff (fun p => dg D x p) (fun p => dg E y p) 1101 2103 = _
            have : (fun p => dg D x p) = dg D x := rfl
            rw [same]
            omega
  · rw [if_neg h, if_neg h]
end Go.Proofs.YtdbcklabinmgfaaDoor
