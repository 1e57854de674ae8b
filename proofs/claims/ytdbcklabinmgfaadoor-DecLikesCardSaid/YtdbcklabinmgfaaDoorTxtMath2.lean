/- Layer 16: a number's text, parsed, is the number: plain mathematics. -/
import Derived.Test.YtdbcklabinmgfaaDoorTxtMath
import Derived.Test.YtdbcklabinmgfaaDoorTxt1
namespace Go.Proofs.YtdbcklabinmgfaaDoor
set_option linter.unusedVariables false

def decN (m : Nat) : List Nat := (Lib.decDigits m).map UInt8.toNat
theorem decN_eq (m : Nat) : decN m = if m < 10 then [48 + m] else decN (m / 10) ++ [48 + m % 10] := by
  unfold decN
  rw [Lib.decDigits]
  by_cases h : m < 10
  · rw [dif_pos h, if_pos h]
    simp
    omega
  · rw [dif_neg h, if_neg h, List.map_append]
    simp
    omega
theorem decN_digits : ∀ (f m : Nat), m < f → (∀ x ∈ decN m, isD x = true) ∧ decN m ≠ [] ∧ (m ≤ farE → capC 0 (decN m) = m)
  | 0, m, h => by omega
  | f + 1, m, h => by
    rw [decN_eq]
    by_cases h10 : m < 10
    · rw [if_pos h10]
      refine ⟨fun x hx => ?_, by simp, fun hm => ?_⟩
      · rw [List.mem_singleton.1 hx]; exact decide_eq_true ⟨by omega, by omega⟩
      · unfold capC
        rw [capM_cons, capM_nil]
        unfold stepM farE
        omega
    · rw [if_neg h10]
      obtain ⟨h1, h2, h3⟩ := decN_digits f (m / 10) (by omega)
      refine ⟨fun x hx => ?_, by simp, fun hm => ?_⟩
      · rcases List.mem_append.1 hx with hx | hx
        · exact h1 x hx
        · rw [List.mem_singleton.1 hx]; exact decide_eq_true ⟨by omega, by omega⟩
      · have h4 := h3 (by omega)
        have happ : ∀ (l : List Nat) (a d : Nat), capM farE a (l ++ [d]) = stepM farE (capM farE a l) d := by
          intro l
          induction l with
          | nil => intro a d; rfl
          | cons x l ih => intro a d; rw [List.cons_append, capM_cons, capM_cons, ih]
        unfold capC at h4 ⊢
        rw [happ, h4]
        unfold stepM
        unfold farE at hm ⊢
        omega
/-- The text of a whole number. -/
def itN (n : Int) : List Nat := (Lib.itoa n).map UInt8.toNat
theorem itN_neg {n : Int} (h : n < 0) : itN n = 45 :: decN n.natAbs := by unfold itN Lib.itoa; rw [if_pos h]; rfl
theorem itN_nat {n : Int} (h : ¬ n < 0) : itN n = decN n.toNat := by unfold itN Lib.itoa; rw [if_neg h]; rfl
theorem fin_ok {ng : Bool} {D : List Nat} {x : Int} (h : RD D x) (N : Nat) : finD ng D x N = ((ng, D, x), N, 0) := by
  unfold finD
  rw [if_neg h.ne, if_neg (by have := h.len; omega), if_pos (show inR x = true from decide_eq_true ⟨h.lo, h.hi⟩)]
theorem RD.isd {D : List Nat} {x : Int} (h : RD D x) : ∀ d ∈ D, isD d = true := fun d hd => decide_eq_true (h.dig d hd)
def sg (ng : Bool) : List Nat := if ng = true then [45] else []
theorem sg_cases (ng : Bool) : (sg ng = [] ∧ ng = false) ∨ (sg ng = [45] ∧ ng = true) := by cases ng; exact .inl ⟨rfl, rfl⟩; exact .inr ⟨rfl, rfl⟩
theorem take_ne {D : List Nat} {n : Nat} (h1 : 0 < n) (h2 : 0 < D.length) : D.take n ≠ [] := fun e => by have := congrArg List.length e; rw [List.length_take, List.length_nil] at this; omega
theorem drop_ne {D : List Nat} {n : Nat} (h : n < D.length) : D.drop n ≠ [] := fun e => by have := congrArg List.length e; rw [List.length_drop, List.length_nil] at this; omega
theorem take_head {D : List Nat} {n : Nat} (h1 : 0 < n) : (D.take n).getD 0 0 = D.getD 0 0 := by
  cases D with
  | nil => simp
  | cons a D => obtain ⟨k, rfl⟩ : ∃ k, n = k + 1 := ⟨n - 1, by omega⟩; rfl
theorem exp_parts {n : Int} (h1 : -1000000 ≤ n) (h2 : n ≤ 1000000) : ∃ (nx : Bool) (Xd : List Nat), ((101 :: itN n = 101 :: Xd ∧ Xd ≠ [] ∧ nx = false) ∨ (101 :: itN n = 101 :: 45 :: Xd ∧ Xd ≠ [] ∧ nx = true)) ∧ (∀ y ∈ Xd, isD y = true) ∧ sgn nx (capC 0 Xd) = n := by
  by_cases h : n < 0
  · obtain ⟨a, b, c⟩ := decN_digits (n.natAbs + 1) n.natAbs (by omega)
    refine ⟨true, decN n.natAbs, .inr ⟨by rw [itN_neg h], b, rfl⟩, a, ?_⟩
    rw [c (by unfold farE; omega)]
    unfold sgn
    simp only [if_true]
    omega
  · obtain ⟨a, b, c⟩ := decN_digits (n.toNat + 1) n.toNat (by omega)
    refine ⟨false, decN n.toNat, .inl ⟨by rw [itN_nat h], b, rfl⟩, a, ?_⟩
    rw [c (by unfold farE; omega)]
    unfold sgn
    simp only [Bool.false_eq_true, if_false]
    omega
theorem amount_parse (ng : Bool) (D : List Nat) (x : Int) (h : RD D x) (R : List Nat) (hR : R.getD 0 0 = 32) :
    parseC ((sg ng ++ amountC D x (itN ((D.length : Int) + x - 1))) ++ R) = ((ng, D, x), (sg ng ++ amountC D x (itN ((D.length : Int) + x - 1))).length, 0) := by
  have hp := h.pos
  have hl := h.len
  have hlo := h.lo
  have hhi := h.hi
  unfold amountC
  by_cases c1 : 0 ≤ x ∧ (D.length : Int) + x ≤ 21
  · rw [if_pos c1]
    obtain ⟨n, rfl⟩ : ∃ n : Nat, x = (n : Int) := ⟨x.toNat, by omega⟩
    rw [Int.toNat_natCast]
    have sh : Shp ng (sg ng) (D ++ List.replicate n 48) [] [] [] [] false R := ⟨sg_cases ng, by simp [h.ne], fun y hy => by
        rcases List.mem_append.1 hy with hy | hy
        · exact h.isd y hy
        · rw [(List.mem_replicate.1 hy).2]; rfl, .inr (by rw [head_app _ h.ne]; exact h.hd), .inl ⟨rfl, rfl⟩, by simp, .inl ⟨rfl, rfl⟩, by simp, hR⟩
    have hs := sh.parse
    rw [List.append_nil, stripL_id h.ne h.hd, stripR_zeros h.en] at hs
    have e : sg ng ++ (D ++ List.replicate n 48) ++ R = sg ng ++ ((D ++ List.replicate n 48) ++ ([] ++ ([] ++ R))) := by simp
    rw [e, hs]
    have ex : sgn false (capC 0 []) - (([] : List Nat).length : Int) + (((D ++ List.replicate n 48).length - D.length : Nat) : Int) = (n : Int) := by
      show (0 : Int) - 0 + _ = _
      rw [List.length_append, List.length_replicate]; omega
    rw [ex, fin_ok h]
    simp
  · rw [if_neg c1]
    by_cases c2 : 1 ≤ (D.length : Int) + x ∧ (D.length : Int) + x < D.length
    · rw [if_pos c2]
      obtain ⟨n, hn⟩ : ∃ n : Nat, (D.length : Int) + x = (n : Int) := ⟨((D.length : Int) + x).toNat, by omega⟩
      rw [hn, Int.toNat_natCast]
      have hn1 : 0 < n := by omega
      have hn2 : n < D.length := by omega
      have sh : Shp ng (sg ng) (D.take n) (46 :: D.drop n) (D.drop n) [] [] false R := ⟨sg_cases ng, take_ne hn1 hp, fun y hy => h.isd y (List.mem_of_mem_take hy), .inr (by rw [take_head hn1]; exact h.hd), .inr ⟨rfl, drop_ne hn2⟩, fun y hy => h.isd y (List.mem_of_mem_drop hy), .inl ⟨rfl, rfl⟩, by simp, hR⟩
      have hs := sh.parse
      have hid := stripL_id h.ne h.hd []
      rw [List.append_nil] at hid
      rw [List.take_append_drop, hid, stripR_id h.en] at hs
      have e : sg ng ++ (D.take n ++ [46] ++ D.drop n) ++ R = sg ng ++ (D.take n ++ ((46 :: D.drop n) ++ ([] ++ R))) := by simp
      rw [e, hs]
      have ex : sgn false (capC 0 []) - ((D.drop n).length : Int) + ((D.length - D.length : Nat) : Int) = x := by
        show (0 : Int) - _ + _ = _
        rw [List.length_drop]; omega
      rw [ex, fin_ok h]
      simp
      omega
    · rw [if_neg c2]
      by_cases c3 : -6 ≤ (D.length : Int) + x ∧ (D.length : Int) + x ≤ 0
      · rw [if_pos c3]
        obtain ⟨n, hn⟩ : ∃ n : Nat, -((D.length : Int) + x) = (n : Int) := ⟨(-((D.length : Int) + x)).toNat, by omega⟩
        rw [hn, Int.toNat_natCast]
        have sh : Shp ng (sg ng) [48] (46 :: (List.replicate n 48 ++ D)) (List.replicate n 48 ++ D) [] [] false R := ⟨sg_cases ng, by simp, by simp [isD], .inl rfl, .inr ⟨rfl, by simp [h.ne]⟩, fun y hy => by
          rcases List.mem_append.1 hy with hy | hy
          · rw [(List.mem_replicate.1 hy).2]; rfl
          · exact h.isd y hy, .inl ⟨rfl, rfl⟩, by simp, hR⟩
        have hs := sh.parse
        have hid := stripL_id h.ne h.hd []
        rw [List.append_nil] at hid
        rw [show [48] ++ (List.replicate n 48 ++ D) = List.replicate (n + 1) 48 ++ D by rw [List.replicate_succ]; rfl, stripL_zeros, hid, stripR_id h.en] at hs
        have e : sg ng ++ ([48, 46] ++ List.replicate n 48 ++ D) ++ R = sg ng ++ ([48] ++ ((46 :: (List.replicate n 48 ++ D)) ++ ([] ++ R))) := by simp
        rw [e, hs]
        have ex : sgn false (capC 0 []) - ((List.replicate n 48 ++ D).length : Int) + ((D.length - D.length : Nat) : Int) = x := by
          show (0 : Int) - _ + _ = _
          rw [List.length_append, List.length_replicate]; omega
        rw [ex, fin_ok h]
        simp
        omega
      · rw [if_neg c3]
        obtain ⟨nx, Xd, hE, hX, hv⟩ := exp_parts (n := (D.length : Int) + x - 1) (by omega) (by omega)
        by_cases c4 : D.length = 1
        · rw [if_pos c4]
          have sh : Shp ng (sg ng) D [] [] (101 :: itN ((D.length : Int) + x - 1)) Xd nx R := ⟨sg_cases ng, h.ne, h.isd, .inr h.hd, .inl ⟨rfl, rfl⟩, by simp, .inr hE, hX, hR⟩
          have hs := sh.parse
          have hid := stripL_id h.ne h.hd []
          rw [List.append_nil] at hid
          rw [List.append_nil, hid, stripR_id h.en, hv] at hs
          have e : sg ng ++ (D ++ [101] ++ itN ((D.length : Int) + x - 1)) ++ R = sg ng ++ (D ++ ([] ++ ((101 :: itN ((D.length : Int) + x - 1)) ++ R))) := by simp
          rw [e, hs]
          have ex : (D.length : Int) + x - 1 - (([] : List Nat).length : Int) + ((D.length - D.length : Nat) : Int) = x := by
            show _ - (0 : Int) + _ = _
            omega
          rw [ex, fin_ok h]
          simp
          omega
        · rw [if_neg c4]
          have sh : Shp ng (sg ng) (D.take 1) (46 :: D.drop 1) (D.drop 1) (101 :: itN ((D.length : Int) + x - 1)) Xd nx R := ⟨sg_cases ng, take_ne (by omega) hp, fun y hy => h.isd y (List.mem_of_mem_take hy), .inr (by rw [take_head (by omega)]; exact h.hd), .inr ⟨rfl, drop_ne (by omega)⟩, fun y hy => h.isd y (List.mem_of_mem_drop hy), .inr hE, hX, hR⟩
          have hs := sh.parse
          have hid := stripL_id h.ne h.hd []
          rw [List.append_nil] at hid
          rw [List.take_append_drop, hid, stripR_id h.en, hv] at hs
          have e : sg ng ++ (D.take 1 ++ [46] ++ D.drop 1 ++ [101] ++ itN ((D.length : Int) + x - 1)) ++ R = sg ng ++ (D.take 1 ++ ((46 :: D.drop 1) ++ ((101 :: itN ((D.length : Int) + x - 1)) ++ R))) := by simp
          rw [e, hs]
          have ex : (D.length : Int) + x - 1 - ((D.drop 1).length : Int) + ((D.length - D.length : Nat) : Int) = x := by
            rw [List.length_drop]; omega
          rw [ex, fin_ok h]
          simp
          omega
theorem zero_parse (R : List Nat) (hR : R.getD 0 0 = 32) : parseC ([48] ++ R) = (zeroD, 1, 0) := by
  have sh : Shp false [] [48] [] [] [] [] false R := ⟨.inl ⟨rfl, rfl⟩, by simp, by simp [isD], .inl rfl, .inl ⟨rfl, rfl⟩, by simp, .inl ⟨rfl, rfl⟩, by simp, hR⟩
  have hs := sh.parse
  rw [show ([48] ++ R : List Nat) = [] ++ ([48] ++ ([] ++ ([] ++ R))) by simp, hs]
  rfl
end Go.Proofs.YtdbcklabinmgfaaDoor
