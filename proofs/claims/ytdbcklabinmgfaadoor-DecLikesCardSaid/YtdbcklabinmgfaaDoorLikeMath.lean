/- Layer 16: decimals of one power of ten lie as their numbers: plain mathematics. -/
import Derived.Test.YtdbcklabinmgfaaDoorOfMath
namespace Go.Proofs.YtdbcklabinmgfaaDoor
set_option linter.unusedVariables false

theorem strip_snoc0 (l : List Nat) : stripR (l ++ [48]) = stripR l := by
  unfold stripR
  rw [List.reverse_append, List.reverse_singleton, List.singleton_append, List.dropWhile_cons, if_pos (by decide)]
theorem decN_ten {m : Nat} (h : 0 < m) : decN (10 * m) = decN m ++ [48] := by
  rw [decN_eq, if_neg (by omega), Nat.mul_div_cancel_left m (by decide), Nat.mul_mod_right]
theorem ofC_ten (a e : Int) : ofC (a * 10) (e - 1) = ofC a e := by
  by_cases h0 : a = 0
  · subst h0
    unfold ofC
    rw [if_pos (.inl (by omega)), if_pos (.inl rfl)]
  · have hm : (a * 10).natAbs = 10 * a.natAbs := by omega
    have hd := decN_ten (m := a.natAbs) (by omega)
    have hz : ofZ (10 * a.natAbs) = ofZ a.natAbs + 1 := by
      have hle := stripR_le (decN a.natAbs)
      unfold ofZ
      rw [hd, strip_snoc0, List.length_append, List.length_cons, List.length_nil]
      omega
    have he : e - 1 + ((ofZ a.natAbs + 1 : Nat) : Int) = e + ((ofZ a.natAbs : Nat) : Int) := by omega
    have hs : decide (a * 10 < 0) = decide (a < 0) := by by_cases h : a < 0; rw [decide_eq_true h, decide_eq_true (by omega)]; rw [decide_eq_false h, decide_eq_false (by omega)]
    have h1 : ¬ a * 10 = 0 := by omega
    unfold ofC
    rw [hm, hz, he, hd, strip_snoc0, hs]
    cases hi : inR (e + ((ofZ a.natAbs : Nat) : Int)) with
    | true => rw [if_neg (by simp [h1]), if_neg (by simp [h0])]
    | false => rw [if_pos (.inr rfl), if_pos (.inr rfl)]
theorem valN_more (l : List Nat) : ∀ a : Nat, valN a l = a * 10 ^ l.length + valN 0 l := by
  induction l with
  | nil => intro a; rw [List.length_nil, Nat.pow_zero, Nat.mul_one]; unfold valN; rfl
  | cons d l ih =>
    intro a
    rw [valN_cons, valN_cons, ih (10 * a + (d - 48)), ih (10 * 0 + (d - 48)), List.length_cons, Nat.pow_succ]
    have h1 : (10 * a + (d - 48)) * 10 ^ l.length = 10 * a * 10 ^ l.length + (d - 48) * 10 ^ l.length := Nat.add_mul _ _ _
    have h2 : (10 * 0 + (d - 48)) * 10 ^ l.length = (d - 48) * 10 ^ l.length := by rw [Nat.mul_zero, Nat.zero_add]
    have h3 : a * (10 ^ l.length * 10) = 10 * a * 10 ^ l.length := by rw [Nat.mul_comm (10 ^ l.length) 10, ← Nat.mul_assoc, Nat.mul_comm a 10]
    rw [h1, h2, h3]
    omega
theorem cbN_cons (a b : Nat) (l m : List Nat) : cbN (a :: l) (b :: m) = if a < b then -1 else if b < a then 1 else cbN l m := rfl
theorem strip_less {x y : Nat} {A B : List Nat} (hx : 48 ≤ x) (h : x < y) : cbN (stripR (x :: A)) (stripR (y :: B)) = -1 := by
  have hB : ∃ T, stripR (y :: B) = y :: T := by
    rw [stripR_cons]
    by_cases hs : stripR B = []
    · rw [if_pos hs, if_neg (by omega)]; exact ⟨[], rfl⟩
    · rw [if_neg hs]; exact ⟨_, rfl⟩
  obtain ⟨T, hT⟩ := hB
  rw [hT, stripR_cons]
  by_cases hs : stripR A = []
  · rw [if_pos hs]
    by_cases h48 : x = 48
    · rw [if_pos h48]; rfl
    · rw [if_neg h48, cbN_cons, if_pos h]
  · rw [if_neg hs, cbN_cons, if_pos h]
theorem valN_bound {l : List Nat} (h : ∀ d ∈ l, 48 ≤ d ∧ d ≤ 57) : valN 0 l < 10 ^ l.length := by
  have := valN_lt l 0 (fun d hd => (h d hd).2)
  omega
theorem val_less {x y : Nat} {A B : List Nat} (hl : A.length = B.length) (hx : 48 ≤ x) (h : x < y) (hA : ∀ d ∈ A, 48 ≤ d ∧ d ≤ 57) : valN 0 (x :: A) < valN 0 (y :: B) := by
  rw [valN_cons, valN_cons, valN_more A, valN_more B, ← hl]
  have h1 := valN_bound hA
  have h2 : (10 * 0 + (x - 48) + 1) * 10 ^ A.length ≤ (10 * 0 + (y - 48)) * 10 ^ A.length := Nat.mul_le_mul_right _ (by omega)
  rw [Nat.add_mul] at h2
  omega
theorem cmpZ_lt {a b : Int} (h : a < b) : cmpZ a b = -1 := if_pos h
theorem cmpZ_eq (a : Int) : cmpZ a a = 0 := by unfold cmpZ; rw [if_neg (by omega), if_neg (by omega)]
theorem cmpZ_add (k a b : Int) : cmpZ (k + a) (k + b) = cmpZ a b := by
  unfold cmpZ
  by_cases g1 : a < b
  · rw [if_pos g1, if_pos (show k + a < k + b by omega)]
  · rw [if_neg g1, if_neg (show ¬ k + a < k + b by omega)]
    by_cases g2 : b < a
    · rw [if_pos g2, if_pos (show k + b < k + a by omega)]
    · rw [if_neg g2, if_neg (show ¬ k + b < k + a by omega)]
theorem cbN_strip : ∀ (A B : List Nat), A.length = B.length → (∀ d ∈ A, 48 ≤ d ∧ d ≤ 57) → (∀ d ∈ B, 48 ≤ d ∧ d ≤ 57) → cbN (stripR A) (stripR B) = cmpZ (valN 0 A) (valN 0 B)
  | [], [], _, _, _ => rfl
  | [], _ :: _, h, _, _ => by simp at h
  | _ :: _, [], h, _, _ => by simp at h
  | x :: A, y :: B, h, hA, hB => by
    have hl : A.length = B.length := by simpa using h
    have hx := hA x (List.mem_cons_self ..)
    have hy := hB y (List.mem_cons_self ..)
    have hA' : ∀ d ∈ A, 48 ≤ d ∧ d ≤ 57 := fun d hd => hA d (List.mem_cons_of_mem _ hd)
    have hB' : ∀ d ∈ B, 48 ≤ d ∧ d ≤ 57 := fun d hd => hB d (List.mem_cons_of_mem _ hd)
    have ih := cbN_strip A B hl hA' hB'
    by_cases h1 : x < y
    · have hv := val_less (B := B) hl hx.1 h1 hA'
      rw [strip_less hx.1 h1, cmpZ_lt (by omega)]
    · by_cases h2 : y < x
      · have hv := val_less (B := A) hl.symm hy.1 h2 hB'
        have hs : cbN (stripR (y :: B)) (stripR (x :: A)) = -1 := strip_less hy.1 h2
        rw [cbN_anti, hs, cmpZ_anti, cmpZ_lt (by omega)]
      · obtain rfl : x = y := by omega
        have hv : cmpZ (valN 0 (x :: A)) (valN 0 (x :: B)) = cmpZ (valN 0 A) (valN 0 B) := by
          rw [valN_cons, valN_cons, valN_more A, valN_more B, ← hl, Int.natCast_add, Int.natCast_add]
          exact cmpZ_add _ _ _
        rw [hv, ← ih, stripR_cons, stripR_cons]
        by_cases sA : stripR A = []
        · rw [if_pos sA, sA]
          by_cases sB : stripR B = []
          · rw [if_pos sB, sB]
            by_cases h48 : x = 48
            · rw [if_pos h48]
            · rw [if_neg h48, cbN_cons, if_neg (by omega), if_neg (by omega)]
          · rw [if_neg sB]
            cases hS : stripR B with
            | nil => exact absurd hS sB
            | cons b S =>
              by_cases h48 : x = 48
              · rw [if_pos h48]; rfl
              · rw [if_neg h48, cbN_cons, if_neg (by omega), if_neg (by omega)]
        · rw [if_neg sA]
          by_cases sB : stripR B = []
          · rw [if_pos sB, sB]
            cases hS : stripR A with
            | nil => exact absurd hS sA
            | cons a S =>
              by_cases h48 : x = 48
              · rw [if_pos h48]; rfl
              · rw [if_neg h48, cbN_cons, if_neg (by omega), if_neg (by omega)]
          · rw [if_neg sB, cbN_cons, if_neg (by omega), if_neg (by omega)]
theorem decN_pow : ∀ (f m : Nat), m < f → 0 < m → 10 ^ ((decN m).length - 1) ≤ m
  | 0, m, h, _ => by omega
  | f + 1, m, h, h0 => by
    rw [decN_eq]
    by_cases h10 : m < 10
    · rw [if_pos h10]
      show 10 ^ 0 ≤ m
      rw [Nat.pow_zero]; omega
    · rw [if_neg h10, List.length_append, List.length_cons, List.length_nil]
      have ih := decN_pow f (m / 10) (by omega) (by omega)
      have hp := List.length_pos_iff.2 (decN_ne (m / 10))
      obtain ⟨k, hk⟩ : ∃ k, (decN (m / 10)).length = k + 1 := ⟨(decN (m / 10)).length - 1, by omega⟩
      rw [hk] at ih ⊢
      rw [show k + 1 + (0 + 1) - 1 = k + 1 by omega, Nat.pow_succ]
      rw [show k + 1 - 1 = k by omega] at ih
      omega
theorem decN_top (m : Nat) : m < 10 ^ (decN m).length := by
  have := valN_bound (l := decN m) (fun d hd => isD_range (decN_isd m d hd))
  rw [valN_decN _ _ (Nat.lt_succ_self m)] at this
  exact this
/-- Of two numbers that are not zero: as their sizes. -/
theorem size_order {p q : Nat} (hp : 0 < p) (hq : 0 < q) (e : Int) :
    orZ (cmpZ (((stripR (decN p)).length : Int) + (e + (ofZ p : Nat))) (((stripR (decN q)).length : Int) + (e + (ofZ q : Nat)))) (cbN (stripR (decN p)) (stripR (decN q))) = cmpZ (p : Int) (q : Int) := by
  have lp := congrArg List.length (of_parts hp).split
  have lq := congrArg List.length (of_parts hq).split
  rw [List.length_append, List.length_replicate] at lp lq
  have tp := decN_top p
  have tq := decN_top q
  have bp := decN_pow _ p (Nat.lt_succ_self p) hp
  have bq := decN_pow _ q (Nat.lt_succ_self q) hq
  unfold orZ
  by_cases h1 : (decN p).length < (decN q).length
  · have : 10 ^ (decN p).length ≤ 10 ^ ((decN q).length - 1) := Nat.pow_le_pow_right (by decide) (by omega)
    rw [cmpZ_lt (show ((stripR (decN p)).length : Int) + (e + (ofZ p : Nat)) < ((stripR (decN q)).length : Int) + (e + (ofZ q : Nat)) by omega), if_pos (by decide), cmpZ_lt (by omega)]
  · by_cases h2 : (decN q).length < (decN p).length
    · have : 10 ^ (decN q).length ≤ 10 ^ ((decN p).length - 1) := Nat.pow_le_pow_right (by decide) (by omega)
      rw [cmpZ_anti, cmpZ_lt (show ((stripR (decN q)).length : Int) + (e + (ofZ q : Nat)) < ((stripR (decN p)).length : Int) + (e + (ofZ p : Nat)) by omega), if_pos (by decide), cmpZ_anti (q : Int), cmpZ_lt (by omega)]
    · have hl : (decN p).length = (decN q).length := by omega
      have he : ((stripR (decN p)).length : Int) + (e + (ofZ p : Nat)) = ((stripR (decN q)).length : Int) + (e + (ofZ q : Nat)) := by omega
      rw [he, cmpZ_eq, if_neg (by decide), cbN_strip _ _ hl (fun d hd => isD_range (decN_isd p d hd)) (fun d hd => isD_range (decN_isd q d hd)), valN_decN _ _ (Nat.lt_succ_self p), valN_decN _ _ (Nat.lt_succ_self q)]
theorem ofC_some {n e : Int} (hn : n ≠ 0) (h : n.natAbs < 10000000000) (he : -899 ≤ e ∧ e ≤ 899) : ofC n e = (decide (n < 0), stripR (decN n.natAbs), e + (ofZ n.natAbs : Nat)) := by
  have hz := ofZ_le n.natAbs (by omega)
  have hi : inR (e + (ofZ n.natAbs : Nat)) = true := decide_eq_true (by omega)
  unfold ofC
  rw [hi, if_neg (by simp [hn])]
theorem like_order (a b e : Int) (ha : a.natAbs < 10000000000) (hb : b.natAbs < 10000000000) (he : -899 ≤ e ∧ e ≤ 899) : ordD (ofC a e) (ofC b e) = cmpZ a b := by
  have ra := ofC_right a e (by omega)
  have rb := ofC_right b e (by omega)
  have hz0 : ofC 0 e = zeroD := by unfold ofC; exact if_pos (.inl rfl)
  have sgnD : ∀ n : Int, n ≠ 0 → n.natAbs < 10000000000 → signD (ofC n e) = if n < 0 then -1 else 1 := fun n hn h => by
    rw [ofC_some hn h he]
    unfold signD
    simp only
    rw [if_neg (of_parts (m := n.natAbs) (by omega)).ne]
    by_cases h0 : n < 0
    · rw [decide_eq_true h0, if_pos rfl, if_pos h0]
    · rw [decide_eq_false h0, if_neg (by decide), if_neg h0]
  unfold ordD
  rw [if_pos ⟨ra, rb⟩]
  by_cases ha0 : a = 0
  · by_cases hb0 : b = 0
    · rw [ha0, hb0, hz0, cmpZ_eq]; rfl
    · rw [sgnD b hb0 hb, ha0, hz0, show signD zeroD = 0 from rfl]
      by_cases h : b < 0
      · rw [if_pos h, if_pos (by decide), cmpZ_anti b 0, cmpZ_lt h]; rfl
      · rw [if_neg h, if_pos (by decide), cmpZ_lt (show (0 : Int) < b by omega)]; rfl
  · by_cases hb0 : b = 0
    · rw [sgnD a ha0 ha, hb0, hz0, show signD zeroD = 0 from rfl]
      by_cases h : a < 0
      · rw [if_pos h, if_pos (by decide), cmpZ_lt h]; rfl
      · rw [if_neg h, if_pos (by decide), cmpZ_anti 0 a, cmpZ_lt (show (0 : Int) < a by omega)]; rfl
    · rw [sgnD a ha0 ha, sgnD b hb0 hb]
      have hso := size_order (p := a.natAbs) (q := b.natAbs) (by omega) (by omega) e
      rw [ofC_some ha0 ha he, ofC_some hb0 hb he]
      unfold pointD
      simp only
      rw [hso]
      by_cases h1 : a < 0
      · by_cases h2 : b < 0
        · rw [if_pos h1, if_pos h2, if_neg (by decide)]
          unfold cmpZ
          by_cases g1 : a < b
          · rw [if_neg (by omega), if_pos (by omega), if_pos g1]; rfl
          · by_cases g2 : b < a
            · rw [if_pos (by omega), if_neg g1, if_pos g2]; rfl
            · rw [if_neg (by omega), if_neg (by omega), if_neg g1, if_neg g2]; rfl
        · rw [if_pos h1, if_neg h2, if_pos (by decide), cmpZ_lt (show a < b by omega)]; rfl
      · by_cases h2 : b < 0
        · rw [if_neg h1, if_pos h2, if_pos (by decide), cmpZ_anti b a, cmpZ_lt (show b < a by omega)]; rfl
        · rw [if_neg h1, if_neg h2, if_neg (by decide), Int.mul_one, show ((a.natAbs : Nat) : Int) = a by omega, show ((b.natAbs : Nat) : Int) = b by omega]
end Go.Proofs.YtdbcklabinmgfaaDoor
