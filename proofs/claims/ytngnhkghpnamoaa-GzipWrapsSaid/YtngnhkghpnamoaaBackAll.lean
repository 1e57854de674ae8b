/- BackAll -/
import Derived.Test.YtngnhkghpnamoaaGc26
import Derived.Test.YtngnhkghpnamoaaInfM
import Derived.Test.YtngnhkghpnamoaaSto1
namespace Go.Proofs.Ytngnhkghpnamoaa
open Huff Bit
set_option linter.unusedVariables false

/-- The bits L stand from place p on. -/
def AtB (bt : Nat → Nat) (p : Nat) (L : List Bool) : Prop := ∀ i, i < L.length → bt (p + i) = (L.getD i false).toNat
theorem AtB.left {bt : Nat → Nat} {p : Nat} {L M : List Bool} (h : AtB bt p (L ++ M)) : AtB bt p L := fun i hi => by
  rw [h i (by rw [List.length_append]; omega), List.getD_eq_getElem?_getD, List.getD_eq_getElem?_getD, List.getElem?_append_left hi]
theorem AtB.right {bt : Nat → Nat} {p : Nat} {L M : List Bool} (h : AtB bt p (L ++ M)) : AtB bt (p + L.length) M := fun i hi => by
  rw [Nat.add_assoc, h (L.length + i) (by rw [List.length_append]; omega), List.getD_eq_getElem?_getD, List.getD_eq_getElem?_getD, List.getElem?_append_right (by omega), Nat.add_sub_cancel_left]
theorem at_low {bt : Nat → Nat} {p V m : Nat} (h : AtB bt p (lowL V m)) : ∀ k, k ≤ m → Inf.valB bt p k = V % 2 ^ k
  | 0, _ => by show 0 = _; rw [Nat.pow_zero, Nat.mod_one]
  | k + 1, hk => by
    have hb : bt (p + k) = V / 2 ^ k % 2 := by
      rw [h k (by rw [lowL_length]; omega), List.getD_eq_getElem?_getD]
      have : (lowL V m)[k]? = some (bitAt V k) := by unfold lowL; rw [List.getElem?_map, List.getElem?_range (by omega)]; rfl
      rw [this]; exact bitAt_nat V k
    show Inf.valB bt p k + bt (p + k) * 2 ^ k = _
    rw [at_low h k (by omega), hb, Nat.pow_succ, Nat.mod_mul, Nat.mul_comm]
theorem at_bits {bt : Nat → Nat} {p V m N : Nat} (h : AtB bt p (lowL V m)) (hV : V < 2 ^ m) (hN : p + m ≤ N) : Inf.bitsP m bt N p = .ok (V, p + m) := by
  unfold Inf.bitsP
  rw [if_pos hN, at_low h m (Nat.le_refl _), Nat.mod_eq_of_lt hV]
theorem at_sym {bt : Nat → Nat} {p V m N s : Nat} {l : List Nat} (h : AtB bt p (turnL V m m)) (hs : s < l.length) (hw : wordOf l s = (V, m)) (h0 : 0 < m) (hm : m ≤ 15) (hV : V < 2 ^ m) (hN : p + m ≤ N) : Inf.symP l bt N p = .ok (s, p + m) := by
  have h1 := scan_word (bt := bt) (N := N) (p := p) hs hw h0 hm hV hN (fun j hj => by
    rw [h j (by rw [turnL_length]; exact hj), List.getD_eq_getElem?_getD]
    have : (turnL V m m)[j]? = some (bitAt V (m - 1 - j)) := by unfold turnL; rw [List.getElem?_map, List.getElem?_range hj]; rfl
    rw [this]; exact bitAt_nat V _) 15 0 rfl h0
  rw [Nat.sub_zero, Nat.div_eq_of_lt hV] at h1
  unfold Inf.symP
  rw [h1]; rfl
theorem fixW_lt (i : Nat) (h : i < 288) : (fixW i).1 < 2 ^ (fixW i).2 := by
  unfold fixW
  split
  · show 48 + i < 256; omega
  · split
    · show 400 + (i - 144) < 512; omega
    · split
      · show i - 256 < 128; omega
      · show 192 + (i - 280) < 256; omega
theorem wordL_length (i : Nat) : (wordL i).length = (fixW i).2 := turnL_length _ _ _
theorem at_word {bt : Nat → Nat} {p N i : Nat} (h : AtB bt p (wordL i)) (hi : i < 288) (hN : p + (wordL i).length ≤ N) : Inf.symP Inf.fixLits bt N p = .ok (i, p + (wordL i).length) := by
  obtain ⟨h1, h2, h3⟩ := fixW_bounds i hi
  rw [wordL_length] at hN ⊢
  exact at_sym h (by rw [fixLits_eq, fixL_length]; exact hi) (by rw [fixLits_eq]; exact fixW_of hi) h1 (by omega) (fixW_lt i hi) hN
theorem at_five {bt : Nat → Nat} {p N t : Nat} (h : AtB bt p (turnL t 5 5)) (ht : t < 32) (hN : p + 5 ≤ N) : Inf.symP Inf.fixFars bt N p = .ok (t, p + 5) :=
  at_sym h (by show t < (List.replicate 32 5).length; rw [List.length_replicate]; exact ht) (five_word ht) (by omega) (by omega) (by show t < 32; exact ht) hN
theorem bnd_ok {α β : Type} {f : Inf.Pg α} {g : α → Inf.Pg β} {bt : Nat → Nat} {N p q : Nat} {x : α} (h : f bt N p = .ok (x, q)) : Inf.bnd f g bt N p = g x bt N q := by
  unfold Inf.bnd; rw [h]
theorem need_ok {b : Bool} {bt : Nat → Nat} {N p : Nat} (h : b = true) : Inf.need b bt N p = .ok ((), p) := by subst h; rfl

/-! The symbols of a match -/
theorem lastLe_none {b : Nat → Nat} {n : Nat} : ∀ {K : Nat}, lastLe b n K = none → ∀ j, j < K → n < b j
  | 0, _, j, hj => by omega
  | K + 1, h, j, hj => by
    by_cases hb : b K ≤ n
    · rw [lastLe_yes hb] at h; cases h
    · rw [lastLe_no hb] at h
      by_cases e : j = K
      · subst e; omega
      · exact lastLe_none h j (by omega)
theorem lastLe_above {b : Nat → Nat} {n : Nat} : ∀ {K j : Nat}, lastLe b n K = some j → ∀ i, j < i → i < K → n < b i
  | 0, j, h, _, _, _ => by cases h
  | K + 1, j, h, i, h1, h2 => by
    by_cases hb : b K ≤ n
    · rw [lastLe_yes hb] at h; injection h with h; omega
    · rw [lastLe_no hb] at h
      by_cases e : i = K
      · subst e; omega
      · exact lastLe_above h i h1 (by omega)
theorem symE_of {n : Nat} (h3 : 3 ≤ n) (h : n ≤ 258) : ∃ j, j ≤ 28 ∧ symE n = (257 + j, n - lenB j, lenX j) ∧ lenB j ≤ n ∧ n - lenB j < 2 ^ lenX j := by
  cases hl : lastLe lenB n 29 with
  | none =>
    have := lastLe_none hl 0 (by omega)
    have e : lenB 0 = 3 := by decide
    omega
  | some j =>
    obtain ⟨h1, h2⟩ := lastLe_lt hl
    refine ⟨j, by omega, by unfold symE; rw [hl]; rfl, h2, ?_⟩
    by_cases h27 : j < 27
    · have h4 := lastLe_above hl (j + 1) (by omega) (by omega)
      rw [lenB_step j h27] at h4
      omega
    · by_cases e27 : j = 27
      · subst e27
        have h4 := lastLe_above hl 28 (by omega) (by omega)
        have e1 : lenB 28 = 258 := by decide
        have e2 : lenB 27 = 227 := by decide
        have e3 : 2 ^ lenX 27 = 32 := by decide
        omega
      · obtain rfl : j = 28 := by omega
        have e1 : lenB 28 = 258 := by decide
        have e3 : 2 ^ lenX 28 = 1 := by decide
        omega
theorem farB_big : ∀ i, 16 ≤ i → i < 30 → 257 ≤ farB i := by
  intro i h1 h2
  have : ∀ k, k < 14 → 257 ≤ farB (16 + k) := by decide
  have h3 := this (i - 16) (by omega)
  rwa [show 16 + (i - 16) = i by omega] at h3
theorem farE_of {d : Nat} (h1 : 1 ≤ d) (h : d ≤ 256) : ∃ t, t ≤ 15 ∧ farE d = (t, d - farB t, farX t) ∧ farB t ≤ d ∧ d - farB t < 2 ^ farX t ∧ farX t ≤ 6 := by
  cases hl : lastLe farB d 30 with
  | none =>
    have := lastLe_none hl 0 (by omega)
    have e : farB 0 = 1 := by decide
    omega
  | some t =>
    obtain ⟨h2, h3⟩ := lastLe_lt hl
    have ht : t ≤ 15 := by
      refine Nat.le_of_not_lt fun hlt => ?_
      have := farB_big t hlt h2
      omega
    refine ⟨t, ht, by unfold farE; rw [hl]; show (0 + t, _, _) = _; rw [Nat.zero_add], h3, ?_, ?_⟩
    · have h4 := lastLe_above hl (t + 1) (by omega) (by omega)
      rw [farB_step t (by omega)] at h4
      omega
    · have : ∀ k, k < 16 → farX k ≤ 6 := by decide
      exact this t (by omega)

/-! A match, as bits -/
def emitS (x : Nat × Nat) : List Bool := if x.1 = 0 then wordL x.2 else
  ((wordL (symE x.1).1 ++ lowL (symE x.1).2.1 (symE x.1).2.2) ++ turnL (farE x.2).1 5 5) ++ lowL (farE x.2).2.1 (farE x.2).2.2
theorem emitL_eq (L : List Bool) (x : Nat × Nat) : emitL L x = L ++ emitS x := by
  unfold emitL emitS
  split
  · rfl
  · simp only [List.append_assoc]
def flatS (l : List Mt) : List Bool := l.flatMap fun x => emitS x.1
theorem bitsE_eq (l : List Mt) : bitsE l = [true, true, false] ++ flatS l := by
  have : ∀ (l : List Mt) (L : List Bool), l.foldl (fun L x => emitL L x.1) L = L ++ flatS l := by
    intro l
    induction l with
    | nil => intro L; simp [flatS]
    | cons x l ih =>
      intro L
      rw [List.foldl_cons, ih, emitL_eq, List.append_assoc]
      rfl
  exact this l _
theorem emitS_length {x : Nat × Nat} (h : okM x) : (emitS x).length ≤ 9 * stepM x := by
  unfold emitS stepM
  rcases h with ⟨h0, h2⟩ | ⟨h3, h4, h5, h6⟩
  · rw [if_pos h0, if_pos h0, wordL_length]
    have := (fixW_bounds x.2 (by omega)).2.1
    omega
  · rw [if_neg (by omega), if_neg (by omega)]
    obtain ⟨j, hj, e1, _, _⟩ := symE_of h3 h4
    obtain ⟨t, ht, e2, _, _, h7⟩ := farE_of h5 h6
    rw [e1, e2]
    simp only [List.length_append, lowL_length, turnL_length, wordL_length]
    have h8 : (fixW (257 + j)).2 ≤ 8 := by
      unfold fixW
      rw [if_neg (by omega), if_neg (by omega)]
      split <;> simp
    have h9 := lenX_le j
    omega

/-! What a match copies -/
theorem mrun_same {l : List Nat} {a d : Nat} : ∀ (f n i : Nat), n ≤ i → i < mrun l a d f n → a + i < l.length ∧ l.getD (a + i) 0 = l.getD (a + i - d) 0
  | 0, n, i, h1, h2 => by
    have : mrun l a d 0 n = n := rfl
    omega
  | f + 1, n, i, h1, h2 => by
    by_cases hc : a + n < l.length ∧ l.getD (a + n) 0 = l.getD (a + n - d) 0
    · rw [mrun_yes hc.1 hc.2] at h2
      by_cases e : i = n
      · subst e; exact hc
      · exact mrun_same f (n + 1) i (by omega) h2
    · rw [mrun_no hc] at h2; omega
theorem take_next {l : List Nat} {a : Nat} (h : a < l.length) : l.take a ++ [l.getD a 0] = l.take (a + 1) := by
  rw [List.getD_eq_getElem?_getD, List.getElem?_eq_getElem h, Option.getD_some]
  exact List.take_append_getElem h
theorem rep_take {l : List Nat} {most d : Nat} (hm : l.length ≤ most) (hd : 1 ≤ d) : ∀ (n a : Nat), d ≤ a → a + n ≤ l.length → (∀ i, i < n → l.getD (a + i) 0 = l.getD (a + i - d) 0) → Inf.repE most d n (l.take a) = .ok (l.take (a + n))
  | 0, a, _, _, _ => rfl
  | n + 1, a, h1, h2, h3 => by
    have hla : (l.take a).length = a := by rw [List.length_take]; omega
    have hg : (l.take a).getD ((l.take a).length - d) 0 = l.getD a 0 := by
      rw [hla, List.getD_eq_getElem?_getD, List.getElem?_take, if_pos (by omega), ← List.getD_eq_getElem?_getD]
      have := h3 0 (by omega)
      simp only [Nat.add_zero] at this
      exact this.symm
    unfold Inf.repE
    rw [hg]
    have hp : Inf.putE most (l.take a) (l.getD a 0) = .ok (l.take (a + 1)) := by
      unfold Inf.putE
      rw [if_neg (by omega), take_next (by omega)]
    rw [hp]
    have := rep_take hm hd n (a + 1) (by omega) (by omega) (fun i hi => by have := h3 (i + 1) (by omega); rwa [show a + (i + 1) = a + 1 + i by omega] at this)
    rw [show a + (n + 1) = a + 1 + n by omega]
    exact this

/-! All matches are read -/
theorem flat_length {l : List Nat} (hb : Bytes255 l) : ∀ f a, a ≤ l.length → (flatS (parseFrom hb f a)).length ≤ 9 * (l.length - a)
  | 0, a, _ => by
    have : parseFrom hb 0 a = [] := rfl
    rw [this]; show 0 ≤ _; omega
  | f + 1, a, ha => by
    by_cases h : a < l.length
    · rw [parseFrom_yes h]
      have h1 := stepM_in (l := l) h
      have h2 := stepM_pos (matchP l a)
      have h3 := emitS_length (matchP_ok hb a)
      have ih := flat_length hb f (a + stepM (matchP l a)) h1
      have e : (flatS (matchAt hb a :: parseFrom hb f (a + stepM (matchP l a)))).length = (emitS (matchP l a)).length + (flatS (parseFrom hb f (a + stepM (matchP l a)))).length := by
        show (emitS _ ++ flatS _).length = _
        rw [List.length_append]; rfl
      rw [e]
      omega
    · rw [parseFrom_no h]; show 0 ≤ _; omega
theorem read_all {l : List Nat} (hb : Bytes255 l) {most : Nat} (hm : l.length ≤ most) {bt : Nat → Nat} {N : Nat} : ∀ (f a p g : Nat), a ≤ l.length → l.length ≤ a + f → f < g → AtB bt p (flatS (parseFrom hb f a) ++ wordL 256) → p + (flatS (parseFrom hb f a) ++ wordL 256).length ≤ N →
    Inf.symsP Inf.fixLits Inf.fixFars most g (l.take a) bt N p = .ok (l, p + (flatS (parseFrom hb f a) ++ wordL 256).length) := by
  intro f
  induction f with
  | zero =>
    intro a p g ha hf hg hA hN
    have e : a = l.length := by omega
    have en : parseFrom hb 0 a = [] := rfl
    obtain ⟨g', rfl⟩ : ∃ g', g = g' + 1 := ⟨g - 1, by omega⟩
    rw [en] at hA hN ⊢
    have hA2 : AtB bt p (wordL 256) := hA
    have hN2 : p + (wordL 256).length ≤ N := hN
    unfold Inf.symsP
    rw [bnd_ok (at_word hA2 (by omega) hN2), if_pos rfl, e, List.take_length]
    rfl
  | succ f ih =>
    intro a p g ha hf hg hA hN
    obtain ⟨g', rfl⟩ : ∃ g', g = g' + 1 := ⟨g - 1, by omega⟩
    by_cases h : a < l.length
    · have h1 := stepM_in (l := l) h
      have h2 := stepM_pos (matchP l a)
      have e : flatS (parseFrom hb (f + 1) a) ++ wordL 256 = emitS (matchP l a) ++ (flatS (parseFrom hb f (a + stepM (matchP l a))) ++ wordL 256) := by
        rw [parseFrom_yes h]
        show (emitS _ ++ flatS _) ++ _ = _
        rw [List.append_assoc]; rfl
      rw [e] at hA hN ⊢
      have hA1 := hA.left
      have hA2 := hA.right
      have hN' : p + (emitS (matchP l a)).length + (flatS (parseFrom hb f (a + stepM (matchP l a))) ++ wordL 256).length ≤ N := by rw [List.length_append] at hN; omega
      have ih' := ih (a + stepM (matchP l a)) (p + (emitS (matchP l a)).length) g' h1 (by omega) (by omega) hA2 hN'
      rw [List.length_append, ← Nat.add_assoc, ← ih']
      generalize flatS (parseFrom hb f (a + stepM (matchP l a))) ++ wordL 256 = T at *
      clear ih ih' e hA hA2 hN
      have hN1 : p + (emitS (matchP l a)).length ≤ N := by omega
      clear hN'
      conv => lhs; unfold Inf.symsP
      have hok := matchP_ok hb a
      rcases findE_cases l a with hf0 | ⟨hf3, hf258, hd1, hd256, hda, hml, _⟩
      · have hmp : matchP l a = (0, l.getD a 0) := by unfold matchP; rw [hf0]; rfl
        have hst : stepM (matchP l a) = 1 := by rw [hmp]; rfl
        have hem : emitS (matchP l a) = wordL (l.getD a 0) := by rw [hmp]; rfl
        rw [hst]
        rw [hem] at hA1 hN1 ⊢
        have hb255 := hb a
        rw [bnd_ok (at_word hA1 (by omega) hN1)]
        rw [if_neg (by omega), if_pos (by omega)]
        have hp : Inf.putE most (l.take a) (l.getD a 0) = .ok (l.take (a + 1)) := by
          unfold Inf.putE
          rw [if_neg (by rw [List.length_take]; omega), take_next h]
        rw [hp]
        rfl
      · have hmp : matchP l a = findE l a := by unfold matchP; rw [if_neg (by omega)]
        rw [hmp] at hA1 hN1 h1 h2 ⊢
        generalize hE : findE l a = m at *
        obtain ⟨n, d⟩ := m
        simp only at hf3 hf258 hd1 hd256 hda hml
        have hst : stepM (n, d) = n := by unfold stepM; rw [if_neg (by show ¬ n = 0; omega)]
        rw [hst] at h1 ⊢
        obtain ⟨j, hj, e1, hj1, hj2⟩ := symE_of hf3 hf258
        obtain ⟨t, ht, e2, ht1, ht2, ht6⟩ := farE_of hd1 hd256
        have hem : emitS (n, d) = ((wordL (257 + j) ++ lowL (n - lenB j) (lenX j)) ++ turnL t 5 5) ++ lowL (d - farB t) (farX t) := by
          unfold emitS
          rw [if_neg (by show ¬ n = 0; omega)]
          show ((wordL (symE n).1 ++ lowL (symE n).2.1 (symE n).2.2) ++ turnL (farE d).1 5 5) ++ lowL (farE d).2.1 (farE d).2.2 = _
          rw [e1, e2]
        rw [hem] at hA1 hN1 ⊢
        have k1 := hA1.left.left.left
        have k2 := hA1.left.left.right
        have k3 := hA1.left.right
        have k4 := hA1.right
        simp only [List.length_append, lowL_length, turnL_length] at hN1 k3 k4 ⊢
        generalize hWl : (wordL (257 + j)).length = WL at *
        rw [bnd_ok (by have := at_word (N := N) k1 (by omega) (by rw [hWl]; omega); rw [hWl] at this; exact this)]
        rw [if_neg (by omega), if_neg (by omega)]
        have hfar : Inf.farP Inf.fixFars most (l.take a) (257 + j) bt N (p + WL) = .ok (l.take (a + n), p + (WL + lenX j + 5 + farX t)) := by
          unfold Inf.farP
          rw [bnd_ok (need_ok (decide_eq_true (by omega)))]
          rw [show 257 + j - 257 = j by omega]
          rw [bnd_ok (at_bits k2 hj2 (by omega))]
          rw [bnd_ok (at_five (by rw [Nat.add_assoc]; exact k3) (by omega) (by omega))]
          rw [bnd_ok (need_ok (decide_eq_true (by omega)))]
          rw [bnd_ok (at_bits (by have : p + WL + lenX j + 5 = p + (WL + lenX j + 5) := by omega
                                  rw [this]; exact k4) ht2 (by omega))]
          rw [show farB t + (d - farB t) = d by omega, show lenB j + (n - lenB j) = n by omega]
          have hla : (l.take a).length = a := by rw [List.length_take]; omega
          rw [bnd_ok (need_ok (decide_eq_true (by rw [hla]; exact hda)))]
          rw [rep_take hm hd1 n a hda h1 (fun i hi => (mrun_same (l := l) (a := a) (d := d) 258 0 i (Nat.zero_le _) (by rw [hml] at hi; exact hi)).2)]
          show Except.ok (_, _) = _
          rw [show p + WL + lenX j + 5 + farX t = p + (WL + lenX j + 5 + farX t) by omega]
        rw [bnd_ok hfar]
    · have e : a = l.length := by omega
      rw [parseFrom_no h] at hA hN ⊢
      have hA2 : AtB bt p (wordL 256) := hA
      have hN2 : p + (wordL 256).length ≤ N := hN
      unfold Inf.symsP
      rw [bnd_ok (at_word hA2 (by omega) hN2), if_pos rfl, e, List.take_length]
      rfl
end Go.Proofs.Ytngnhkghpnamoaa

namespace Go.Proofs.Ytngnhkghpnamoaa
open Huff Bit
set_option linter.unusedVariables false

theorem num_bit : ∀ (B : List Bool) (p : Nat), num B / 2 ^ p % 2 = (B.getD p false).toNat
  | [], p => by simp [num]
  | b :: B, 0 => by
    show (b.toNat + 2 * num B) / 1 % 2 = b.toNat
    have := Bool.toNat_lt b
    omega
  | b :: B, p + 1 => by
    show (b.toNat + 2 * num B) / 2 ^ (p + 1) % 2 = (B.getD p false).toNat
    rw [← num_bit B p, Nat.pow_succ, Nat.mul_comm (2 ^ p) 2, ← Nat.div_div_eq_div_mul]
    have := Bool.toNat_lt b
    rw [show (b.toNat + 2 * num B) / 2 = num B by omega]
theorem getD_app {l m : List Nat} {i : Nat} (h : i < l.length) : (l ++ m).getD i 0 = l.getD i 0 := by
  rw [List.getD_eq_getElem?_getD, List.getD_eq_getElem?_getD, List.getElem?_append_left h]
theorem loop_one {most : Nat} {bt : Nat → Nat} {N q k : Nat} {o : List Nat} (h1 : Inf.bitsP 1 bt N 0 = .ok (1, 1)) (h2 : Inf.bitsP 2 bt N 1 = .ok (k, 3)) (h3 : Inf.kindP most [] k bt N 3 = .ok (o, q)) : Inf.loopP most Inf.fuel [] bt N 0 = .ok (o, q) := by
  show Inf.loopP most (39999 + 1) [] bt N 0 = _
  unfold Inf.loopP
  have hb : Inf.blockP most [] bt N 0 = .ok ((1, o), q) := by
    unfold Inf.blockP
    rw [bnd_ok h1, bnd_ok h2, bnd_ok h3]
    rfl
  rw [bnd_ok hb, if_pos rfl]
  rfl
theorem fixed_length {l : List Nat} (hb : Bytes255 l) (hl : l.length ≤ 3000) : (fixedB hb).length ≤ 3500 := by
  unfold fixedB
  rw [← bits_bytes hb, bytesOf, bytesTo_length, bitsE_eq, List.length_append, List.length_append]
  have h1 := flat_length hb l.length 0 (Nat.zero_le _)
  have h2 := (fixW_bounds 256 (by omega)).2.1
  have h3 := wordL_length 256
  have h4 : (flatS (parseE hb)).length ≤ 9 * (l.length - 0) := h1
  have h5 : ([true, true, false] : List Bool).length = 3 := rfl
  omega
theorem fixed_backM {l : List Nat} (hb : Bytes255 l) (hl : l.length ≤ 3000) (lm : List Nat) (M : Nat) (hM : l.length ≤ M) : inflM (fixedB hb ++ lm) M = (l, (fixedB hb).length, 0) := by
  obtain ⟨B, hB⟩ : ∃ B, B = bitsE (parseE hb) ++ wordL 256 := ⟨_, rfl⟩
  have hx : fixedB hb = bytesOf (num B) B.length := by unfold fixedB; rw [← bits_bytes hb, hB]
  have hxl : (fixedB hb).length = (B.length + 7) / 8 := by rw [hx, bytesOf, bytesTo_length]
  have hbit : ∀ i, i < B.length → bitOf (fixedB hb ++ lm) i = (B.getD i false).toNat := fun i hi => by
    rw [bitOf_same (bs := fixedB hb) (getD_app (by rw [hxl]; omega)), hx, bitOf_bytes _ _ _ (by omega), num_bit]
  have hA : AtB (bitOf (fixedB hb ++ lm)) 0 B := fun i hi => by rw [Nat.zero_add]; exact hbit i hi
  have hN : B.length ≤ 8 * (fixedB hb ++ lm).length := by rw [List.length_append, hxl]; omega
  have hsplit : B = (lowL 1 1 ++ lowL 1 2) ++ (flatS (parseE hb) ++ wordL 256) := by
    rw [hB, bitsE_eq, List.append_assoc]
    rfl
  unfold inflM
  generalize bitOf (fixedB hb ++ lm) = bt at *
  generalize 8 * (fixedB hb ++ lm).length = N at *
  obtain ⟨T, hT⟩ : ∃ T, flatS (parseE hb) ++ wordL 256 = T := ⟨_, rfl⟩
  rw [hT] at hsplit
  have hBl : B.length = 3 + T.length := by rw [hsplit, List.length_append]; rfl
  rw [hsplit] at hA
  have h1 : Inf.bitsP 1 bt N 0 = .ok (1, 1) := at_bits (V := 1) (m := 1) hA.left.left (by omega) (by omega)
  have h2 : Inf.bitsP 2 bt N 1 = .ok (1, 3) := at_bits (V := 1) (m := 2) (p := 1) hA.left.right (by omega) (by omega)
  have hr : AtB bt 3 T := hA.right
  have h3 : Inf.kindP M [] 1 bt N 3 = .ok (l, 3 + T.length) := by
    unfold Inf.kindP
    rw [if_neg (by omega), if_pos rfl]
    have := read_all hb (most := M) hM (bt := bt) (N := N) l.length 0 3 Inf.fuel (Nat.zero_le _) (by omega) (by show l.length < 40000; omega) (by show AtB bt 3 (flatS (parseE hb) ++ wordL 256); rw [hT]; exact hr) (by show 3 + (flatS (parseE hb) ++ wordL 256).length ≤ N; rw [hT]; omega)
    have e : flatS (parseFrom hb l.length 0) ++ wordL 256 = T := hT
    rw [e] at this
    exact this
  rw [loop_one h1 h2 h3]
  show (l, (3 + T.length + 7) / 8, 0) = _
  rw [hxl, hBl]
theorem fixed_back {l : List Nat} (hb : Bytes255 l) (hl : l.length ≤ 3000) (lm : List Nat) : inflM (fixedB hb ++ lm) 4000 = (l, (fixedB hb).length, 0) := fixed_backM hb hl lm 4000 (by omega)
theorem valB_add {bt : Nat → Nat} {p m : Nat} : ∀ n, Inf.valB bt p (m + n) = Inf.valB bt p m + 2 ^ m * Inf.valB bt (p + m) n
  | 0 => by show _ = _ + 2 ^ m * 0; rw [Nat.mul_zero]; rfl
  | n + 1 => by
    show Inf.valB bt p (m + n) + bt (p + (m + n)) * 2 ^ (m + n) = Inf.valB bt p m + 2 ^ m * (Inf.valB bt (p + m) n + bt (p + m + n) * 2 ^ n)
    rw [valB_add n, Nat.mul_add, Nat.add_assoc, Nat.pow_add, Nat.add_assoc p m n, Nat.mul_left_comm]
theorem val_byte {bs : List Nat} {k : Nat} (h : bs.getD k 0 < 256) : Inf.valB (bitOf bs) (8 * k) 8 = bs.getD k 0 := by
  have hA : AtB (bitOf bs) (8 * k) (lowL (bs.getD k 0) 8) := fun i hi => by
    rw [lowL_length] at hi
    have : (lowL (bs.getD k 0) 8)[i]? = some (bitAt (bs.getD k 0) i) := by unfold lowL; rw [List.getElem?_map, List.getElem?_range hi]; rfl
    rw [List.getD_eq_getElem?_getD, this]
    show bitOf bs _ = (bitAt _ i).toNat
    rw [bitAt_nat]
    unfold bitOf
    rw [show (8 * k + i) / 8 = k by omega, show (8 * k + i) % 8 = i by omega]
  rw [at_low hA 8 (Nat.le_refl _)]
  exact Nat.mod_eq_of_lt h
theorem copy_all {bs l : List Nat} {most : Nat} (hm : l.length ≤ most) (hb : ∀ i, i < l.length → bs.getD (5 + i) 0 = l.getD i 0) (h256 : ∀ x ∈ l, x < 256) (hlen : 5 + l.length ≤ bs.length) : ∀ k a, a + k = l.length → Inf.copyP most k (l.take a) (bitOf bs) (8 * bs.length) (40 + 8 * a) = .ok (l, 40 + 8 * l.length)
  | 0, a, h => by
    have : a = l.length := by omega
    subst this
    rw [List.take_length]; rfl
  | k + 1, a, h => by
    unfold Inf.copyP
    have hg : l.getD a 0 < 256 := by
      rw [List.getD_eq_getElem?_getD, List.getElem?_eq_getElem (by omega)]
      exact h256 _ (List.getElem_mem _)
    have h8 : Inf.bitsP 8 (bitOf bs) (8 * bs.length) (40 + 8 * a) = .ok (l.getD a 0, 40 + 8 * (a + 1)) := by
      unfold Inf.bitsP
      rw [if_pos (by omega), show 40 + 8 * a = 8 * (5 + a) by omega, val_byte (by rw [hb a (by omega)]; exact hg), hb a (by omega)]
      rw [show 8 * (5 + a) + 8 = 40 + 8 * (a + 1) by omega]
    rw [bnd_ok h8]
    have hp : Inf.putE most (l.take a) (l.getD a 0) = .ok (l.take (a + 1)) := by
      unfold Inf.putE
      rw [if_neg (by rw [List.length_take]; omega), take_next (by omega)]
    rw [hp]
    exact copy_all hm hb h256 hlen k (a + 1) (by omega)
theorem stored_back {l : List Nat} (hb : ∀ x ∈ l, x < 256) (hl : l.length ≤ 3000) (lm : List Nat) : inflM (storedE 17 l ++ lm) 4000 = (l, (storedE 17 l).length, 0) ∧ (storedE 17 l).length = 5 + l.length := by
  have e : storedE 17 l = blockB 1 l := by
    show (if 65535 < l.length then _ else _) = _
    rw [if_neg (by omega)]
  have el : (blockB 1 l).length = 5 + l.length := by unfold blockB; simp; omega
  rw [e]
  refine ⟨?_, el⟩
  rw [el]
  obtain ⟨bs, hbs⟩ : ∃ bs, bs = blockB 1 l ++ lm := ⟨_, rfl⟩
  rw [← hbs]
  have hbl : 5 + l.length ≤ bs.length := by rw [hbs, List.length_append, el]; omega
  have g0 : bs.getD 0 0 = 1 := by rw [hbs]; rfl
  have g1 : bs.getD 1 0 = l.length % 256 := by rw [hbs]; rfl
  have g2 : bs.getD 2 0 = l.length / 256 := by rw [hbs]; rfl
  have g3 : bs.getD 3 0 = 255 - l.length % 256 := by rw [hbs]; rfl
  have g4 : bs.getD 4 0 = 255 - l.length / 256 := by rw [hbs]; rfl
  have g5 : ∀ i, i < l.length → bs.getD (5 + i) 0 = l.getD i 0 := fun i hi => by
    rw [hbs, getD_app (by rw [el]; omega)]
    unfold blockB
    rw [List.getD_eq_getElem?_getD, List.getElem?_append_right (by simp), List.getD_eq_getElem?_getD]
    congr 2
    simp
  have b0 : bitOf bs 0 = 1 := by unfold bitOf; rw [show 0 / 8 = 0 from rfl, g0]
  have b1 : bitOf bs 1 = 0 := by unfold bitOf; rw [show 1 / 8 = 0 from rfl, g0]
  have b2 : bitOf bs 2 = 0 := by unfold bitOf; rw [show 2 / 8 = 0 from rfl, g0]
  have h1 : Inf.bitsP 1 (bitOf bs) (8 * bs.length) 0 = .ok (1, 1) := by
    unfold Inf.bitsP
    rw [if_pos (by omega)]
    show Except.ok (0 + bitOf bs (0 + 0) * 1, _) = _
    rw [b0]
  have h2 : Inf.bitsP 2 (bitOf bs) (8 * bs.length) 1 = .ok (0, 3) := by
    unfold Inf.bitsP
    rw [if_pos (by omega)]
    show Except.ok (0 + bitOf bs (1 + 0) * 1 + bitOf bs (1 + 1) * 2, _) = _
    rw [b1, b2]
  have v16 : ∀ k, bs.getD k 0 < 256 → bs.getD (k + 1) 0 < 256 → Inf.valB (bitOf bs) (8 * k) 16 = bs.getD k 0 + 256 * bs.getD (k + 1) 0 := fun k q1 q2 => by
    rw [show 16 = 8 + 8 from rfl, valB_add 8, val_byte q1, show 8 * k + 8 = 8 * (k + 1) by omega, val_byte q2]
  have h3 : Inf.bitsP 16 (bitOf bs) (8 * bs.length) 8 = .ok (l.length, 24) := by
    unfold Inf.bitsP
    rw [if_pos (by omega), show (8 : Nat) = 8 * 1 from rfl, v16 1 (by rw [g1]; omega) (by rw [g2]; omega), g1, g2, show l.length % 256 + 256 * (l.length / 256) = l.length by omega]
  have h4 : Inf.bitsP 16 (bitOf bs) (8 * bs.length) 24 = .ok (65535 - l.length, 40) := by
    unfold Inf.bitsP
    rw [if_pos (by omega), show (24 : Nat) = 8 * 3 from rfl, v16 3 (by rw [g3]; omega) (by rw [g4]; omega), g3, g4, show 255 - l.length % 256 + 256 * (255 - l.length / 256) = 65535 - l.length by omega]
  have h5 := copy_all (bs := bs) (l := l) (most := 4000) (by omega) g5 hb hbl l.length 0 (by omega)
  have h6 : Inf.kindP 4000 [] 0 (bitOf bs) (8 * bs.length) 3 = .ok (l, 40 + 8 * l.length) := by
    unfold Inf.kindP
    rw [if_pos rfl]
    unfold Inf.storedP
    have ha : Inf.alignP (bitOf bs) (8 * bs.length) 3 = .ok ((), 8) := rfl
    rw [bnd_ok ha, bnd_ok h3, bnd_ok h4, bnd_ok (need_ok (decide_eq_true (by omega)))]
    exact h5
  unfold inflM
  rw [loop_one h1 h2 h6]
  show (l, (40 + 8 * l.length + 7) / 8, 0) = _
  rw [show (40 + 8 * l.length + 7) / 8 = 5 + l.length by omega]
end Go.Proofs.Ytngnhkghpnamoaa
