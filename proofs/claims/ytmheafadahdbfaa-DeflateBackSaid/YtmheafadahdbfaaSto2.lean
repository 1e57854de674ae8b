/- Layer 5: bytes that are stored. -/
import Derived.Test.YtmheafadahdbfaaSto1
namespace Go.Proofs.Ytmheafadahdbfaa
open Go.RowKit Go.Shelf Huff Bit
set_option linter.unusedVariables false
set_option maxRecDepth 100000

theorem blockB_length (last : Nat) (l : List Nat) : (blockB last l).length = l.length + 5 := by simp [blockB]
theorem storedE_length : ∀ (f : Nat) (l : List Nat), (storedE f l).length ≤ l.length + 5 * (f + 1)
  | 0, l => by show (blockB 1 l).length ≤ _; rw [blockB_length]; omega
  | f + 1, l => by
    show (if _ then _ else _ : List Nat).length ≤ _
    by_cases h : 65535 < l.length
    · rw [if_pos h, List.length_append, blockB_length, List.length_take]
      have := storedE_length f (l.drop 65535)
      rw [List.length_drop] at this
      omega
    · rw [if_neg h, blockB_length]; omega
theorem storedE_yes {f : Nat} {l : List Nat} (h : 65535 < l.length) : storedE (f + 1) l = blockB 0 (l.take 65535) ++ storedE f (l.drop 65535) := by show (if _ then _ else _) = _; rw [if_pos h]
theorem storedE_no {f : Nat} {l : List Nat} (h : ¬ 65535 < l.length) : storedE f l = blockB 1 l := by
  cases f with
  | zero => rfl
  | succ f => show (if _ then _ else _) = _; rw [if_neg h]
def sliceLen : Value → Nat
  | .slice _ n _ => n
  | _ => 0
theorem Nums.drop {w : World} {B b off k : Nat} {l : List Nat} (h : Nums .u8 w B (some ⟨b, off, none⟩) l) (hk : k ≤ l.length) : Nums .u8 w B (some ⟨b, off + k, none⟩) (l.drop k) := by
  intro hl
  rw [List.length_drop] at hl
  obtain ⟨b', off', e, hb, hc⟩ := h (by omega)
  injection e with e; injection e with e1 e2; subst e1 e2
  refine ⟨b, off + k, rfl, hb, fun i hi => ?_⟩
  rw [List.length_drop] at hi
  have := hc (k + i) (by omega)
  rw [← Nat.add_assoc] at this
  rw [this, List.getD_eq_getElem?_getD, List.getD_eq_getElem?_getD, List.getElem?_drop]
theorem Nums.take {w : World} {B k : Nat} {a : Option Addr} {l : List Nat} (h : Nums .u8 w B a l) : Nums .u8 w B a (l.take k) := by
  intro hl
  rw [List.length_take] at hl
  obtain ⟨b, off, e, hb, hc⟩ := h (by omega)
  refine ⟨b, off, e, hb, fun i hi => ?_⟩
  rw [List.length_take] at hi
  rw [hc i (by omega), List.getD_eq_getElem?_getD, List.getD_eq_getElem?_getD, List.getElem?_take_of_lt (by omega)]
set_option maxHeartbeats 8000000 in
theorem putStored_any (n₀ g : Nat) (hg : n₀ ≤ g) (A : Option Addr) (c : Nat) (l : List Nat) (hl : l.length ≤ 1048576) (hlc : l.length ≤ c) (hcm : c ≤ maxLen) (hb : ∀ x ∈ l, x < 256) (W : World)
    (hN : Nums .u8 W n₀ A l) (hS : SN n₀ g 0 0 W) :
    Calls Try.prog 23 #[.pointer (some ⟨g, 0, none⟩), .slice A l.length c] W (StoPost n₀ g (storedE 17 l) W) := by
  obtain ⟨T, hT⟩ : ∃ T, storedE 17 l = T := ⟨_, rfl⟩
  have HT : Hid (T.length ≤ 2000000) := by have := storedE_length 17 l; show _ ≤ _; rw [← hT]; omega
  have hm : maxLen ≤ 9223372036854775807 := by decide
  have Hs0 : Hid (([] : List Nat) ++ storedE 17 l = T ∧ l.length ≤ 65535 * (17 + 1) ∧ (∀ x ∈ l, x < 256) ∧ Nums .u8 W n₀ A l ∧ SN n₀ g (numB []) (8 * ([] : List Nat).length) W ∧ PutK n₀ W W) := ⟨by simpa using hT, by omega, hb, hN, hS, PutK.refl _ _⟩
  have hc64 : c ≤ 9223372036854775807 := by omega
  rw [hT]
  clear hT hN hS hb hl
  go_enter Try.func23, Try.ntmps23
  go_wp2_with fail
  go_loopw [1] (fun v X => ∃ (A' : Option Addr) (c' : Nat) (l' : List Nat), v = .slice A' l'.length c' ∧ l'.length ≤ c' ∧ c' ≤ 9223372036854775807 ∧ Hid (∃ (f : Nat) (out : List Nat), out ++ storedE f l' = T ∧ l'.length ≤ 65535 * (f + 1) ∧ (∀ x ∈ l', x < 256) ∧ Nums .u8 W n₀ A' l' ∧ SN n₀ g (numB out) (8 * out.length) X ∧ PutK n₀ W X)) (fun v _ => sliceLen v)
  case atStart => exact ⟨A, c, l, rfl, hlc, hc64, 17, [], Hs0.out⟩
  case round =>
    obtain ⟨A', c', l', rfl, hc1, hc2, HI⟩ := hrel
    obtain ⟨f, out, hE, hf, hb', hN', hS', hK'⟩ := HI.out
    have hol : out.length ≤ 2000000 := by have := HT.out; have := congrArg List.length hE; rw [List.length_append] at this; omega
    obtain ⟨L, hL⟩ : ∃ L, L = l'.length := ⟨_, rfl⟩
    rw [← hL] at hc1 ⊢
    by_cases hlt : 65535 < L
    · have d1 : decide (65535 < (L : Int)) = true := decide_eq_true (by omega)
      obtain ⟨b, off, rfl, hbn, _⟩ := hN' (by omega)
      obtain _ | f := f
      · omega
      have htl : (l'.take 65535).length = 65535 := by rw [List.length_take]; omega
      have H1 := Lib.hid (putBlock_any n₀ g hg 0 (by omega) (some ⟨b, off, none⟩) c' (l'.take 65535) out (by omega) (fun x hx => hb' x (List.mem_of_mem_take hx)) (by omega) wr (hN'.take.below hK'.below) hS')
      rw [htl] at H1
      have Hnx : Hid (∀ X, SN n₀ g (numB (out ++ blockB 0 (l'.take 65535))) (8 * (out ++ blockB 0 (l'.take 65535)).length) X → PutK n₀ wr X → ∃ (f : Nat) (out : List Nat), out ++ storedE f (l'.drop 65535) = T ∧ (l'.drop 65535).length ≤ 65535 * (f + 1) ∧ (∀ x ∈ l'.drop 65535, x < 256) ∧ Nums .u8 W n₀ (some ⟨b, off + 65535, none⟩) (l'.drop 65535) ∧ SN n₀ g (numB out) (8 * out.length) X ∧ PutK n₀ W X) := fun X h1 h2 =>
        ⟨f, _, by rw [storedE_yes (by omega)] at hE; rw [List.append_assoc]; exact hE, by rw [List.length_drop]; omega, fun x hx => hb' x (List.mem_of_mem_drop hx), hN'.drop (by omega), h1, hK'.trans h2⟩
      have hdl : Hid ((l'.drop 65535).length = L - 65535) := by show _ = _; rw [List.length_drop, ← hL]
      have HL := Lib.hid hL
      have s0 : (65535 : Int) ≤ (c' : Int) := by omega
      have s1 : (65535 : Int) ≤ (L : Int) := by omega
      clear hE hf hb' hN' hS' hK' hL htl
      go_wp2_with fail
      refine H1.out.mono ?_
      rintro e X ⟨⟨v, rfl⟩, hS1, hK1⟩
      have HN1 := Lib.hid (Hnx.out X hS1 hK1)
      clear hS1 hK1 H1 Hnx
      go_wp2_with fail
      go_roundw
      case rel => exact ⟨_, c' - 65535, l'.drop 65535, by rw [hdl.out], by rw [hdl.out]; omega, by omega, HN1.out⟩
      case measure => simp [sliceLen]; omega
    · have d1 : decide (65535 < (L : Int)) = false := decide_eq_false (by omega)
      have H1 := Lib.hid (putBlock_any n₀ g hg 1 (by omega) A' c' l' out (by omega) hb' (by omega) wr (hN'.below hK'.below) hS')
      rw [storedE_no (by omega)] at hE
      rw [hE, ← hL] at H1
      have HK := Lib.hid hK'
      clear hE hf hb' hN' hS' hK' hL hlt
      go_wp2_with fail
      refine H1.out.mono ?_
      rintro e X ⟨⟨v, rfl⟩, hS1, hK1⟩
      have HS1 := Lib.hid hS1
      have HK1 := Lib.hid (HK.out.trans hK1)
      clear hS1 hK1
      go_wp2_with fail
      refine bodyPost_ret (results_none rfl _ _ _) rfl ?_
      exact ⟨⟨_, rfl⟩, HS1.out, HK1.out⟩
end Go.Proofs.Ytmheafadahdbfaa
