/- Layer 5: Data where bytes are stored, and where they are too many. -/
import Derived.Test.YtmheafadahdbfaaSto2
import Derived.Test.YtmheafadahdbfaaHBytes
namespace Go.Proofs.Ytmheafadahdbfaa
open Go.RowKit Go.Shelf Huff Bit
set_option linter.unusedVariables false
set_option maxRecDepth 100000

def DataPostS (w : World) (out : List Nat) (e : Ending) (w' : World) : Prop := ∃ a c', e = .returned (.tuple #[.slice a out.length c', .int .i64 0]) ∧ Nums .u8 w' w'.heap.size a out ∧ Below w.heap.size w w'
theorem blockB_lt {last : Nat} {l : List Nat} (h : last < 256) (hl : l.length ≤ 65535) (hb : ∀ x ∈ l, x < 256) : ∀ x ∈ blockB last l, x < 256 := by
  intro x hx
  unfold blockB at hx
  simp only [List.cons_append, List.nil_append, List.mem_cons] at hx
  rcases hx with rfl | rfl | rfl | rfl | rfl | hx
  · exact h
  · omega
  · omega
  · omega
  · omega
  · exact hb x hx
theorem storedE_lt : ∀ (f : Nat) (l : List Nat), l.length ≤ 65535 * (f + 1) → (∀ x ∈ l, x < 256) → ∀ x ∈ storedE f l, x < 256
  | 0, l, h, hb => blockB_lt (by omega) (by omega) hb
  | f + 1, l, h, hb => by
    by_cases hl : 65535 < l.length
    · rw [storedE_yes hl]
      intro x hx
      rcases List.mem_append.1 hx with hx | hx
      · exact blockB_lt (by omega) (by rw [List.length_take]; omega) (fun y hy => hb y (List.mem_of_mem_take hy)) x hx
      · exact storedE_lt f (l.drop 65535) (by rw [List.length_drop]; omega) (fun y hy => hb y (List.mem_of_mem_drop hy)) x hx
    · rw [storedE_no hl]; exact blockB_lt (by omega) (by omega) hb
set_option maxHeartbeats 4000000 in
theorem data_stored (A : Option Addr) (c : Nat) (l : List Nat) (w : World) (hl : l.length ≤ 1048576) (hlc : l.length ≤ c) (hcm : c ≤ maxLen) (hb : ∀ x ∈ l, x < 256) (hN : Nums .u8 w w.heap.size A l) :
    Calls Try.prog 10 #[.slice A l.length c, .bool true] w (DataPostS w (storedE 17 l)) := by
  have HP := Lib.hid fun g (X : World) (hX : Below w.heap.size w X) (hW : SN w.heap.size g 0 0 X) (hg : w.heap.size ≤ g) => putStored_any w.heap.size g hg A c l hl hlc hcm hb X (hN.below hX) hW
  have HT : Hid (bytesOf (numB (storedE 17 l)) (8 * (storedE 17 l).length) = storedE 17 l) := numB_bytes _ (storedE_lt 17 l (by omega) hb)
  have HTl : Hid (8 * (storedE 17 l).length < 1000000000000) := by have := storedE_length 17 l; show _ < _; omega
  obtain ⟨T, hT⟩ : ∃ T, storedE 17 l = T := ⟨_, rfl⟩
  rw [hT] at HP HT HTl ⊢
  obtain ⟨L, hL⟩ : ∃ L, l.length = L := ⟨_, rfl⟩
  rw [hL] at HP hl ⊢
  have d1 : decide (1048576 < (L : Int)) = false := decide_eq_false (by omega)
  clear hN hL hT hb hlc hcm
  go_enter Try.func10, Try.ntmps10
  go_wp2_with fail
  refine (newWriter_any _).mono ?_
  rintro e X ⟨rfl, hW, hB⟩
  have HPX := Lib.hid (HP.out _ X hB ⟨_, hW, fun k hk => by cases hk⟩ (Nat.le_refl _))
  have HB := Lib.hid hB
  clear hW hB HP
  go_wp2_with fail
  refine HPX.out.mono ?_
  rintro e X2 ⟨⟨v, rfl⟩, ⟨v2, hW2, _⟩, hK2⟩
  have HY := Lib.hid (wbytes_any _ _ _ _ X2 hW2 HTl.out)
  rw [HT.out] at HY
  have HB2 : Hid (Below w.heap.size w X2) := HB.out.trans hK2.below
  clear hW2 hK2 HPX HB
  go_wp2_with fail
  refine HY.out.mono ?_
  rintro e X3 ⟨a, c3, rfl, hN3, hB3⟩
  have HN3 := Lib.hid hN3
  have HB3 := Lib.hid (HB2.out.trans (hB3.mono HB2.out.size))
  clear hN3 hB3 HY
  go_wp2_with fail
  go_ret2
  exact ⟨_, _, rfl, HN3.out, HB3.out⟩
theorem data_long (A : Option Addr) (c L : Nat) (s : Bool) (w : World) (hl : 1048576 < L) (hl2 : L ≤ 9223372036854775807) :
    Calls Try.prog 10 #[.slice A L c, .bool s] w fun e w' => e = .returned (.tuple #[.slice none 0 0, .int .i64 5]) ∧ w = w' := by
  have d1 : decide (1048576 < (L : Int)) = true := decide_eq_true (by omega)
  go_enter Try.func10, Try.ntmps10
  go_wp2_with fail
  go_ret2
  exact ⟨rfl, rfl⟩
end Go.Proofs.Ytmheafadahdbfaa
