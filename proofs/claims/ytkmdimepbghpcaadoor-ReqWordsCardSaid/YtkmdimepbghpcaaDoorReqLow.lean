/- Layer 33: small letters. -/
import Derived.Test.YtkmdimepbghpcaaDoorReqLib
import Derived.Laws.IdiomStrings
import Derived.Lib.SmallJoins
namespace Go.Proofs.YtkmdimepbghpcaaDoor
open Go.RowKit Go.Shelf Go.Lib
set_option linter.unusedVariables false
set_option maxRecDepth 100000

def lowB1 (c : Nat) : Nat := if 65 ≤ c ∧ c ≤ 90 then c + 32 else c
def lowN (l : List Nat) : List Nat := l.map lowB1
/-- While a text is turned into small letters: its bytes lie in block g. -/
structure LowS (w : World) (g C : Nat) (L : List Nat) (W : World) : Prop where
  ex : ∃ cs, W.heap[g]? = some (.cells cs 5 (C, C + 1)) ∧ cs.size = C ∧ ∀ j, j < L.length → cs[j]? = some (.int .u8 ((L.getD j 0 : Nat) : Int))
  len : L.length ≤ C
  below : Below w.heap.size w W
  lo : w.heap.size ≤ g
section
variable {w W : World} {g C : Nat} {L : List Nat}
theorem LowS.cell (h : LowS w g C L W) {i : Nat} (hi : i < L.length) : W.cell? ⟨g, i, none⟩ = some (.int .u8 ((L.getD i 0 : Nat) : Int)) := by
  obtain ⟨cs, h1, h2, h3⟩ := h.ex
  rw [cell_of_row W g i cs _ _ h1]; exact h3 i hi
theorem LowS.frozen (h : LowS w g C L W) {i : Nat} (hi : i < L.length) : W.frozen? ⟨g, i, none⟩ = false := by
  obtain ⟨cs, h1, h2, h3⟩ := h.ex
  have := h.len
  unfold World.frozen?
  rw [h1]
  simp <;> omega
theorem LowS.set (h : LowS w g C L W) {i x : Nat} (hi : i < L.length) : LowS w g C (L.set i x) (W.setCell ⟨g, i, none⟩ (.int .u8 (x : Int))) := by
  obtain ⟨cs, h1, h2, h3⟩ := h.ex
  refine ⟨⟨_, Joins.block_setCell h1 _, by simp [h2], fun j hj => ?_⟩, by simpa using h.len, h.below.setCell (p := ⟨g, i, none⟩) h.lo _, h.lo⟩
  rw [List.length_set] at hj
  by_cases e : i = j
  · subst e
    rw [Array.getElem?_setIfInBounds, if_pos rfl, if_pos (by have := h.len; omega)]
    simp [List.getD, hi]
  · rw [Array.getElem?_setIfInBounds, if_neg e, h3 j hj]
    simp [List.getD, List.getElem?_set, e]
theorem LowS.nums (h : LowS w g C L W) : Nums .u8 W W.heap.size (some ⟨g, 0, none⟩) L := fun _ => by
  obtain ⟨cs, h1, h2, h3⟩ := h.ex
  refine ⟨g, 0, rfl, (Array.getElem?_eq_some_iff.1 h1).1, fun i hi => ?_⟩
  rw [Nat.zero_add, h.cell hi]
end
theorem bs_at (s : ByteArray) (j : Nat) (hj : j < s.size) : (bs s).getD j 0 = (s.data[j]'hj).toNat := (bs_get s j hj).symm
theorem lowN_lt {l : List Nat} (h : ∀ x ∈ l, x < 256) : ∀ x ∈ lowN l, x < 256 := by
  intro x hx
  obtain ⟨y, hy, rfl⟩ := List.mem_map.1 hx
  have := h y hy
  unfold lowB1
  split <;> omega
theorem low_step {l : List Nat} {k : Nat} (hk : k < l.length) : (lowN (l.take k) ++ l.drop k).getD k 0 = l.getD k 0 ∧ (lowN (l.take k) ++ l.drop k).set k (lowB1 (l.getD k 0)) = lowN (l.take (k + 1)) ++ l.drop (k + 1) := by
  have hl : (lowN (l.take k)).length = k := by unfold lowN; rw [List.length_map, List.length_take]; omega
  have ht : l.take (k + 1) = l.take k ++ [l.getD k 0] := by
    rw [List.take_add_one, List.getElem?_eq_getElem hk, List.getD_eq_getElem?_getD, List.getElem?_eq_getElem hk]; rfl
  constructor
  · rw [drop_head hk, List.getD_eq_getElem?_getD, List.getElem?_append_right (by omega), hl, Nat.sub_self]; rfl
  · rw [ht, drop_head hk, List.set_append, if_neg (by omega), hl, Nat.sub_self]
    unfold lowN
    rw [List.map_append]
    simp
set_option maxHeartbeats 8000000 in
theorem lower_any (s : ByteArray) (w : World) (hs : s.size ≤ 1000) : Calls Tryd.prog 26 #[.string s] w fun e w' => e = .returned (.string (strOf (lowN (bs s)))) ∧ Below w.heap.size w w' := by
  have hcv := run_bytes_of_string (P := Tryd.prog) w 9 42 5 s Tryd.underlying9 Tryd.underlying42 Tryd.underlying5
  obtain ⟨C, hC⟩ : ∃ C, C = grownCap w s.size 0 5 := ⟨_, rfl⟩
  have hge : s.size ≤ C := by rw [hC]; exact grownCap_ge w _ _ _
  have hCm : C ≤ maxLen := by rw [hC]; exact grownCap_le_maxLen w s.size 0 5 (by unfold maxLen; omega)
  have hsz : (bytesRow s C).size = C := by unfold bytesRow; simp; have : s.data.size = s.size := rfl; omega
  rw [← hC, hsz] at hcv
  obtain ⟨X, hX⟩ : ∃ X, X = w.drew.alloc (.cells (bytesRow s C) 5 (C, C + 1)) := ⟨_, rfl⟩
  obtain ⟨g, hg⟩ : ∃ g, g = w.heap.size := ⟨_, rfl⟩
  rw [← hX, ← hg] at hcv
  have hL0 : LowS w g C (bs s) X := by
    refine ⟨⟨bytesRow s C, by rw [hX, hg]; exact heap_alloc_new w.drew _, hsz, fun j hj => ?_⟩, by rw [bs_length]; exact hge, ?_, by omega⟩
    · rw [bs_length] at hj
      rw [bytesRow_at s C j hj, bs_at s j hj]
    · rw [hX]
      have h0 : Below w.heap.size w w.drew := ⟨rfl, rfl, rfl, Nat.le_refl _, fun _ _ => rfl⟩
      exact h0.alloc (Nat.le_refl _) _
  have HL0 : Hid (LowS w g C (lowN ((bs s).take 0) ++ (bs s).drop 0) X) := by show LowS _ _ _ _ _; rw [List.take_zero, List.drop_zero]; exact hL0
  have Hlen : Hid ((bs s).length = s.size) := bs_length s
  clear hL0 hX hg hsz hC
  go_enter Tryd.func26, Tryd.ntmps26
  go_wp2_with fail
  go_loopw [4, 5, 10] (fun x4 x5 x10 W => ∃ k : Nat, k ≤ s.size ∧ x10 = .int .i64 (k : Int) ∧ Hid (LowS w g C (lowN ((bs s).take k) ++ (bs s).drop k) W)) (fun x4 x5 x10 _ => s.size - (RowKit.intOf x10).toNat)
  case atStart => exact ⟨0, Nat.zero_le _, rfl, HL0⟩
  case round =>
    clear HL0 hcv
    obtain ⟨k, hk, rfl, HL⟩ := hrel
    by_cases hlt : k < s.size
    · obtain ⟨c, hc⟩ : ∃ c, c = (bs s).getD k 0 := ⟨_, rfl⟩
      have hc256 : c < 256 := by rw [hc]; exact getD_lt (bs_lt s) k
      have hkl : k < (bs s).length := by rw [Hlen.out]; exact hlt
      have hkl2 : k < (lowN ((bs s).take k) ++ (bs s).drop k).length := by unfold lowN; simp; omega
      obtain ⟨hst1, hst2⟩ := low_step hkl
      have hcell := HL.out.cell hkl2
      have hfz := HL.out.frozen hkl2
      rw [hst1, ← hc] at hcell
      rw [← hc] at hst2
      by_cases h65 : 65 ≤ c
      · have e1 : decide (65 ≤ (c : Int)) = true := decide_eq_true (by omega)
        by_cases h90 : c ≤ 90
        · have e2 : decide ((c : Int) ≤ 90) = true := decide_eq_true (by omega)
          have hS : Hid (LowS w g C (lowN ((bs s).take (k + 1)) ++ (bs s).drop (k + 1)) (wr.setCell ⟨g, k, none⟩ (.int .u8 ((c + 32 : Nat) : Int)))) := by
            show LowS _ _ _ _ _
            rw [← hst2, show lowB1 c = c + 32 by unfold lowB1; rw [if_pos ⟨h65, h90⟩]]
            exact HL.out.set hkl2
          have w1 : (c : Int) - 65 + 97 = ((c + 32 : Nat) : Int) := by omega
          clear HL hst1 hst2 hc hkl2
          go_wp2_with fail
          go_roundw
          case rel => exact ⟨k + 1, by omega, by go_num, hS⟩
          case measure => simp [RowKit.intOf]; omega
        · have e2 : decide ((c : Int) ≤ 90) = false := decide_eq_false (by omega)
          have hS : Hid (LowS w g C (lowN ((bs s).take (k + 1)) ++ (bs s).drop (k + 1)) wr) := by
            show LowS _ _ _ _ _
            rw [← hst2, show lowB1 c = c by unfold lowB1; rw [if_neg (by omega)], hc, ← hst1]
            rw [show (lowN ((bs s).take k) ++ (bs s).drop k).set k ((lowN ((bs s).take k) ++ (bs s).drop k).getD k 0) = lowN ((bs s).take k) ++ (bs s).drop k by
              rw [List.getD_eq_getElem?_getD, List.getElem?_eq_getElem hkl2]; simp]
            exact HL.out
          clear HL hst1 hst2 hc hkl2
          go_wp2_with fail
          go_roundw
          case rel => exact ⟨k + 1, by omega, by go_num, hS⟩
          case measure => simp [RowKit.intOf]; omega
      · have e1 : decide (65 ≤ (c : Int)) = false := decide_eq_false (by omega)
        have hS : Hid (LowS w g C (lowN ((bs s).take (k + 1)) ++ (bs s).drop (k + 1)) wr) := by
          show LowS _ _ _ _ _
          rw [← hst2, show lowB1 c = c by unfold lowB1; rw [if_neg (by omega)], hc, ← hst1]
          rw [show (lowN ((bs s).take k) ++ (bs s).drop k).set k ((lowN ((bs s).take k) ++ (bs s).drop k).getD k 0) = lowN ((bs s).take k) ++ (bs s).drop k by
            rw [List.getD_eq_getElem?_getD, List.getElem?_eq_getElem hkl2]; simp]
          exact HL.out
        clear HL hst1 hst2 hc hkl2
        go_wp2_with fail
        go_roundw
        case rel => exact ⟨k + 1, by omega, by go_num, hS⟩
        case measure => simp [RowKit.intOf]; omega
    · obtain rfl : k = s.size := by omega
      have hL := HL.out
      rw [List.take_of_length_le (by rw [Hlen.out]; exact Nat.le_refl _), List.drop_eq_nil_of_le (by rw [Hlen.out]; exact Nat.le_refl _), List.append_nil] at hL
      have hlow : (lowN (bs s)).length = s.size := by unfold lowN; rw [List.length_map, bs_length]
      have hback := str_of_nums (P := Tryd.prog) wr wr.heap.size 42 9 5 (some ⟨g, 0, none⟩) C (lowN (bs s)) Tryd.underlying42 Tryd.underlying5 Tryd.underlying9 hL.nums (lowN_lt (bs_lt s))
      rw [hlow] at hback
      obtain ⟨R, hR⟩ : ∃ R, R = strOf (lowN (bs s)) := ⟨_, rfl⟩
      rw [← hR] at hback
      have HB := Lib.hid hL.below
      have HR : Hid (R = strOf (lowN (bs s))) := hR
      clear HL hL hR
      go_wp2_with fail
      exact bodyPost_ret (v := .string R) (by simp [results, Tryd.results26, go_sem]) rfl ⟨by rw [HR.out], HB.out⟩
end Go.Proofs.YtkmdimepbghpcaaDoor
