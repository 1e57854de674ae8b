/- Layer 5: the reference's Data where bytes are stored. -/
import Derived.Test.YtmheafadahdbfaaSto1
import Derived.Test.YtmheafadahdbfaaU8
namespace Go.Proofs.Ytmheafadahdbfaa
open Go.RowKit
set_option linter.unusedVariables false
set_option maxRecDepth 100000

theorem u8s_cell (l : List Nat) : ∀ u ∈ u8s l, u.oneCell' = true := by
  intro u hu
  obtain ⟨x, _, rfl⟩ := List.mem_map.1 hu
  rfl
def RDPost (w : World) (out : List Nat) (e : Ending) (w' : World) : Prop := ∃ a c', e = .returned (.slice a out.length c') ∧ Nums .u8 w' w'.heap.size a out ∧ Below w.heap.size w w'
set_option maxHeartbeats 8000000 in
theorem refData_stored (A : Option Addr) (c : Nat) (l : List Nat) (w : World) (hl : l.length ≤ 400) (hlc : l.length ≤ c) (hcm : c ≤ maxLen) (hN : Nums .u8 w w.heap.size A l) :
    Calls Try.prog 12 #[.slice A l.length c, .bool true] w (RDPost w (blockB 1 l)) := by
  obtain ⟨i1, hi1, hy0, hy1, hy2⟩ := info_parts u8info
  obtain ⟨L, hL⟩ : ∃ L, L = l.length := ⟨_, rfl⟩
  have HL := Lib.hid hL
  have HN := Lib.hid hN
  have hm : maxLen ≤ 9223372036854775807 := by decide
  have hc64 : c ≤ 9223372036854775807 := by omega
  rw [← hL] at hl hlc ⊢
  have d1 : decide (65535 < (L : Int)) = false := decide_eq_false (by omega)
  obtain ⟨q1, hq1⟩ : ∃ q, q = L % 256 := ⟨_, rfl⟩
  obtain ⟨q2, hq2⟩ : ∃ q, q = L / 256 := ⟨_, rfl⟩
  have e1 : (L : Int) % 256 = (q1 : Int) := by omega
  have e1b : (L : Int).tmod 256 = (q1 : Int) := by rw [Int.tmod_eq_emod_of_nonneg (by omega)]; exact e1
  have e2 : (L : Int) / 256 = (q2 : Int) := by omega
  have e2b : (L : Int).tdiv 256 = (q2 : Int) := by rw [Int.tdiv_eq_ediv_of_nonneg (by omega)]; exact e2
  have hq1l : q1 ≤ 255 := by omega
  have hq2l : q2 ≤ 1 := by omega
  have Hq1 := Lib.hid hq1
  have Hq2 := Lib.hid hq2
  obtain ⟨p1, hp1⟩ : ∃ q, q = 255 - q1 := ⟨_, rfl⟩
  obtain ⟨p2, hp2⟩ : ∃ q, q = 255 - q2 := ⟨_, rfl⟩
  have e3 : 255 - (q1 : Int) = (p1 : Int) := by omega
  have e4 : 255 - (q2 : Int) = (p2 : Int) := by omega
  have hp1l : p1 ≤ 255 := by omega
  have hp2l : p2 ≤ 255 := by omega
  have Hbl : Hid ([1, q1, q2, p1, p2] ++ l = blockB 1 l) := by show _ = _; unfold blockB; rw [← hL, hp1, hp2, hq1, hq2]
  have HV : Hid (Vals (w.alloc (.cells #[.int .u8 1, .int .u8 (q1 : Int), .int .u8 (q2 : Int), .int .u8 (p1 : Int), .int .u8 (p2 : Int)] 5)) (w.alloc (.cells #[.int .u8 1, .int .u8 (q1 : Int), .int .u8 (q2 : Int), .int .u8 (p1 : Int), .int .u8 (p2 : Int)] 5)).heap.size 1 (some ⟨w.heap.size, 0, none⟩) 5 (u8s [1, q1, q2, p1, p2])) := Vals.of_block (heap_alloc_new w _) rfl
  have Hvl : Hid (∀ X, Below w.heap.size w X → Vals X w.heap.size 1 A L (u8s l)) := fun X hX => by
    have := Vals.of_nums (HN.out.below hX)
    rw [← hL] at this
    exact this
  have hw1 : w.heap.size ≤ (w.alloc (.cells #[.int .u8 1, .int .u8 (q1 : Int), .int .u8 (q2 : Int), .int .u8 (p1 : Int), .int .u8 (p2 : Int)] 5)).heap.size := by simp
  have hB0 : Below w.heap.size w (w.alloc (.cells #[.int .u8 1, .int .u8 (q1 : Int), .int .u8 (q2 : Int), .int .u8 (p1 : Int), .int .u8 (p2 : Int)] 5)) := (Below.refl _ _).alloc (Nat.le_refl _) _
  have hn0 : (w.alloc (.cells #[.int .u8 1, .int .u8 (q1 : Int), .int .u8 (q2 : Int), .int .u8 (p1 : Int), .int .u8 (p2 : Int)] 5)).ownsRow w.heap.size 5 1 (.slice none 0 0) 0 [] := ⟨rfl, .inl ⟨rfl, rfl⟩⟩
  clear hN hL hq1 hq2 hm hcm hp1 hp2
  go_enter Try.func12, Try.ntmps12
  go_wp2_with fail
  refine wp_loop_rounds 1 ?_
  rw [rounds_succ]
  go_wp2_with (first
    | (at_builtin; refine app_vals rfl (.tmp 27) (.tmp 43) 22 rfl w.heap.size 5 i1 _ 1 1 Try.underlying22 hi1 hy0 hy1 hy2 rfl (by omega) (.slice none 0 0) 0 [] rfl hn0 _ _ 5 5 _ (by simp [Act.eval]) HV.out (u8s_cell _) (by unfold maxLen; omega) (by omega) hw1 ?_; intro v1 w1 ho1 hg1 _; have HB1 := Lib.hid (below_of_grown hB0 hn0 hg1 hw1); have hw2 := HB1.out.size)
    | (at_builtin; refine app_vals rfl (.tmp 45) (.tmp 48) 22 rfl w.heap.size 5 i1 _ 1 1 Try.underlying22 hi1 hy0 hy1 hy2 rfl (by omega) v1 _ _ rfl ho1 w.heap.size _ L c _ (by simp [Act.eval]) (Hvl.out _ HB1.out) (u8s_cell _) (by unfold maxLen; omega) (by omega) hw2 ?_; intro v2 w2 ho2 hg2 _; have HB2 := Lib.hid (below_of_grown HB1.out ho1 hg2 hw2)))
  all_goals
    have hown : Own8 w2 w.heap.size v2 (blockB 1 l) := by
      have h := ho2
      have a1 : 0 + 5 + L = (blockB 1 l).length := by rw [← Hbl.out, List.length_append, ← HL.out]; rfl
      have a2 : [] ++ u8s [1, q1, q2, p1, p2] ++ u8s l = u8s (blockB 1 l) := by rw [← Hbl.out, u8s_append]; rfl
      rw [a1, a2] at h
      exact h
    obtain ⟨a, c2, rfl, _, _, _, hN2⟩ := hown.nums
    go_ret
    exact ⟨_, _, rfl, hN2, HB2.out⟩
end Go.Proofs.Ytmheafadahdbfaa
