/- Layer 9: the writer's command. -/
import Derived.Test.YtohgdlhijgjdkaaPathEn2
import Derived.Laws.Bits64
import Derived.Laws.BitsAllLaws
namespace Go.Proofs.Ytohgdlhijgjdkaa
open Go.RowKit
set_option linter.unusedVariables false
set_option maxRecDepth 100000

set_option maxHeartbeats 2000000 in
theorem wcommand_any (base g : Nat) (v : Value) (l : List Nat) (x y : Int) (op n : Nat) (w : World) (h : Wp w base g v l x y) (hB : base ≤ w.heap.size) (hg : base ≤ g) (hop : op < 8) (hn : n ≤ 100000) (hl : l.length ≤ 900000) :
    Calls Try.prog 34 #[.pointer (some ⟨g, 0, none⟩), .int .i64 (op : Int), .int .i64 (n : Int)] w fun e w' => e = .returned (.tuple #[]) ∧ ∃ v', Wp w' base g v' (l ++ [8 * n + op]) x y ∧ Below base w w' := by
  obtain ⟨i0, hi0, hz0, hz1, hz2⟩ := info_parts u32info
  have HW := Lib.hid h.1
  have hown : w.ownsRow base 44 1 v l.length (u32s l) := h.2.1
  have c0 := HW.out.cell 0
  simp only [List.getElem?_toArray, List.getElem?_cons_zero, List.getElem?_cons_succ] at c0
  have H0 := Lib.hid h.2.1
  have Hvg := Lib.hid h.2.2
  obtain ⟨m, hm⟩ : ∃ m, m = 8 * n + op := ⟨_, rfl⟩
  have hor : bits .or .u32 ((n : Int) * 8) (op : Int) = (m : Int) := by
    have e4 : (n : Int) * 8 = ((n * 8 : Nat) : Int) := by omega
    rw [e4, u32_or_nat _ _ (by omega) (by omega)]
    have := Nat.shiftLeft_add_eq_or_of_lt (show op < 2 ^ 3 by omega) n
    rw [Nat.shiftLeft_eq] at this
    rw [hm, ← this]
    congr 1
    omega
  rw [← hm]
  clear h hm
  go_enter Try.func34, Try.ntmps34
  go_wp2_with (at_builtin; refine app_one rfl (.tmp 10) (.tmp 17) 22 rfl base 44 i0 _ 4 Try.underlying22 hi0 hz0 hz1 hz2 rfl v _ _ rfl hown (.int .u32 (m : Int)) 1 rfl rfl (by unfold maxLen; omega) (by omega) hB ?_)
  intro v3 w3 h2 h3 h5
  have hG : Gone32 w base v (l ++ [m]) v3 w3 := Gone32.grown h2 (by simp) (by simp [u32s]) h3 h5
  obtain ⟨a3, c3, rfl, _, _, _, _⟩ := hG.own.nums
  have HW3 := HW.out.only hG.only Hvg.out
  have d0 := HW3.cell 0
  have f0 := HW3.frozen 0
  simp only [List.getElem?_toArray, List.getElem?_cons_zero, List.getElem?_cons_succ] at d0
  have HP := Lib.hid (wp_store HW.out hG Hvg.out)
  have HB := Lib.hid ((hG.below H0.out hB).setCell (p := ⟨g, 0, none⟩) hg (.slice a3 (l ++ [m]).length c3))
  obtain ⟨ln, hln⟩ : ∃ z, z = (l ++ [m]).length := ⟨_, rfl⟩
  rw [← hln] at HP HB
  try rw [← hln] at d0
  try rw [← hln]
  clear h2 h3 h5 hG hown HW3 hln
  go_wp2_with fail
  go_end0
  exact ⟨rfl, _, HP.out, HB.out⟩
end Go.Proofs.Ytohgdlhijgjdkaa
