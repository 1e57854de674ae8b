/- slices.Clone at bytes. -/
import Derived.Test.YtdifojeghplpeaaDoorU8
namespace Go.Proofs.YtdifojeghplpeaaDoor
open Go.RowKit
set_option linter.unusedVariables false
set_option maxRecDepth 100000

def CloneOwn (w : World) (l : List Nat) (e : Ending) (w' : World) : Prop := ∃ v', e = .returned v' ∧ Own8 w' w.heap.size v' l ∧ Below w.heap.size w w'

set_option maxHeartbeats 1000000 in
theorem clone_own (a : Option Addr) (c : Nat) (l : List Nat) (w : World) (h : Nums .u8 w w.heap.size a l) (hl : l.length ≤ 1000000000000) (hc : a = none → c = 0 ∧ l = []) :
    Calls Tryd.prog 55 #[.slice a l.length c] w (CloneOwn w l) := by
  obtain ⟨i0, hi0, hz0, hz1, hz2⟩ := info_parts u8info
  have hnil : ∀ (W : World) (A : Option Addr) (m k : Nat), (binOp .eql 26 (.slice A m k) (.slice none 0 0)).run Tryd.prog W = .ok (.bool A.isNone) W := fun W A m k => by apply Lib.run_eql_slice_nil; exact Tryd.underlying26
  cases a with
  | none =>
    obtain ⟨rfl, rfl⟩ := hc rfl
    go_enter Tryd.func55, Tryd.ntmps55
    go_wp2_with fail
    go_ret
    exact ⟨_, rfl, Own8.nil_ _ _, Below.refl _ _⟩
  | some A =>
    have Hl1 : Hid (0 + l.length ≤ maxLen) := by unfold Hid maxLen; omega
    have Hl2 : Hid ((0 + l.length) * 1 ≤ 140737488355328) := by unfold Hid; omega
    clear hc
    have hV : Vals (w.alloc (.cells #[] 5)) w.heap.size 1 (some A) l.length (u8s l) := (Vals.of_nums h).only ((Only.refl _ _).alloc _ : Only (fun _ => False) w _) (Nat.le_refl _) (fun _ _ h => h)
    have hown : ∀ t : TypeId, (w.alloc (.cells #[] t)).ownsRow w.heap.size t 1 (.slice (some ⟨w.heap.size, 0, none⟩) 0 0) 0 [] := fun t => ⟨rfl, .inr ⟨w.heap.size, 0, #[], rfl, Nat.le_refl _, heap_alloc_new _ _, Nat.le_refl _, Nat.zero_le _, rfl, rfl⟩⟩
    have Hone := Lib.hid (u8s_one l)
    go_enter Tryd.func55, Tryd.ntmps55
    go_wp2_with (at_builtin; refine app_vals rfl (.tmp 5) (.tmp 6) 26 rfl w.heap.size 5 i0 _ 1 1 Tryd.underlying26 hi0 hz0 hz1 hz2 rfl (by omega) (.slice (some ⟨w.heap.size, 0, none⟩) 0 0) 0 [] rfl (hown _) w.heap.size _ _ _ _ rfl hV Hone.out Hl1.out Hl2.out (by simp) ?_)
    intro v' w' h2 h3 h5
    have hb : Below w.heap.size w w' := ((Only.refl (fun _ => False) w).alloc _ |>.trans (Only.of_grown (S := fun k => k = w.heap.size) h3 (fun b e => by simp [Value.ownBlock] at e; exact e.symm)) (fun b hb e => by omega)).below (fun _ _ h => h) (Nat.le_refl _)
    have h2' : Own8 w' w.heap.size v' l := h2
    clear h2 h3 h5 hnil hown Hone hV h
    go_wp2
    go_ret
    exact ⟨_, rfl, h2', hb⟩
end Go.Proofs.YtdifojeghplpeaaDoor
