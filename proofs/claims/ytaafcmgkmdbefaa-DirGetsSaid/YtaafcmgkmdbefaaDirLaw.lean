/- Layer 12: bounds, and both ways to compare. -/
import Derived.Test.YtaafcmgkmdbefaaDirGet2
import Derived.Test.YtaafcmgkmdbefaaDirBack
import Derived.Test.YtaafcmgkmdbefaaDirSame
import Derived.Test.YtaafcmgkmdbefaaDirFindsW
namespace Go.Proofs.Ytaafcmgkmdbefaa
open Go.RowKit Var
set_option linter.unusedVariables false
set_option maxRecDepth 100000

theorem below_drewL {B : Nat} {w w' : World} (h : Below B w w') : Below B w w'.drew := ⟨h.os, h.tape, h.output, h.size, h.block⟩
theorem putE_lt (l : List En) : ∀ x ∈ putE l, x < 256 := by
  intro x hx
  rw [putE_nums, List.mem_append] at hx
  rcases hx with hx | hx
  · exact vb_lt _ x hx
  · simp only [vbs, List.mem_flatMap] at hx
    obtain ⟨y, _, hy⟩ := hx
    exact vb_lt y x hy
theorem vbs_least : ∀ (l : List Nat), l.length ≤ (vbs l).length
  | [] => Nat.zero_le _
  | x :: l => by
    have := vbs_least l
    have := vb_pos x
    rw [vbs_cons, List.length_append, List.length_cons]
    omega
theorem vbs_most : ∀ (l : List Nat), (∀ x ∈ l, x < 18446744073709551616) → (vbs l).length ≤ 10 * l.length
  | [], _ => Nat.zero_le _
  | x :: l, h => by
    have := vbs_most l (fun y hy => h y (List.mem_cons_of_mem _ hy))
    have := vb_len10 (h x List.mem_cons_self)
    rw [vbs_cons, List.length_append, List.length_cons]
    omega
theorem putE_least (l : List En) : 4 * l.length ≤ (putE l).length := by
  have := vbs_least (nums l)
  rw [nums_length] at this
  rw [putE_nums, List.length_append]
  omega
theorem putE_most {l : List En} (hr : rightE l = true) : (putE l).length ≤ 10 + 40 * l.length := by
  have := vbs_most (nums l) (nums_lt hr)
  rw [nums_length] at this
  have hn := (right_all hr).1
  have := vb_len10 (show l.length < 18446744073709551616 by omega)
  rw [putE_nums, List.length_append]
  omega
theorem same_one (u v : Value) (l : List En) (w : World) (hu : RdE w w.heap.size u l) (hv : RdE w w.heap.size v l) :
    Calls Try.prog 11 #[u, v] w fun e w' => e = .returned (.bool true) ∧ Below w.heap.size w w' := by
  have := refSame_any u v l l w hu hv
  rwa [decide_eq_true rfl] at this
end Go.Proofs.Ytaafcmgkmdbefaa
