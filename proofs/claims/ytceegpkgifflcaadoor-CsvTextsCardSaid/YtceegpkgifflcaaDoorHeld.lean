/- A region that draws its order, by hand: what is kept is all that stood when the last call came back. -/
import Derived.Deep.RegionHeld3
import Derived.Below
namespace Go.Proofs.YtceegpkgifflcaaDoor
open Go.RowKit

/-- Nothing of what stood in X has turned. -/
def Kp (X W : World) : Prop := Below X.heap.size X W
theorem Kp.refl (X : World) : Kp X X := Below.refl _ _
theorem keepBelow {w w1 W : World} (h2 : Below w1.heap.size w1 W) (h : Below w.heap.size w w1) : Below w.heap.size w W := h.trans ⟨h2.os, h2.tape, h2.output, h2.size, fun k hk => h2.block k (Nat.lt_of_lt_of_le hk h.size)⟩
section
variable {P : Program} {md : Region.Mode} {ops : Array Oper} {Q : Exit → Act → World → Prop} {S S' : World → Prop}
theorem wpAnyH_more (hs : ∀ w, S' w → S w) : ∀ (fuel : Nat) (listed : Array Bool) (a : Act) (w : World), wpAnyH P md ops Q S' fuel listed a w → wpAnyH P md ops Q S fuel listed a w
  | 0, _, _, _, h => h
  | fuel + 1, _, _, _, h => ⟨h.1, fun i hi => wpOp_mono (fun a' w' h' => ⟨hs _ h'.1, wpAnyH_more hs fuel _ a' w' h'.2⟩) (h.2 i hi)⟩
theorem held_more {X Y : World} (hb : Below X.heap.size X Y) {fuel : Nat} {listed : Array Bool} {a : Act} (h : wpAnyH P md ops Q (Kp Y) fuel listed a Y) : wpAnyH P md ops Q (Kp X) fuel listed a Y :=
  wpAnyH_more (fun _ hw => keepBelow hw hb) fuel listed a Y h
theorem held_start {id : Nat} {a : Act} {w : World} (hm : P.follows .mixedOrders = true) (h : wpAnyH P .any ops Q (Kp w.drew) ops.size (Array.replicate ops.size false) a w.drew) : (Code.region id ops true).wp P Q a w :=
  wp_region_held hm h
/-- append(s, x) whose run is known, within the region. -/
theorem held_app {w w' : World} {o : Oper} {a : Act} {K : Act → World → Prop} {N : Prop} (hw : Region.wanted o (yielded ops a.tmps) = true) (s x : Operand) (t : TypeId)
    (ho : o.op = .call { callee := .builtin .append, args := #[s, x], argTypes := #[t, t] }) (v u v' : Value) (hs : a.eval s = v) (hx : a.eval x = u)
    (hrun : (Builtin.append_ #[t, t] o.type #[v, u]).run P w = .ok v' w') (h : K (a.put o.dst v') w') : if Region.wanted o (yielded ops a.tmps) = true then Oper.wp P o a w K Q else N := by
  simp only [hw, if_true]
  unfold Oper.wp execOp
  simp only [ho, resolve, invoke, builtin, Sem.run_bind, Sem.run_pure, Result.andThen_ok, List.map_toArray, List.map_cons, List.map_nil, hs, hx, hrun]
  exact h
end
end Go.Proofs.YtceegpkgifflcaaDoor
