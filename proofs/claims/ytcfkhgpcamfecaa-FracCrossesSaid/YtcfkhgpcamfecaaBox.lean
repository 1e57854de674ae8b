/- Boxes of big numbers and of fractions that a region makes and fills: what stays. -/
import Derived.Test.YtcfkhgpcamfecaaRatMore
namespace Go.Proofs.Ytcfkhgpcamfecaa
open Go.RowKit Big
set_option linter.unusedVariables false
set_option maxRecDepth 100000

theorem thru {X W Y : World} (h1 : Below X.heap.size X W) (h2 : Below W.heap.size W Y) : Below X.heap.size X Y := below_then h1 h2 h1.size
theorem undrew {W Y : World} (h : Below W.drew.heap.size W.drew Y) : Below W.heap.size W Y := below_then (Below.refl _ _).drew h (Nat.le_refl _)
theorem Whole.kp {W W' : World} {g : Nat} {t : TypeId} {cs : Array Value} (h : Whole W g t cs) (hb : Below W.heap.size W W') : Whole W' g t cs := h.below hb h.lt
theorem facts2 {W : World} {g : Nat} {t : TypeId} {a b : Value} (h : Whole W g t #[a, b]) :
    W.cell? ⟨g, 0, none⟩ = some a ∧ W.cell? ⟨g, 1, none⟩ = some b ∧ W.frozen? ⟨g, 0, none⟩ = false ∧ W.frozen? ⟨g, 1, none⟩ = false ∧ g < W.heap.size :=
  ⟨h.cell 0, h.cell 1, h.frozen 0, h.frozen 1, h.lt⟩
theorem Whole.newS {W : World} {g : Nat} {t : TypeId} {cs : Array Value} (h : g = W.heap.size) : Whole (W.alloc (.cells cs t)) g t cs := h ▸ Whole.new W t cs
theorem Whole.put2 {W : World} {g : Nat} {t : TypeId} {a b u v : Value} (h : Whole W g t #[a, b]) : Whole ((W.setCell ⟨g, 0, none⟩ u).setCell ⟨g, 1, none⟩ v) g t #[u, v] := (h.set 0 u).set 1 v
theorem Whole.far2 {W : World} {g k : Nat} {t : TypeId} {cs : Array Value} {u v : Value} (h : Whole W g t cs) (hn : g ≠ k) : Whole ((W.setCell ⟨k, 0, none⟩ u).setCell ⟨k, 1, none⟩ v) g t cs := (h.far hn u).far hn v
theorem IsBig.set2 {W : World} {g k : Nat} {t : TypeId} {b0 b : Bool} {a0 : Option Addr} {n0 c0 : Nat} {v x : Value} {z : Int} (h : IsBig W W.heap.size x z k) (hW : Whole W g t #[.bool b0, .slice a0 n0 c0]) :
    IsBig ((W.setCell ⟨g, 0, none⟩ (.bool b)).setCell ⟨g, 1, none⟩ v) ((W.setCell ⟨g, 0, none⟩ (.bool b)).setCell ⟨g, 1, none⟩ v).heap.size x z k := by
  have h1 : Whole (W.setCell ⟨g, 0, none⟩ (.bool b)) g t #[.bool b, .slice a0 n0 c0] := hW.set 0 (.bool b)
  exact ((h.putG hW (noInt2 (notInt_bool _) (notInt_slice _ _ _)) (.bool b)).putG h1 (noInt2 (notInt_bool _) (notInt_slice _ _ _)) v).more (by simp [World.setCell]) (Nat.le_refl _)
theorem IsBig.alloc_ {W : World} {k : Nat} {x : Value} {z : Int} (h : IsBig W W.heap.size x z k) (o : Obj) : IsBig (W.alloc o) (W.alloc o).heap.size x z k :=
  (h.keep ((Below.refl _ _).alloc (Nat.le_refl _) o)).more (by simp) (Nat.le_refl _)
theorem IsRat.alloc_ {W : World} {k : Nat} {x : Value} {n d : Int} (h : IsRat W W.heap.size x n d k) (o : Obj) : IsRat (W.alloc o) (W.alloc o).heap.size x n d k := by
  obtain ⟨x1, y1, x2, y2, e, h1, h2⟩ := h
  exact ⟨x1, y1, x2, y2, e, h1.alloc_ o, h2.alloc_ o⟩
end Go.Proofs.Ytcfkhgpcamfecaa
