/- Boxes of fractions that a region makes and fills: what stays. -/
import Derived.Test.YtcfkhgpcamfecaaBox
namespace Go.Proofs.Ytcfkhgpcamfecaa
open Go.RowKit Big
set_option linter.unusedVariables false
set_option maxRecDepth 100000

theorem facts4 {W : World} {g : Nat} {t : TypeId} {a b c d : Value} (h : Whole W g t #[a, b, c, d]) :
    W.cell? ⟨g, 0, none⟩ = some a ∧ W.cell? ⟨g, 1, none⟩ = some b ∧ W.cell? ⟨g, 2, none⟩ = some c ∧ W.cell? ⟨g, 3, none⟩ = some d ∧
    W.frozen? ⟨g, 0, none⟩ = false ∧ W.frozen? ⟨g, 1, none⟩ = false ∧ W.frozen? ⟨g, 2, none⟩ = false ∧ W.frozen? ⟨g, 3, none⟩ = false ∧ g < W.heap.size :=
  ⟨h.cell 0, h.cell 1, h.cell 2, h.cell 3, h.frozen 0, h.frozen 1, h.frozen 2, h.frozen 3, h.lt⟩
theorem Whole.put4 {W : World} {g : Nat} {t : TypeId} {b1 b2 : Bool} {a1 : Option Addr} {m1 c1 : Nat} {v : Value} (h : Whole W g t #[.bool false, .slice none 0 0, .bool false, .slice none 0 0]) :
    Whole ((((W.setCell ⟨g, 0, none⟩ (.bool b1)).setCell ⟨g, 1, none⟩ (.slice a1 m1 c1)).setCell ⟨g, 2, none⟩ (.bool b2)).setCell ⟨g, 3, none⟩ v) g t #[.bool b1, .slice a1 m1 c1, .bool b2, v] := (((h.set 0 _).set 1 _).set 2 _).set 3 _
theorem Whole.far4 {W : World} {k g : Nat} {t : TypeId} {cs : Array Value} {b1 b2 : Bool} {a1 : Option Addr} {m1 c1 : Nat} {v : Value} (h : Whole W k t cs) (hn : k ≠ g) :
    Whole ((((W.setCell ⟨g, 0, none⟩ (.bool b1)).setCell ⟨g, 1, none⟩ (.slice a1 m1 c1)).setCell ⟨g, 2, none⟩ (.bool b2)).setCell ⟨g, 3, none⟩ v) k t cs := (((h.far (p := ⟨g, 0, none⟩) hn _).far (p := ⟨g, 1, none⟩) hn _).far (p := ⟨g, 2, none⟩) hn _).far (p := ⟨g, 3, none⟩) hn _
theorem IsBig.set4 {W : World} {g k : Nat} {t : TypeId} {b1 b2 : Bool} {a1 : Option Addr} {m1 c1 : Nat} {v x : Value} {z : Int} (h : IsBig W W.heap.size x z k) (hW : Whole W g t #[.bool false, .slice none 0 0, .bool false, .slice none 0 0]) :
    IsBig ((((W.setCell ⟨g, 0, none⟩ (.bool b1)).setCell ⟨g, 1, none⟩ (.slice a1 m1 c1)).setCell ⟨g, 2, none⟩ (.bool b2)).setCell ⟨g, 3, none⟩ v) ((((W.setCell ⟨g, 0, none⟩ (.bool b1)).setCell ⟨g, 1, none⟩ (.slice a1 m1 c1)).setCell ⟨g, 2, none⟩ (.bool b2)).setCell ⟨g, 3, none⟩ v).heap.size x z k := by
  have h1 : Whole (W.setCell ⟨g, 0, none⟩ (.bool b1)) g t #[.bool b1, .slice none 0 0, .bool false, .slice none 0 0] := hW.set 0 (.bool b1)
  have h2 : Whole ((W.setCell ⟨g, 0, none⟩ (.bool b1)).setCell ⟨g, 1, none⟩ (.slice a1 m1 c1)) g t #[.bool b1, .slice a1 m1 c1, .bool false, .slice none 0 0] := h1.set 1 (.slice a1 m1 c1)
  have h3 : Whole (((W.setCell ⟨g, 0, none⟩ (.bool b1)).setCell ⟨g, 1, none⟩ (.slice a1 m1 c1)).setCell ⟨g, 2, none⟩ (.bool b2)) g t #[.bool b1, .slice a1 m1 c1, .bool b2, .slice none 0 0] := h2.set 2 (.bool b2)
  have N : ∀ (x1 : Bool) (x2 : Option Addr) (x3 x4 : Nat) (x5 : Bool) (x6 : Option Addr) (x7 x8 : Nat), NoInt #[.bool x1, .slice x2 x3 x4, .bool x5, .slice x6 x7 x8] := fun _ _ _ _ _ _ _ _ => noInt4 (notInt_bool _) (notInt_slice _ _ _) (notInt_bool _) (notInt_slice _ _ _)
  exact ((((h.putG hW (N _ _ _ _ _ _ _ _) (.bool b1)).putG h1 (N _ _ _ _ _ _ _ _) (.slice a1 m1 c1)).putG h2 (N _ _ _ _ _ _ _ _) (.bool b2)).putG h3 (N _ _ _ _ _ _ _ _) v).more (by simp [World.setCell]) (Nat.le_refl _)
theorem IsRat.set4 {W : World} {g k : Nat} {t : TypeId} {b1 b2 : Bool} {a1 : Option Addr} {m1 c1 : Nat} {v x : Value} {n d : Int} (h : IsRat W W.heap.size x n d k) (hW : Whole W g t #[.bool false, .slice none 0 0, .bool false, .slice none 0 0]) :
    IsRat ((((W.setCell ⟨g, 0, none⟩ (.bool b1)).setCell ⟨g, 1, none⟩ (.slice a1 m1 c1)).setCell ⟨g, 2, none⟩ (.bool b2)).setCell ⟨g, 3, none⟩ v) ((((W.setCell ⟨g, 0, none⟩ (.bool b1)).setCell ⟨g, 1, none⟩ (.slice a1 m1 c1)).setCell ⟨g, 2, none⟩ (.bool b2)).setCell ⟨g, 3, none⟩ v).heap.size x n d k := by
  obtain ⟨x1, y1, x2, y2, e, h1, h2⟩ := h
  exact ⟨x1, y1, x2, y2, e, h1.set4 hW, h2.set4 hW⟩
end Go.Proofs.Ytcfkhgpcamfecaa
