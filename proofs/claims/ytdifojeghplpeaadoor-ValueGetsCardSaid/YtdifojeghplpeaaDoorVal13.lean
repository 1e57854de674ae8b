/- Layer 8: fields that were read, as only takes them. -/
import Derived.Test.YtdifojeghplpeaaDoorVal12
import Derived.Test.YtdifojeghplpeaaDoorGet
namespace Go.Proofs.YtdifojeghplpeaaDoor
open Go.RowKit Var
set_option linter.unusedVariables false

theorem OwnF.gat {w : World} {base c n : Nat} {a : Option Addr} {fs : List F} (h : OwnF w base (.slice a n c) fs) : GAt w w.heap.size a (fs.map F.g) := by
  obtain ⟨xs, h1, h2⟩ := h
  obtain ⟨a', c', e, _, _, hV⟩ := Vals.of_own h1
  injection e with e1 e2 e3
  subst e1
  intro i hi
  have hi' : i < fs.length := by simpa using hi
  obtain ⟨ad, cc, k0, k1, k2, k3, hd⟩ := h2 i hi'
  have hxl := hV.1
  obtain ⟨b, off, rfl, hb, hc⟩ := hV.2 (by rw [hxl]; omega)
  have g : ∀ j u, xs[4 * i + j]? = some u → w.cell? ⟨b, off + i * 4 + j, none⟩ = some u := fun j u hu => by
    have hj : 4 * i + j < xs.length := (List.getElem?_eq_some_iff.1 hu).1
    have := hc (4 * i + j) hj
    rw [show off + i * 4 + j = off + (4 * i + j) by omega, this, hu]
  simp only [List.getElem_map]
  exact ⟨b, off, ad, cc, rfl, hb, g 0 _ k0, g 1 _ k1, g 2 _ k2, g 3 _ k3, hd.nums⟩
end Go.Proofs.YtdifojeghplpeaaDoor
