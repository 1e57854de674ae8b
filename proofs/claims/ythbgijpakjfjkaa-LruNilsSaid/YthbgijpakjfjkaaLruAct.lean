/- Layer 34: an act that came in. -/
import Derived.Test.YthbgijpakjfjkaaRowNil
import Derived.Lib.SmallJoins
namespace Go.Proofs.Ythbgijpakjfjkaa
open Go.ChangeShapes Go.WideShapes Go.ChangeAt Go.RowKit Go.Joins
set_option linter.unusedVariables false

def ActArg (w : World) (v : Value) : Prop := ∃ (k : Int) (s : ByteArray) (a : Option Addr) (cap : Nat) (bs : List Nat), v = .agg #[.int .i64 k, .string s, .slice a bs.length cap] ∧ s.size ≤ maxLen ∧ bs.length ≤ cap ∧ cap ≤ maxLen ∧ (∀ x ∈ bs, x < 256) ∧ Nums .u8 w w.heap.size a bs ∧ (a = none → cap = 0)
theorem open_act {H : Type} {enc : TypeId × Value → H} {W : World} {base : Nat} {v : Value} {d : DataW H} {p : List MemPlace}
    (hv : Value.okWide Try.prog W .any base 33 v) (h : DataW.Trod enc Try.prog W 0 (fun _ => true) true 33 v d p) : ActArg W v := by
  obtain ⟨c0, c1, c2, y0, y1, y2, m, rfl, rfl, rfl, hy0, hy1, hy2⟩ := open_agg3 Try.underlying33 (by kernel_rfl) (by kernel_rfl) hv h
  obtain ⟨a, e0, rfl, wa⟩ := DataW.trod_int Try.underlying3 hy0
  obtain ⟨s, e1, _, hs⟩ := DataW.trod_string Try.underlying9 hy1
  simp at e0 e1
  subst e0 e1
  have h3 : ∃ (ad : Option Addr) (ln cp : Nat), c2 = .slice ad ln cp := by
    rcases open_ints Try.underlying31 Try.underlying5 (by kernel_rfl) hy2 with ⟨e3, _⟩ | ⟨x3, l3, c3, zs, e3, _⟩
    · simp at e3; exact ⟨_, _, _, e3⟩
    · simp at e3; exact ⟨_, _, _, e3⟩
  obtain ⟨ad, ln, cp, rfl⟩ := h3
  obtain ⟨l, rfl, h1, h2, h3, h4, h5⟩ := open_numsn (enc := enc) Try.underlying31 Try.underlying5 (by kernel_rfl) 256 (fun _ h => nat_u8 h) (d := y2.1) (p := y2.2) (a := ad) (len := ln) (cap := cp) ⟨m, by simpa [Value.cells] using hy2⟩
  exact ⟨a, s, ad, cp, l, rfl, hs, h1, h2, h3, h4, h5⟩
end Go.Proofs.Ythbgijpakjfjkaa
