/- Bytes turned into a string. -/
import Derived.Test.YtceegpkgifflcaaDoorWords
import Derived.Laws.IdiomStrings
import Derived.Lib.BufferRead
namespace Go.Proofs.YtceegpkgifflcaaDoor
open Go.RowKit

/-- The string of the bytes l. -/
def strOf (l : List Nat) : ByteArray := ⟨(l.map UInt8.ofNat).toArray⟩

theorem str_of_nums {P : Program} (W : World) (B : Nat) (src dst e : TypeId) (a : Option Addr) (c : Nat) (l : List Nat) (hs : P.underlying src = some (.slice e)) (he : P.underlying e = some (.int .u8)) (hd : P.underlying dst = some .string)
    (h : Nums .u8 W B a l) (hl : ∀ x ∈ l, x < 256) :
    (convert src dst (.slice a l.length c)).run P W = .ok (.string (strOf l)) W := by
  cases a with
  | none =>
    have h0 : l = [] := by
      rcases l with _ | ⟨x, l⟩
      · rfl
      · obtain ⟨b, off, e, _⟩ := h (by simp)
        cases e
    subst h0
    exact Lib.run_convert_nil_bytes W src dst e c hs he hd
  | some A =>
    have hx : l.length = (l.map UInt8.ofNat).length := by simp
    rw [hx]
    refine run_convert_bytes_back W src dst e A c (l.map UInt8.ofNat) hs he hd ?_
    intro j hj
    have hj' : j < l.length := by simpa using hj
    obtain ⟨b, off, e1, _, h2⟩ := h (by omega)
    injection e1 with e1
    subst e1
    have := h2 j hj'
    have ha : (⟨b, off, none⟩ : Addr).add j = ⟨b, off + j, none⟩ := by
      unfold Addr.add
      split
      · next h => subst h; rfl
      · rfl
    rw [ha, this]
    have hlt := hl l[j] (List.getElem_mem hj')
    simp [List.getD, hj']
    omega
end Go.Proofs.YtceegpkgifflcaaDoor
