/- Layer 33: the library's functions; Quality. -/
import Derived.Test.YtkmdimepbghpcaaDoorReqTok
import Derived.Test.YtkmdimepbghpcaaDoorReqMath
import Derived.Shelf.Strings.Cut
import Derived.Shelf.Strings.Repeat
import Derived.Lib.OthersKept
import Derived.Laws.RangeAny
namespace Go.Proofs.YtkmdimepbghpcaaDoor
open Go.RowKit Go.Shelf Go.Lib
set_option linter.unusedVariables false
set_option maxRecDepth 100000

shelf_lay Lays.n145 Nm 145 at Tryd as Tryd.laysCut
shelf_lay Lays.n105 Nm 105 at Tryd as Tryd.laysRepeat
theorem repeatExtra : Builder.Extra Tryd.prog Tryd.laysRepeat_ren where
  sizeBuilder := by kernel_rfl
  liesBuilder := by kernel_rfl
  t5 := Tryd.laysRepeat.t5
  a5 := Tryd.laysRepeat.a5
  z5 := Tryd.laysRepeat.z5
  v5 := Tryd.laysRepeat.v5
  infoByte := by kernel_rfl
  cellsByte := by kernel_rfl
  sizeByte := by kernel_rfl
  neB5 := by decide
theorem strOf_mk (l : List UInt8) : strOf (l.map UInt8.toNat) = ⟨l.toArray⟩ := by
  have := strOf_bs ⟨l.toArray⟩
  unfold bs at this
  exact this
theorem repeat_list : ∀ n : Nat, (Lib.repeatL [48] n : List UInt8) = (List.replicate n 48)
  | 0 => rfl
  | n + 1 => by
    have ih := repeat_list n
    unfold Lib.repeatL
    rw [ih]
    rfl
theorem repeat_str (n : Nat) : (⟨(Lib.repeatL (⟨#[48]⟩ : ByteArray).data.toList n).toArray⟩ : ByteArray) = strOf (List.replicate n 48) := by
  rw [show (⟨#[48]⟩ : ByteArray).data.toList = [48] from rfl, repeat_list, ← strOf_mk, List.map_replicate]
  rfl
theorem repeat_any (n : Nat) (w : World) (hn : n ≤ 10000) : Calls Tryd.prog 11 #[.string ⟨#[48]⟩, .int .i64 (n : Int)] w fun e w' => e = .returned (.string (strOf (List.replicate n 48))) ∧ Below w.heap.size w w' := by
  rw [← repeat_str]
  exact Any.strings_Repeat Tryd.laysRepeat repeatExtra ⟨#[48]⟩ n w (by omega) (by show 1 * n ≤ _; omega)
/-- The library's bound is some number. -/
def MaxOk (W : World) : Prop := Tryd.laysCut_ren.g 1 < W.heap.size ∧ ∃ m, W.cell? ⟨Tryd.laysCut_ren.g 1, 0, none⟩ = some (.int .i64 m)
theorem MaxOk.below {W W' : World} (h : MaxOk W) (hb : Below W.heap.size W W') : MaxOk W' := by
  obtain ⟨h1, m, h2⟩ := h
  exact ⟨Nat.lt_of_lt_of_le h1 hb.size, m, (hb.cell (p := ⟨Tryd.laysCut_ren.g 1, 0, none⟩) h1).trans h2⟩
theorem cut_any (s : ByteArray) (c : UInt8) (w : World) (hs : s.size ≤ 1000000) (hM : MaxOk w) :
    Calls Tryd.prog 10 #[.string s, .string ⟨#[c]⟩] w fun e w' => e = .returned (.tuple #[.string (strOf (cutL (bs s) c.toNat).1), .string (strOf (cutL (bs s) c.toNat).2.1), .bool (cutL (bs s) c.toNat).2.2]) ∧ Below w.heap.size w w' := by
  obtain ⟨_, m, hm⟩ := hM
  refine (Any.strings_Cut Tryd.laysCut s ⟨#[c]⟩ m w (by omega) hm).mono ?_
  rintro e X ⟨rfl, n, rfl⟩
  have h := cut_cutL s.data.toList c
  have hb : bs s = s.data.toList.map UInt8.toNat := rfl
  rw [hb, ← h]
  refine ⟨?_, rfl, rfl, rfl, Nat.le_refl _, fun _ _ => rfl⟩
  simp only [strOf_mk]
end Go.Proofs.YtkmdimepbghpcaaDoor
