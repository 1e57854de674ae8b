/- Layer 16: amount: the text of a number's size. -/
import Derived.Test.YtdbcklabinmgfaaDoorOrd2
import Derived.Shelf.Strings.Repeat
import Derived.Shelf.Strconv.Itoa3
namespace Go.Proofs.YtdbcklabinmgfaaDoor
open Go.RowKit Go.Shelf Go.Lib
set_option linter.unusedVariables false
set_option maxRecDepth 100000

shelf_lay Lays.n105 Nm 105 at Tryd as Tryd.laysRepeat
theorem repeatExtra : Builder.Extra Tryd.prog Tryd.laysRepeat_ren where
  sizeBuilder := by kernel_rfl
  liesBuilder := by kernel_rfl
  t5 := Tryd.laysRepeat.t5
  a5 := Tryd.laysRepeat.a5
  z5 := Tryd.laysRepeat.z5
  v5 := Tryd.laysRepeat.v5
  infoByte := by kernel_rfl
  cellsByte := by kernel_rfl
  sizeByte := by kernel_rfl
  neB5 := by decide
theorem strOf_mk (l : List UInt8) : strOf (l.map UInt8.toNat) = ⟨l.toArray⟩ := by
  have := strOf_bs ⟨l.toArray⟩
  unfold bs at this
  exact this
theorem repeat_list : ∀ n : Nat, (Lib.repeatL [48] n : List UInt8) = (List.replicate n 48)
  | 0 => rfl
  | n + 1 => by
    have ih := repeat_list n
    unfold Lib.repeatL
    rw [ih]
    rfl
theorem repeat_str (n : Nat) : (⟨(Lib.repeatL (⟨#[48]⟩ : ByteArray).data.toList n).toArray⟩ : ByteArray) = strOf (List.replicate n 48) := by
  rw [show (⟨#[48]⟩ : ByteArray).data.toList = [48] from rfl, repeat_list, ← strOf_mk, List.map_replicate]
  rfl
theorem repeat_any (n : Nat) (w : World) (hn : n ≤ 10000) : Calls Tryd.prog 30 #[.string ⟨#[48]⟩, .int .i64 (n : Int)] w fun e w' => e = .returned (.string (strOf (List.replicate n 48))) ∧ Below w.heap.size w w' := by
  rw [← repeat_str]
  exact Any.strings_Repeat Tryd.laysRepeat repeatExtra ⟨#[48]⟩ n w (by omega) (by show 1 * n ≤ _; omega)

structure One (w : World) (b : Nat) (va : Array Value) (W : World) : Prop where
  a : Whole W b 24 va
  k : Below w.heap.size w W
theorem One.step {w W Y : World} {b : Nat} {va : Array Value} (h : One w b va W) (hb : Below W.heap.size W Y) : One w b va Y := ⟨h.a.below hb h.a.lt, keepBelow hb h.k⟩
theorem One.drew {w W : World} {b : Nat} {va : Array Value} (h : One w b va W) : One w b va W.drew := ⟨h.a.drew, ⟨h.k.os, h.k.tape, h.k.output, h.k.size, h.k.block⟩⟩
/-- The text of a number's size; it: the exponent's text. -/
def amountC (D : List Nat) (x : Int) (it : List Nat) : List Nat :=
  if 0 ≤ x ∧ (D.length : Int) + x ≤ 21 then D ++ List.replicate x.toNat 48
  else if 1 ≤ (D.length : Int) + x ∧ (D.length : Int) + x < D.length then D.take ((D.length : Int) + x).toNat ++ [46] ++ D.drop ((D.length : Int) + x).toNat
  else if -6 ≤ (D.length : Int) + x ∧ (D.length : Int) + x ≤ 0 then [48, 46] ++ List.replicate (-((D.length : Int) + x)).toNat 48 ++ D
  else if D.length = 1 then D ++ [101] ++ it
  else D.take 1 ++ [46] ++ D.drop 1 ++ [101] ++ it
theorem strOf_lit (l : List Nat) (a : Array UInt8) (h : (l.map UInt8.ofNat).toArray = a) : (⟨a⟩ : ByteArray) = strOf l := by rw [← h]; rfl
theorem ext_take (ds : ByteArray) (n : Nat) : ds.extract 0 n = strOf ((bs ds).take n) := by rw [ext_bs, List.drop_zero, Nat.sub_zero]
theorem ext_drop (ds : ByteArray) (n : Nat) : ds.extract n ds.size = strOf ((bs ds).drop n) := by rw [ext_bs, List.take_of_length_le (by rw [List.length_drop, bs_length]; omega)]
end Go.Proofs.YtdbcklabinmgfaaDoor
