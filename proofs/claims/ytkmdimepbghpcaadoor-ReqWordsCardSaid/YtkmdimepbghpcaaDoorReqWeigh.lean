/- Layer 33: an element of Accept-Encoding, at the strings that the law's own example needs. -/
import Derived.Test.YtkmdimepbghpcaaDoorReqQ
import Derived.Test.YtkmdimepbghpcaaDoorReqLow
import Derived.Shelf.Strings.SlTrimAscii
import Derived.Shelf.Small.Wraps
namespace Go.Proofs.YtkmdimepbghpcaaDoor
open Go.RowKit Go.Shelf Go.Lib
set_option linter.unusedVariables false
set_option maxRecDepth 100000

shelf_lay Lays.n160 Nm 160 at Tryd as Tryd.laysTrim
shelf_lay Lays.n103 Nm 103 at Tryd as Tryd.laysCutPrefix
def blanksS : ByteArray := ⟨#[32, 9]⟩
theorem trim_any (s r : ByteArray) (w : World) (hs : s.size ≤ 1000) (hr : Lib.trimS s.data.toList [32, 9] = r.data.toList) :
    Calls Tryd.prog 27 #[.string s, .string ⟨#[32, 9]⟩] w fun e w' => e = .returned (.string r) ∧ Below w.heap.size w w' := by
  have h := Any.strings_Trim_laid Tryd.laysTrim (by kernel_rfl) s ⟨#[32, 9]⟩ w (by omega) (by show 2 < 4294967281; decide) (ascii_of_all (by decide))
  rw [show (⟨#[32, 9]⟩ : ByteArray).data.toList = [32, 9] from rfl, hr] at h
  exact h
theorem cutPrefix_any (s r : ByteArray) (b : Bool) (w : World) (hb : Lib.hasPrefix s.data.toList [113, 61] = b) (hr : Lib.trimPrefix s.data.toList [113, 61] = r.data.toList) :
    Calls Tryd.prog 28 #[.string s, .string ⟨#[113, 61]⟩] w fun e w' => e = .returned (.tuple #[.string r, .bool b]) ∧ w = w' := by
  have h := Any.strings_CutPrefix Tryd.laysCutPrefix s ⟨#[113, 61]⟩ w
  rw [show (⟨#[113, 61]⟩ : ByteArray).data.toList = [113, 61] from rfl, hr, hb] at h
  exact h.mono fun e w' ⟨h1, h2⟩ => ⟨h1, h2.symm⟩
theorem cutAt (s n t : ByteArray) (b : Bool) (w : World) (hs : s.size ≤ 1000) (hM : MaxOk w) (h1 : strOf (cutL (bs s) 59).1 = n) (h2 : strOf (cutL (bs s) 59).2.1 = t) (h3 : (cutL (bs s) 59).2.2 = b) :
    Calls Tryd.prog 10 #[.string s, .string ⟨#[59]⟩] w fun e w' => e = .returned (.tuple #[.string n, .string t, .bool b]) ∧ Below w.heap.size w w' := by
  have h := cut_any s 59 w (by omega) hM
  rw [show (59 : UInt8).toNat = 59 from rfl, h1, h2, h3] at h
  exact h
theorem lowAt (s r : ByteArray) (w : World) (hs : s.size ≤ 1000) (hr : strOf (lowN (bs s)) = r) :
    Calls Tryd.prog 26 #[.string s] w fun e w' => e = .returned (.string r) ∧ Below w.heap.size w w' := by
  have h := lower_any s w hs
  rw [hr] at h
  exact h
theorem qualAt (s : ByteArray) (q : Int) (b : Bool) (w : World) (hs : s.size ≤ 1000) (hM : MaxOk w) (hr : codeQ (bs s) = (q, b)) :
    Calls Tryd.prog 5 #[.string s] w fun e w' => e = .returned (.tuple #[.int .i64 q, .bool b]) ∧ Below w.heap.size w w' := by
  have h := quality_any s w hs hM
  rw [hr] at h
  exact h
theorem maxBelow {W X : World} {n : Nat} (h : MaxOk W) (hn : n = W.heap.size) (hb : Below n W X) : MaxOk X := by subst hn; exact h.below hb
/-- What one element needs: stated. -/
structure Elem (s n0 n1 n2 t0 t1 t2 num : ByteArray) (q : Int) : Prop where
  sz : s.size ≤ 1000 ∧ n0.size ≤ 1000 ∧ n1.size ≤ 1000 ∧ t0.size ≤ 1000 ∧ t1.size ≤ 1000 ∧ num.size ≤ 1000
  c1 : strOf (cutL (bs s) 59).1 = n0
  c2 : strOf (cutL (bs s) 59).2.1 = t0
  c3 : (cutL (bs s) 59).2.2 = true
  tn : Lib.trimS n0.data.toList [32, 9] = n1.data.toList
  ln : strOf (lowN (bs n1)) = n2
  tt : Lib.trimS t0.data.toList [32, 9] = t1.data.toList
  lt : strOf (lowN (bs t1)) = t2
  p1 : Lib.hasPrefix t2.data.toList [113, 61] = true
  p2 : Lib.trimPrefix t2.data.toList [113, 61] = num.data.toList
  qu : codeQ (bs num) = (q, true)
structure Plain (s n0 n1 n2 t0 : ByteArray) : Prop where
  sz : s.size ≤ 1000 ∧ n0.size ≤ 1000 ∧ n1.size ≤ 1000
  c1 : strOf (cutL (bs s) 59).1 = n0
  c2 : strOf (cutL (bs s) 59).2.1 = t0
  c3 : (cutL (bs s) 59).2.2 = false
  tn : Lib.trimS n0.data.toList [32, 9] = n1.data.toList
  ln : strOf (lowN (bs n1)) = n2
set_option maxHeartbeats 8000000 in
theorem weighed_elem {s n0 n1 n2 t0 t1 t2 num : ByteArray} {q : Int} (h : Elem s n0 n1 n2 t0 t1 t2 num q) (w : World) (hM : MaxOk w) :
    Calls Tryd.prog 16 #[.string s] w fun e w' => e = .returned (.tuple #[.string n2, .int .i64 q, .bool true]) ∧ Below w.heap.size w w' := by
  have H := Lib.hid h
  have HM := Lib.hid hM
  have HC := Lib.hid (cutAt s n0 t0 true w h.sz.1 hM h.c1 h.c2 h.c3)
  clear h hM
  go_enter Tryd.func16, Tryd.ntmps16
  go_wp2_with fail
  refine HC.out.mono ?_
  rintro e W1 ⟨rfl, hb⟩
  have H1 := Lib.hid hb
  clear hb HC
  go_wp2_with fail
  refine (trim_any n0 n1 W1 H.out.sz.2.1 H.out.tn).mono ?_
  rintro e W2 ⟨rfl, hb⟩
  have H2 := Lib.hid (keepBelow hb H1.out)
  clear hb H1
  go_wp2_with fail
  refine (lowAt n1 n2 W2 H.out.sz.2.2.1 H.out.ln).mono ?_
  rintro e W3 ⟨rfl, hb⟩
  have H3 := Lib.hid (keepBelow hb H2.out)
  clear hb H2
  go_wp2_with fail
  refine (trim_any t0 t1 W3 H.out.sz.2.2.2.1 H.out.tt).mono ?_
  rintro e W4 ⟨rfl, hb⟩
  have H4 := Lib.hid (keepBelow hb H3.out)
  clear hb H3
  go_wp2_with fail
  refine (lowAt t1 t2 W4 H.out.sz.2.2.2.2.1 H.out.lt).mono ?_
  rintro e W5 ⟨rfl, hb⟩
  have H5 := Lib.hid (keepBelow hb H4.out)
  clear hb H4
  go_wp2_with fail
  refine (cutPrefix_any t2 num true W5 H.out.p1 H.out.p2).mono ?_
  rintro e W6 ⟨rfl, rfl⟩
  go_wp2_with fail
  refine (qualAt num q true W5 H.out.sz.2.2.2.2.2 (HM.out.below H5.out) H.out.qu).mono ?_
  rintro e W7 ⟨rfl, hb⟩
  have H7 := Lib.hid (keepBelow hb H5.out)
  clear hb H5 HM H
  go_wp2_with fail
  exact bodyPost_ret (v := .tuple #[.string n2, .int .i64 q, .bool true]) (by simp [results, Tryd.results16, go_sem]) rfl ⟨rfl, H7.out⟩
set_option maxHeartbeats 8000000 in
theorem weighed_plain {s n0 n1 n2 t0 : ByteArray} (h : Plain s n0 n1 n2 t0) (w : World) (hM : MaxOk w) :
    Calls Tryd.prog 16 #[.string s] w fun e w' => e = .returned (.tuple #[.string n2, .int .i64 1000, .bool true]) ∧ Below w.heap.size w w' := by
  have H := Lib.hid h
  have HC := Lib.hid (cutAt s n0 t0 false w h.sz.1 hM h.c1 h.c2 h.c3)
  clear h hM
  go_enter Tryd.func16, Tryd.ntmps16
  go_wp2_with fail
  refine HC.out.mono ?_
  rintro e W1 ⟨rfl, hb⟩
  have H1 := Lib.hid hb
  clear hb HC
  go_wp2_with fail
  refine (trim_any n0 n1 W1 H.out.sz.2.1 H.out.tn).mono ?_
  rintro e W2 ⟨rfl, hb⟩
  have H2 := Lib.hid (keepBelow hb H1.out)
  clear hb H1
  go_wp2_with fail
  refine (lowAt n1 n2 W2 H.out.sz.2.2 H.out.ln).mono ?_
  rintro e W3 ⟨rfl, hb⟩
  have H3 := Lib.hid (keepBelow hb H2.out)
  clear hb H2 H
  go_wp2_with fail
  exact bodyPost_ret (v := .tuple #[.string n2, .int .i64 1000, .bool true]) (by simp [results, Tryd.results16, go_sem]) rfl ⟨rfl, H3.out⟩
theorem elemA : Elem ⟨#[103, 122, 105, 112, 59, 113, 61, 48]⟩ ⟨#[103, 122, 105, 112]⟩ ⟨#[103, 122, 105, 112]⟩ ⟨#[103, 122, 105, 112]⟩ ⟨#[113, 61, 48]⟩ ⟨#[113, 61, 48]⟩ ⟨#[113, 61, 48]⟩ ⟨#[48]⟩ 0 := by
  refine ⟨by decide +kernel, ?_, ?_, ?_, ?_, ?_, ?_, ?_, ?_, ?_, ?_⟩ <;> decide +kernel
theorem elemB : Elem ⟨#[32, 71, 90, 73, 80, 59, 113, 61, 48, 46, 53]⟩ ⟨#[32, 71, 90, 73, 80]⟩ ⟨#[71, 90, 73, 80]⟩ ⟨#[103, 122, 105, 112]⟩ ⟨#[113, 61, 48, 46, 53]⟩ ⟨#[113, 61, 48, 46, 53]⟩ ⟨#[113, 61, 48, 46, 53]⟩ ⟨#[48, 46, 53]⟩ 500 := by
  refine ⟨by decide +kernel, ?_, ?_, ?_, ?_, ?_, ?_, ?_, ?_, ?_, ?_⟩ <;> decide +kernel
theorem plainC : Plain ⟨#[98, 114]⟩ ⟨#[98, 114]⟩ ⟨#[98, 114]⟩ ⟨#[98, 114]⟩ ByteArray.empty := by
  refine ⟨by decide +kernel, ?_, ?_, ?_, ?_, ?_⟩ <;> decide +kernel
end Go.Proofs.YtkmdimepbghpcaaDoor
