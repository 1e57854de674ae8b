/- Layer 18: a field as it is written; Right. -/
import Derived.Test.YtceegpkgifflcaaDoorIdxAny2
import Derived.Test.YtceegpkgifflcaaDoorCsvBack
import Derived.Test.YtceegpkgifflcaaDoorCsvRight
import Derived.Shelf.Strings.Replace
namespace Go.Proofs.YtceegpkgifflcaaDoor
open Go.RowKit Go.Shelf Go.Lib
set_option linter.unusedVariables false
set_option maxRecDepth 100000

shelf_lay Lays.n155 Nm 155 at Tryd as Tryd.laysReplace
theorem replaceExtra : Builder.Extra Tryd.prog Tryd.laysReplace_ren where
  sizeBuilder := by kernel_rfl
  liesBuilder := by kernel_rfl
  t5 := Tryd.laysReplace.t5
  a5 := Tryd.laysReplace.a5
  z5 := Tryd.laysReplace.z5
  v5 := Tryd.laysReplace.v5
  infoByte := by kernel_rfl
  cellsByte := by kernel_rfl
  sizeByte := by kernel_rfl
  neB5 := by decide
def MaxOk (W : World) : Prop := Tryd.laysReplace_ren.g 1 < W.heap.size ∧ ∃ m, W.cell? ⟨Tryd.laysReplace_ren.g 1, 0, none⟩ = some (.int .i64 m)
theorem MaxOk.below {W W' : World} (h : MaxOk W) (hb : Below W.heap.size W W') : MaxOk W' := by
  obtain ⟨h1, m, h2⟩ := h
  exact ⟨Nat.lt_of_lt_of_le h1 hb.size, m, (hb.cell (p := ⟨Tryd.laysReplace_ren.g 1, 0, none⟩) h1).trans h2⟩
def dbl8 (s : List UInt8) : List UInt8 := s.flatMap fun c => if c = 34 then [34, 34] else [c]
theorem index_zero (l : List UInt8) (c : UInt8) : Lib.index (c :: l) [c] = 0 := by unfold Lib.index; simp [List.isPrefixOf]
theorem index_next (b c : UInt8) (l : List UInt8) (h : b ≠ c) : Lib.index (b :: l) [c] = if Lib.index l [c] == -1 then -1 else Lib.index l [c] + 1 := by
  conv => lhs; unfold Lib.index
  simp [List.isPrefixOf, Ne.symm h]
theorem replaceK_skip (b : UInt8) (l : List UInt8) (h : b ≠ 34) (k : Nat) : Lib.replaceK [34] [34, 34] k (b :: l) = b :: Lib.replaceK [34] [34, 34] k l := by
  cases k with
  | zero => rfl
  | succ k =>
    conv => lhs; unfold Lib.replaceK
    conv => rhs; unfold Lib.replaceK
    rw [index_next b 34 l h]
    by_cases hi : Lib.index l [34] = -1
    · rw [hi]; rfl
    · have hge : 0 ≤ Lib.index l [34] := by
        have := Lib.index_ge l [34]
        omega
      obtain ⟨i, hi2⟩ : ∃ i : Nat, Lib.index l [34] = i := ⟨(Lib.index l [34]).toNat, by omega⟩
      rw [hi2]
      have e1 : ((i : Int) == -1) = false := beq_eq_false_iff_ne.mpr (by omega)
      have e2 : ((i : Int) + 1 == -1) = false := beq_eq_false_iff_ne.mpr (by omega)
      simp only [e1, e2, Bool.false_eq_true, if_false]
      rw [show ((i : Int) + 1).toNat = i + 1 by omega, show ((i : Int)).toNat = i by omega]
      rfl
theorem replaceK_dbl : ∀ (s : List UInt8) (k : Nat), s.count 34 ≤ k → Lib.replaceK [34] [34, 34] k s = dbl8 s
  | [], k, _ => by
    cases k with
    | zero => rfl
    | succ k => rfl
  | b :: l, k, h => by
    by_cases hb : b = 34
    · subst hb
      rw [List.count_cons_self] at h
      obtain ⟨k, rfl⟩ : ∃ k', k = k' + 1 := ⟨k - 1, by omega⟩
      rw [Lib.replaceK_hit [34] [34, 34] k (34 :: l) 0 (by rw [index_zero]; rfl)]
      show [] ++ [34, 34] ++ Lib.replaceK [34] [34, 34] k l = _
      rw [replaceK_dbl l k (by omega)]
      simp [dbl8]
    · rw [List.count_cons_of_ne hb] at h
      rw [replaceK_skip b l hb, replaceK_dbl l k h]
      simp [dbl8, hb]
theorem dbl_map (l : List UInt8) : (dbl8 l).map UInt8.toNat = dblE (l.map UInt8.toNat) := by
  induction l with
  | nil => rfl
  | cons b l ih =>
    unfold dbl8 dblE at ih ⊢
    rw [List.flatMap_cons, List.map_append, ih, List.map_cons, List.flatMap_cons]
    congr 1
    by_cases h : b = 34
    · subst h; rfl
    · have : ¬ b.toNat = 34 := fun e => h (UInt8.toNat_inj.1 e)
      rw [if_neg h, if_neg this]; rfl
theorem replace_dbl (s : ByteArray) : Lib.replaceAll s.data.toList [34] [34, 34] = dbl8 s.data.toList := by
  unfold Lib.replaceAll Lib.replace
  rw [if_neg (by decide)]
  refine replaceK_dbl _ _ ?_
  unfold Lib.replaceNum
  rw [if_pos (.inl (by decide)), Lib.count_one]
  exact Nat.le_refl _
theorem strOf_mk (l : List UInt8) : strOf (l.map UInt8.toNat) = ⟨l.toArray⟩ := by
  have := strOf_bs ⟨l.toArray⟩
  unfold bs at this
  exact this
theorem replaceAll_any (s : ByteArray) (w : World) (hs : s.size ≤ 1000000) (hM : MaxOk w) :
    Calls Tryd.prog 16 #[.string s, .string ⟨#[34]⟩, .string ⟨#[34, 34]⟩] w fun e w' => e = .returned (.string (strOf (dblE (bs s)))) ∧ Below w.heap.size w w' := by
  obtain ⟨_, m, hm⟩ := hM
  have hc := Lib.countB_le (⟨#[34]⟩ : ByteArray) (by show 1 ≤ 1; decide) s.size s (Nat.le_refl _)
  have h := Any.strings_ReplaceAll Tryd.laysReplace replaceExtra s ⟨#[34]⟩ ⟨#[34, 34]⟩ m w (by omega) hm (by show 1 ≤ 1; decide) (by show s.size + _ * 2 ≤ _; omega)
  rw [show (⟨#[34]⟩ : ByteArray).data.toList = [34] from rfl, show (⟨#[34, 34]⟩ : ByteArray).data.toList = [34, 34] from rfl, replace_dbl, ← strOf_mk (dbl8 s.data.toList), dbl_map] at h
  exact h
theorem dblE_cons (c : Nat) (l : List Nat) : dblE (c :: l) = (if c = 34 then [34, 34] else [c]) ++ dblE l := by unfold dblE; rw [List.flatMap_cons]
theorem dblE_len : ∀ l : List Nat, (dblE l).length ≤ 2 * l.length
  | [] => Nat.le_refl _
  | c :: l => by
    have ih := dblE_len l
    rw [dblE_cons, List.length_append, List.length_cons]
    split
    · show 2 + _ ≤ _; omega
    · show 1 + _ ≤ _; omega
theorem any_need (s : ByteArray) : anyIn (bs s) (bs ⟨#[44, 34, 13, 10]⟩) = (bs s).any needB := by
  unfold anyIn
  congr 1
  funext c
  show [44, 34, 13, 10].contains c = needB c
  unfold needB
  simp only [List.contains_cons, List.contains_nil, Bool.or_false]
  rw [Bool.or_assoc, Bool.or_assoc]
  rfl
theorem written_any (s : ByteArray) (w : World) (hs : s.size ≤ 1000000) (hM : MaxOk w) :
    Calls Tryd.prog 13 #[.string s] w fun e w' => e = .returned (.string (strOf (fldE (bs s)))) ∧ Below w.heap.size w w' := by
  have HC := Lib.hid (containsAny_any s ⟨#[44, 34, 13, 10]⟩ w (by decide) hs (by show 2 ≤ 4; decide) (by show 4 ≤ 1000; decide))
  rw [any_need] at HC
  have HM := Lib.hid hM
  have HR := Lib.hid fun W h => replaceAll_any s W hs h
  have Hdl : Hid ((dblE (bs s)).length ≤ 2 * s.size) := by
    show _ ≤ _
    rw [← bs_length s]
    exact dblE_len _
  obtain ⟨F, hF⟩ : ∃ F, F = fldE (bs s) := ⟨_, rfl⟩
  rw [← hF]
  unfold fldE at hF
  obtain ⟨D, hD⟩ : ∃ D, D = strOf (dblE (bs s)) := ⟨_, rfl⟩
  rw [← hD] at HR
  have HF := Lib.hid hF
  have HD := Lib.hid hD
  have a1 := fun w => run_string_add_sum (P := Tryd.prog) (w := w) (⟨#[34]⟩ : ByteArray) D (by rw [hD, strOf_size]; show 1 + _ ≤ _; have := Hdl.out; omega)
  have a2 := fun w => run_string_add_sum (P := Tryd.prog) (w := w) ((⟨#[34]⟩ : ByteArray) ++ D) (⟨#[34]⟩ : ByteArray) (by rw [ByteArray.size_append, hD, strOf_size]; show 1 + _ + 1 ≤ _; have := Hdl.out; omega)
  clear hM hF hD
  cases hn : (bs s).any needB with
  | false =>
    rw [hn] at HC
    have Hn := Lib.hid hn
    clear hn
    go_enter Tryd.func13, Tryd.ntmps13
    go_wp2_with fail
    refine HC.out.mono ?_
    rintro e X ⟨rfl, hb⟩
    have HB := Lib.hid hb
    clear hb HC
    go_wp2_with fail
    exact bodyPost_ret (v := .string s) (by simp [results, Tryd.results13, go_sem]) rfl ⟨by rw [HF.out, if_neg (by rw [Hn.out]; decide), strOf_bs], HB.out⟩
  | true =>
    rw [hn] at HC
    have Hn := Lib.hid hn
    clear hn
    go_enter Tryd.func13, Tryd.ntmps13
    go_wp2_with fail
    refine HC.out.mono ?_
    rintro e X ⟨rfl, hb⟩
    have HB := Lib.hid hb
    clear hb HC
    go_wp2_with fail
    refine (HR.out X (HM.out.below HB.out)).mono ?_
    rintro e Y ⟨rfl, hb⟩
    have HY := Lib.hid (keepBelow hb HB.out)
    clear hb HB HR HM
    go_wp2_with fail
    exact bodyPost_ret (v := .string ((⟨#[34]⟩ : ByteArray) ++ D ++ (⟨#[34]⟩ : ByteArray))) (by simp [results, Tryd.results13, go_sem]) rfl
      ⟨by rw [HF.out, if_pos Hn.out, ← strOf_app, ← strOf_app, ← HD.out]; rfl, HY.out⟩
end Go.Proofs.YtceegpkgifflcaaDoor
