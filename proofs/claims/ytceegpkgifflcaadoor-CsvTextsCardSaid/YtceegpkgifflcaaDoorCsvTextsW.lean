/- Layer 18: the law CsvTexts, walked. -/
import Derived.Test.YtceegpkgifflcaaDoorCsvRx
import Derived.Test.YtceegpkgifflcaaDoorCsv8
import Derived.Test.YtceegpkgifflcaaDoorCsv10
namespace Go.Proofs.YtceegpkgifflcaaDoor
open Go.RowKit Go.Shelf Go.Lib
set_option linter.unusedVariables false
set_option maxRecDepth 100000

theorem sumT_mem {r : List ByteArray} {t : ByteArray} (h : t ∈ r) : t.size ≤ sumT r := by
  induction r with
  | nil => cases h
  | cons s r ih =>
    simp only [sumT, List.map_cons, List.sum_cons] at ih ⊢
    rcases List.mem_cons.1 h with rfl | h
    · omega
    · have := ih h; omega
theorem bulkT_mem2 {A : List (List ByteArray)} {r : List ByteArray} (h : r ∈ A) : sumT r ≤ bulkT A := by
  induction A with
  | nil => cases h
  | cons s A ih =>
    simp only [bulkT, List.map_cons, List.sum_cons] at ih ⊢
    rcases List.mem_cons.1 h with rfl | h
    · omega
    · have := ih h; omega
theorem right_of {R : List (List ByteArray)} (h : rightT R = true) : rightE R := by
  unfold rightT at h
  rw [Bool.and_eq_true, decide_eq_true_eq, List.all_eq_true] at h
  refine ⟨h.2, fun r hr => ?_⟩
  obtain ⟨h1, h2, h3⟩ := okRow_parts (h.1 r hr)
  refine ⟨fun e => by rw [e] at h1; simp at h1, h2, fun e => h3 ?_⟩
  rw [e]
  exact ⟨rfl, rfl⟩
theorem textE_len : ∀ R : List (List ByteArray), (textE R).length ≤ 3 * bulkT R + 2 * R.length
  | [] => Nat.le_refl _
  | r :: R => by
    have ih := textE_len R
    have hm : ∀ q : List ByteArray, (q.flatMap fun t => 44 :: fldE (bs t)).length ≤ 3 * sumT q := by
      intro q
      induction q with
      | nil => exact Nat.le_refl _
      | cons t q ihq =>
        have h4 := fldE_len (bs t)
        rw [bs_length] at h4
        simp only [sumT, List.map_cons, List.sum_cons] at ihq ⊢
        rw [List.flatMap_cons, List.length_append, List.length_cons]
        omega
    have hr : (rowT r).length ≤ 3 * sumT r + 2 := by
      rw [rowT_join, List.length_append]
      cases r with
      | nil => exact Nat.le_refl _
      | cons s q =>
        have h3 := hm q
        have h4 := fldE_len (bs s)
        rw [bs_length] at h4
        show (fldE (bs s) ++ _).length + 2 ≤ _
        rw [List.length_append]
        simp only [sumT, List.map_cons, List.sum_cons] at h3 ⊢
        omega
    show (rowT r ++ textE R).length ≤ _
    rw [List.length_append, List.length_cons]
    simp only [bulkT, List.map_cons, List.sum_cons] at ih ⊢
    omega
theorem below_dr {B : Nat} {w w' : World} (h : Below B w w') (n : Nat) : Below B w (w'.drewN n) := ⟨h.os, h.tape, h.output, h.size, h.block⟩
set_option maxHeartbeats 8000000 in
theorem csvTexts_walk (u : Value) (w : World) (hu : ∃ ll, RdTT w w.heap.size u ll ∧ ∀ l ∈ ll, ∀ t ∈ l, t.size ≤ 140737488355328) (hMx : MaxOk w) :
    Calls Tryd.prog 3 #[u] w fun e w' => e = .returned (.bool true) ∧ Below w.heap.size w w' := by
  obtain ⟨R, hRa⟩ := hu
  have hTb : Tbl w u R := hRa
  have hR := hRa.1
  have HL := Lib.hid live18_any
  have HC := Lib.hid code18_any
  have HM := Lib.hid (much18_any u R w hTb)
  obtain ⟨T, hT⟩ : ∃ T, rightT R = T := ⟨_, rfl⟩
  have HTx := Lib.hid fun hf => text18_any u R w hR hf hMx T hT
  have HRd : Hid (∀ X, Below w.heap.size w X → RdTT X X.heap.size u R) := fun X h => (hR.below h).more h.size
  have HRi := Lib.hid fun X hX hn => right18_any u R X (HRd.out X hX) hn T hT
  have HRr := Lib.hid fun X hX hn => refRight_any u R X (HRd.out X hX) hn T hT
  have HRt := Lib.hid fun X hX hf => refText_any u R X (HRd.out X hX) hf T hT
  have HT := Lib.hid hT
  clear hRa hTb hR hMx hT
  obtain ⟨S, hS⟩ : ∃ S, S = strOf (if T then textE R else []) := ⟨_, rfl⟩
  rw [← hS] at HTx HRt
  have HS := Lib.hid hS
  clear hS
  go_enter Tryd.func3, Tryd.ntmps3
  go_wp2_with fail
  refine HM.out.mono ?_
  rintro e W ⟨t1, rfl, hm, rfl⟩
  cases t1 with
  | true =>
    go_wp2_with fail
    refine (HL.out _).mono ?_
    rintro e W4 ⟨rfl, hb4⟩
    have HB4 := Lib.hid hb4
    clear hb4
    go_wp2_with fail
    exact bodyPost_ret (v := .bool true) (by simp [results, Tryd.results3, go_sem]) rfl ⟨rfl, HB4.out⟩
  | false =>
    have Hm := Lib.hid (hm rfl)
    clear hm HM
    have Hf : Hid (Few R) := ⟨Hm.out.1, Hm.out.2.1, fun r hr t ht => by have h1 := sumT_mem ht; have h2 := bulkT_mem2 hr; have := Hm.out.2.2; omega⟩
    have Hn : Hid (R.length ≤ 65536) := by show _ ≤ _; have := Hm.out.1; omega
    have HTx2 := Lib.hid (HTx.out Hf.out)
    clear HTx
    go_wp2_with fail
    refine HTx2.out.mono ?_
    rintro e Y1 ⟨rfl, hb⟩
    have H1 := Lib.hid hb
    clear hb HTx2
    go_wp2_with fail
    refine (HRi.out Y1 H1.out Hn.out).mono ?_
    rintro e Y2 ⟨rfl, rfl⟩
    go_wp2_with fail
    refine (HRr.out Y1 H1.out Hn.out).mono ?_
    rintro e Y2 ⟨rfl, n2, hY2⟩
    have H2 : Hid (Below w.heap.size w Y2) := by show Below _ _ _; rw [hY2]; exact below_dr H1.out n2
    clear hY2 H1
    have eT : (T != T) = false := bne_self_eq_false T
    have eS : (S.toList == S.toList) = true := beq_self_eq_true _
    go_wp2_with fail
    refine (HRt.out Y2 H2.out Hf.out).mono ?_
    rintro e Y3 ⟨rfl, hb⟩
    have H3 := Lib.hid (keepBelow2 hb H2.out H2.out.size)
    clear hb H2
    go_wp2_with fail
    refine (HRr.out Y3 H3.out Hn.out).mono ?_
    rintro e Y4 ⟨rfl, n4, hY4⟩
    have H4 : Hid (Below w.heap.size w Y4) := by show Below _ _ _; rw [hY4]; exact below_dr H3.out n4
    clear hY4 H3 eT
    cases T with
    | false =>
      go_wp2_with fail
      refine (HL.out _).mono ?_
      rintro e W4 ⟨rfl, hb4⟩
      have HB4 := Lib.hid (keepBelow2 hb4 H4.out H4.out.size)
      clear hb4
      go_wp2_with fail
      exact bodyPost_ret (v := .bool true) (by simp [results, Tryd.results3, go_sem]) rfl ⟨rfl, HB4.out⟩
    | true =>
      have hbS : bs S = textE R := by rw [HS.out]; exact bs_strOf _ (textE_lt R)
      have hSl : S.size ≤ 1000000 := by rw [← bs_length, hbS]; have := textE_len R; have := Hm.out.1; have := Hm.out.2.2; omega
      have HPa := Lib.hid fun W => parse_any S W hSl
      have hpar : parseE (bs S) ((bs S).length + 1) 0 [] = (R, S.size, 0) := by
        rw [← bs_length S, hbS]; exact text_back (right_of HT.out)
      rw [hpar] at HPa
      have ez : ((S.size : Int) == (S.size : Int)) = true := beq_self_eq_true _
      clear hbS hSl hpar HRi HRr HRt eS
      go_wp2_with fail
      refine (HPa.out _).mono ?_
      rintro e W1 ⟨v1, rfl, hR1, hb1⟩
      have HB1 : Hid (Below w.heap.size w W1) := keepBelow2 hb1 H4.out H4.out.size
      have HS1 : Hid (Calls Tryd.prog 12 #[v1, u] W1 fun e w' => e = .returned (.bool true) ∧ ∃ n, w' = W1.drewN n) := refSame_any v1 u R R W1 hR1 (HRd.out W1 HB1.out) true (decide_eq_true rfl)
      clear hR1 hb1 HPa
      go_wp2_with (go_at_call 11; refine (HC.out _ _).mono ?_; rintro e Z9 ⟨rfl, rfl⟩)
      refine HS1.out.mono ?_
      rintro e W3 ⟨rfl, n3, hW3⟩
      have HB3 : Hid (Below w.heap.size w W3) := by show Below _ _ _; rw [hW3]; exact below_dr HB1.out n3
      clear hW3
      go_wp2_with fail
      refine (HL.out _).mono ?_
      rintro e W4 ⟨rfl, hb4⟩
      have HB4 := Lib.hid (keepBelow2 hb4 HB3.out HB3.out.size)
      clear hb4
      go_wp2_with fail
      exact bodyPost_ret (v := .bool true) (by simp [results, Tryd.results3, go_sem]) rfl ⟨rfl, HB4.out⟩
end Go.Proofs.YtceegpkgifflcaaDoor
