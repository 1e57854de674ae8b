/- Layer 18: the program's Text. -/
import Derived.Test.YtceegpkgifflcaaDoorCsvRt
import Derived.Test.YtceegpkgifflcaaDoorStrApp
import Derived.Test.YtceegpkgifflcaaDoorOwn
namespace Go.Proofs.YtceegpkgifflcaaDoor
open Go.RowKit Go.Shelf Go.Lib
set_option linter.unusedVariables false
set_option maxRecDepth 100000

/-- The fields of a row, joined. -/
def joinE : List ByteArray → List Nat
  | [] => []
  | s :: r => fldE (bs s) ++ r.flatMap fun t => 44 :: fldE (bs t)
theorem moreE_eq : ∀ r : List ByteArray, moreE r = (r.flatMap fun t => 44 :: fldE (bs t)) ++ [13, 10]
  | [] => rfl
  | s :: r => by
    show 44 :: (fldE (bs s) ++ moreE r) = _
    rw [moreE_eq r, List.flatMap_cons]
    simp
theorem rowT_join (r : List ByteArray) : rowT r = joinE r ++ [13, 10] := by
  cases r with
  | nil => rfl
  | cons s r => show fldE (bs s) ++ moreE r = _; rw [moreE_eq]; simp [joinE]
theorem joinE_snoc (r : List ByteArray) (t : ByteArray) : joinE (r ++ [t]) = joinE r ++ ((if r = [] then [] else [44]) ++ fldE (bs t)) := by
  cases r with
  | nil => simp [joinE]
  | cons s r => simp [joinE]
theorem joinE_next (x : List ByteArray) (j : Nat) (h : j < x.length) : joinE (x.take (j + 1)) = if 0 < j then (joinE (x.take j) ++ [44]) ++ fldE (bs x[j]) else joinE (x.take j) ++ fldE (bs x[j]) := by
  rw [List.take_succ_eq_append_getElem h, joinE_snoc]
  by_cases h0 : 0 < j
  · have : ¬ x.take j = [] := by
      intro e
      have h9 := congrArg List.length e
      rw [List.length_take, List.length_nil, Nat.min_eq_left (by omega)] at h9
      omega
    rw [if_pos h0, if_neg this]; simp
  · have h9 : x.take j = [] := by rw [show j = 0 by omega]; rfl
    rw [if_neg h0, if_pos h9]; rfl
theorem textE_next (R : List (List ByteArray)) (k : Nat) (h : k < R.length) : textE (R.take (k + 1)) = textE (R.take k) ++ (joinE R[k] ++ [13, 10]) := by
  rw [List.take_succ_eq_append_getElem h]
  unfold textE
  rw [List.flatMap_append, ← rowT_join]
  simp
theorem fldE_len (f : List Nat) : (fldE f).length ≤ 2 * f.length + 2 := by
  unfold fldE
  have := dblE_len f
  split
  · simp; omega
  · omega
theorem fldE_lt {f : List Nat} (h : ∀ x ∈ f, x < 256) : ∀ x ∈ fldE f, x < 256 := by
  intro x hx
  unfold fldE at hx
  split at hx
  · rcases List.mem_append.1 hx with hx | hx
    · rcases List.mem_append.1 hx with hx | hx
      · rw [List.mem_singleton.1 hx]; decide
      · unfold dblE at hx
        obtain ⟨c, hc, hx⟩ := List.mem_flatMap.1 hx
        split at hx
        · simp at hx; omega
        · rw [List.mem_singleton.1 hx]; exact h c hc
    · rw [List.mem_singleton.1 hx]; decide
  · exact h x hx
theorem joinE_lt (r : List ByteArray) : ∀ x ∈ joinE r, x < 256 := by
  cases r with
  | nil => intro x hx; cases hx
  | cons s r =>
    intro x hx
    rcases List.mem_append.1 hx with hx | hx
    · exact fldE_lt (bs_lt s) x hx
    · obtain ⟨t, _, hx⟩ := List.mem_flatMap.1 hx
      rcases List.mem_cons.1 hx with rfl | hx
      · decide
      · exact fldE_lt (bs_lt t) x hx
theorem textE_lt (R : List (List ByteArray)) : ∀ x ∈ textE R, x < 256 := by
  intro x hx
  obtain ⟨r, _, hx⟩ := List.mem_flatMap.1 hx
  rw [rowT_join] at hx
  rcases List.mem_append.1 hx with hx | hx
  · exact joinE_lt r x hx
  · simp at hx; omega
theorem keepBelow2 {B : Nat} {w w1 w2 : World} (h : Below w1.heap.size w1 w2) (h1 : Below B w w1) (hB : B ≤ w1.heap.size) : Below B w w2 := h1.trans (h.mono hB)
/-- A table that is not much. -/
structure Few (R : List (List ByteArray)) : Prop where
  rows : R.length ≤ 50
  cols : ∀ r ∈ R, r.length ≤ 50
  siz : ∀ r ∈ R, ∀ t ∈ r, t.size ≤ 1000
set_option maxHeartbeats 16000000 in
theorem text18_any (u : Value) (R : List (List ByteArray)) (w : World) (hR : RdTT w w.heap.size u R) (hf : Few R) (hM : MaxOk w) (T : Bool) (hT : rightT R = T) :
    Calls Tryd.prog 6 #[u] w fun e w' => e = .returned (.string (strOf (if T then textE R else []))) ∧ Below w.heap.size w w' := by
  have HRi := Lib.hid (right18_any u R w hR (by have := hf.rows; omega) T hT)
  obtain ⟨a, c, rfl, a1, a2, hat⟩ := hR.at
  have hcm : c ≤ 9223372036854775807 := a2
  have HAt := Lib.hid hat
  have Hf := Lib.hid hf
  have HM := Lib.hid hM
  obtain ⟨L, hL⟩ : ∃ L, L = R.length := ⟨_, rfl⟩
  rw [← hL] at a1 HRi ⊢
  have HL := Lib.hid hL
  have hL50 : L ≤ 50 := by rw [hL]; exact hf.rows
  clear hat a2 hR hL hf hM hT
  cases T with
  | false =>
    go_enter Tryd.func6, Tryd.ntmps6
    go_wp2_with fail
    refine HRi.out.mono ?_
    rintro e X ⟨rfl, rfl⟩
    clear HRi
    go_wp2_with fail
    exact bodyPost_ret (v := .string ⟨#[]⟩) (by simp [results, Tryd.results6, go_sem]) rfl ⟨rfl, Below.refl _ _⟩
  | true =>
    have HW := Lib.hid fun (s : ByteArray) (X : World) (h1 : s.size ≤ 1000) (h2 : MaxOk X) => written_any s X (by omega) h2
    obtain ⟨i0, hi0, hz0, hz1, hz2⟩ := info_parts u8info
    have HO0 : Hid (Own8 w w.heap.size (.slice none 0 0) (textE (R.take 0))) := Own8.nil_ _ _
    have HB0 : Hid (Below w.heap.size w w) := Below.refl _ _
    have HI := Lib.hid (And.intro hi0 (And.intro hz0 (And.intro hz1 hz2)))
    clear hi0 hz0 hz1 hz2
    go_enter Tryd.func6, Tryd.ntmps6
    go_wp2_with fail
    refine HRi.out.mono ?_
    rintro e X ⟨rfl, rfl⟩
    clear HRi
    go_wp2_with fail
    go_loopw [3, 5, 6, 7, 13] (fun b _ _ _ i W => ∃ (k : Nat), i = .int .i64 (k : Int) ∧ k ≤ L ∧ Hid (Own8 W w.heap.size b (textE (R.take k))) ∧ Hid (Below w.heap.size w W) ∧ Hid ((textE (R.take k)).length ≤ 200000 * k)) (fun _ _ _ _ i _ => L - (RowKit.intOf i).toNat)
    case atStart => exact ⟨0, rfl, Nat.zero_le _, HO0, HB0, by show _ ≤ _; rw [List.take_zero]; exact Nat.le_refl _⟩
    case round =>
      clear HO0 HB0
      obtain ⟨k, rfl, hk, HO, HB, Hsz⟩ := hrel
      by_cases hlt : k < L
      · have d1 : decide ((k : Int) < (L : Int)) = true := decide_eq_true (by omega)
        have k0 : (0 : Int) ≤ (k : Int) := by omega
        have k1 : (k : Int) < (L : Int) := by omega
        have hka : k < R.length := by have := HL.out; omega
        obtain ⟨b, o, u, rfl, l1, l2, ⟨aa, ca, rfl, q1, q2, hra⟩⟩ := (HAt.out.below HB.out) k hka
        obtain ⟨x, hx⟩ : ∃ x, x = R[k]'hka := ⟨_, rfl⟩
        rw [← hx] at l2 q1 hra
        have hcx : ca ≤ 9223372036854775807 := q2
        have Hxm : Hid (x ∈ R) := by show _ ∈ _; rw [hx]; exact List.getElem_mem hka
        obtain ⟨M, hM⟩ : ∃ M, M = x.length := ⟨_, rfl⟩
        rw [← hM] at l2 q1
        have HM1 := Lib.hid hM
        have HM50 : Hid (M ≤ 50) := by show _ ≤ _; rw [hM]; exact Hf.out.cols x Hxm.out
        have HRa := Lib.hid hra
        have Hnx := Lib.hid (textE_next R k hka)
        rw [← hx] at Hnx
        have HO1 : Hid (Own8 wr w.heap.size u3 (textE (R.take k) ++ joinE (x.take 0))) := by show Own8 _ _ _ _; rw [List.take_zero]; show Own8 _ _ _ (_ ++ []); rw [List.append_nil]; exact HO.out
        clear hra hx q2 hM
        go_wp2_with fail
        go_loopw [3, 6, 7, 19] (fun b _ _ i W => ∃ (j : Nat), i = .int .i64 (j : Int) ∧ j ≤ M ∧ Hid (Own8 W w.heap.size b (textE (R.take k) ++ joinE (x.take j))) ∧ Hid (Below w.heap.size wr W) ∧ Hid ((textE (R.take k) ++ joinE (x.take j)).length ≤ 200000 * k + 3000 * j)) (fun _ _ _ i _ => M - (RowKit.intOf i).toNat)
        case atStart => exact ⟨0, rfl, Nat.zero_le _, HO1, Below.refl _ _, by show _ ≤ _; rw [List.take_zero]; show (_ ++ []).length ≤ _; rw [List.append_nil]; exact Hsz.out⟩
        case round =>
          clear HO1
          obtain ⟨j, rfl, hj, HOj, HBj, Hszj⟩ := hrel
          by_cases hjt : j < M
          · have d2 : decide ((j : Int) < (M : Int)) = true := decide_eq_true (by omega)
            have j0 : (0 : Int) ≤ (j : Int) := by omega
            have j1 : (j : Int) < (M : Int) := by omega
            have hja : j < x.length := by have := HM1.out; omega
            obtain ⟨bx, ox, rfl, s1, s2⟩ := (HRa.out.below HBj.out).at j hja
            obtain ⟨t, ht⟩ : ∃ t, t = x[j]'hja := ⟨_, rfl⟩
            rw [← ht] at s2
            have hts : t.size ≤ 1000 := by rw [ht]; exact Hf.out.siz x Hxm.out _ (List.getElem_mem hja)
            have Hjn := Lib.hid (joinE_next x j hja)
            rw [← ht] at Hjn
            have hM5 := HM50.out
            have hFl : (fldE (bs t)).length ≤ 2002 := by have := fldE_len (bs t); rw [bs_length] at this; omega
            obtain ⟨Z, hZ⟩ : ∃ Z, Z = strOf (fldE (bs t)) := ⟨_, rfl⟩
            have HbZ : Hid (bs Z = fldE (bs t)) := by show _ = _; rw [hZ, bs_strOf _ (fldE_lt (bs_lt t))]
            have HZs : Hid (Z.size ≤ 2002) := by show _ ≤ _; rw [hZ, strOf_size]; exact hFl
            have HWt := Lib.hid fun X h => HW.out t X hts h
            rw [← hZ] at HWt
            obtain ⟨P, hP⟩ : ∃ P, P = textE (R.take k) ++ joinE (x.take j) := ⟨_, rfl⟩
            rw [← hP] at HOj Hszj
            have HP := Lib.hid hP
            have HBw : Hid (Below w.heap.size w wr) := HB.out.trans HBj.out
            clear ht hZ hP hFl hts
            by_cases hj0 : 0 < j
            · have d3 : decide ((0 : Int) < (j : Int)) = true := decide_eq_true (by omega)
              have d5 : decide (0 < j) = true := decide_eq_true hj0
              have Hl1 : Hid (P.length + 1 ≤ maxLen) := by have := Hszj.out; unfold Hid maxLen; omega
              have Hl2 : Hid ((P.length + 1) * 1 ≤ 140737488355328) := by have := Hszj.out; unfold Hid; omega
              rw [if_pos hj0] at Hjn
              clear hj0
              go_wp2_with (at_builtin; go_loud (refine app_one rfl (.tmp 26) (.tmp 27) 32 rfl w.heap.size 5 i0 _ 1 Tryd.underlying32 HI.out.1 HI.out.2.1 HI.out.2.2.1 HI.out.2.2.2 rfl u3 P.length (u8s P) rfl (by exact HOj.out) (.int .u8 44) 1 (by simp [Act.eval]) rfl Hl1.out Hl2.out (by exact HBw.out.size) ?_))
              intro v5 w5 h2 h3 h5
              have HO5 : Hid (Own8 w5 w.heap.size v5 (P ++ [44])) := by show World.ownsRow _ _ _ _ _ _ _; rw [List.length_append, u8s_append]; exact h2
              have HB5 : Hid (Below w.heap.size wr w5) := (HOj.out.grown h3).below (fun b hb e => by have := (HOj.out.lt b e).1; omega) HBw.out.size
              clear h2 h3 h5
              go_wp2_with fail
              refine (HWt.out w5 (HM.out.below (HBw.out.trans HB5.out))).mono ?_
              rintro e Y ⟨rfl, hb⟩
              have HOY : Hid (Own8 Y w.heap.size v5 (P ++ [44])) := HO5.out.below hb
              have HBY : Hid (Below w.heap.size wr Y) := keepBelow2 hb HB5.out (HBw.out.trans HB5.out).size
              have HlZ : Hid ((P ++ [44]).length + Z.size ≤ 1000000000000) := by show _ ≤ _; rw [List.length_append]; have := Hszj.out; have := HZs.out; show P.length + 1 + Z.size ≤ _; omega
              have HsY : Hid (w.heap.size ≤ Y.heap.size) := ((HBw.out.trans HBY.out)).size
              clear hb HO5 HB5
              go_wp2_with (refine app_str rfl (.tmp 29) (.tmp 31) 32 9 rfl Tryd.underlying32 Tryd.underlying9 w.heap.size v5 (P ++ [44]) rfl (by exact HOY.out) Z rfl HlZ.out (by exact HsY.out) ?_; intro v6 w6 hown6 hgrow6)
              have HO6 : Hid (Own8 w6 w.heap.size v6 (textE (R.take k) ++ joinE (x.take (j + 1)))) := by
                show Own8 _ _ _ _
                rw [Hjn.out, ← HbZ.out, ← List.append_assoc, ← List.append_assoc, ← HP.out]; exact hown6
              have HB6 := Lib.hid (HBj.out.trans (HBY.out.trans ((HOY.out.grown hgrow6).below (fun b hb e => by have := (HOY.out.lt b e).1; omega) HsY.out)))
              have HS6 : Hid ((textE (R.take k) ++ joinE (x.take (j + 1))).length ≤ 200000 * k + 3000 * (j + 1)) := by
                show _ ≤ _
                rw [Hjn.out, ← HbZ.out, ← List.append_assoc, ← List.append_assoc, ← HP.out, List.length_append, List.length_append, bs_length]
                have := Hszj.out; have := HZs.out
                show P.length + 1 + Z.size ≤ _
                omega
              clear hown6 hgrow6 HOY HBY HsY HlZ
              go_wp2_with fail
              go_roundw
              case rel => exact ⟨j + 1, by go_num, by omega, HO6, HB6, HS6⟩
              case measure => simp [RowKit.intOf]; omega
            · have d3 : decide ((0 : Int) < (j : Int)) = false := decide_eq_false (by omega)
              have d5 : decide (0 < j) = false := decide_eq_false hj0
              rw [if_neg hj0] at Hjn
              clear hj0
              go_wp2_with fail
              refine (HWt.out wr (HM.out.below HBw.out)).mono ?_
              rintro e Y ⟨rfl, hb⟩
              have HOY : Hid (Own8 Y w.heap.size u3 P) := HOj.out.below hb
              have HBY : Hid (Below w.heap.size wr Y) := keepBelow2 hb (Below.refl _ _) HBw.out.size
              have HlZ : Hid (P.length + Z.size ≤ 1000000000000) := by show _ ≤ _; have := Hszj.out; have := HZs.out; omega
              have HsY : Hid (w.heap.size ≤ Y.heap.size) := ((HBw.out.trans HBY.out)).size
              clear hb
              go_wp2_with (refine app_str rfl (.tmp 29) (.tmp 31) 32 9 rfl Tryd.underlying32 Tryd.underlying9 w.heap.size u3 P rfl (by exact HOY.out) Z rfl HlZ.out (by exact HsY.out) ?_; intro v6 w6 hown6 hgrow6)
              have HO6 : Hid (Own8 w6 w.heap.size v6 (textE (R.take k) ++ joinE (x.take (j + 1)))) := by
                show Own8 _ _ _ _
                rw [Hjn.out, ← HbZ.out, ← List.append_assoc, ← HP.out]; exact hown6
              have HB6 := Lib.hid (HBj.out.trans (HBY.out.trans ((HOY.out.grown hgrow6).below (fun b hb e => by have := (HOY.out.lt b e).1; omega) HsY.out)))
              have HS6 : Hid ((textE (R.take k) ++ joinE (x.take (j + 1))).length ≤ 200000 * k + 3000 * (j + 1)) := by
                show _ ≤ _
                rw [Hjn.out, ← HbZ.out, ← List.append_assoc, ← HP.out, List.length_append, bs_length]
                have := Hszj.out; have := HZs.out
                omega
              clear hown6 hgrow6 HOY HBY HsY HlZ
              go_wp2_with fail
              go_roundw
              case rel => exact ⟨j + 1, by go_num, by omega, HO6, HB6, HS6⟩
              case measure => simp [RowKit.intOf]; omega
          · obtain rfl : j = M := by omega
            have d2 : decide ((j : Int) < (j : Int)) = false := decide_eq_false (by omega)
            have hfin : x.take j = x := by rw [HM1.out, List.take_length]
            rw [hfin] at HOj Hszj
            have hM5 := HM50.out
            have HBw : Hid (Below w.heap.size w wr) := HB.out.trans HBj.out
            have HlZ : Hid ((textE (R.take k) ++ joinE x).length + (⟨#[13, 10]⟩ : ByteArray).size ≤ 1000000000000) := by show _ + 2 ≤ _; have := Hszj.out; omega
            clear hfin
            go_wp2_with (refine app_str rfl (.tmp 34) (.const (.string ⟨#[13, 10]⟩)) 32 9 rfl Tryd.underlying32 Tryd.underlying9 w.heap.size u3 (textE (R.take k) ++ joinE x) rfl (by exact HOj.out) ⟨#[13, 10]⟩ rfl HlZ.out (by exact HBw.out.size) ?_; intro v6 w6 hown6 hgrow6)
            have HO6 : Hid (Own8 w6 w.heap.size v6 (textE (R.take (k + 1)))) := by
              show Own8 _ _ _ _
              rw [Hnx.out, ← List.append_assoc]; exact hown6
            have HB6 : Hid (Below w.heap.size w w6) := HBw.out.trans ((HOj.out.grown hgrow6).below (fun b hb e => by have := (HOj.out.lt b e).1; omega) HBw.out.size)
            have HS6 : Hid ((textE (R.take (k + 1))).length ≤ 200000 * (k + 1)) := by
              show _ ≤ _
              rw [Hnx.out, ← List.append_assoc, List.length_append]
              have := Hszj.out
              show _ + 2 ≤ _
              omega
            clear hown6 hgrow6
            go_wp2_with fail
            go_roundw
            case rel => exact ⟨k + 1, by go_num, by omega, HO6, HB6, HS6⟩
            case measure => simp [RowKit.intOf]; omega
      · obtain rfl : k = L := by omega
        have hfin : R.take k = R := by rw [HL.out, List.take_length]
        rw [hfin] at HO
        have hst := HO.out.str (textE_lt R)
        have d1 : decide ((k : Int) < (k : Int)) = false := decide_eq_false (by omega)
        obtain ⟨S, hS⟩ : ∃ S, S = strOf (textE R) := ⟨_, rfl⟩
        rw [← hS] at hst
        have HS := Lib.hid hS
        clear hS hfin
        go_wp2_with fail
        exact bodyPost_ret (v := .string S) (by simp [results, Tryd.results6, go_sem]) rfl ⟨by rw [HS.out]; first | done | rfl, HB.out⟩
end Go.Proofs.YtceegpkgifflcaaDoor
