/- strings.ContainsAny of any bytes, where the characters are ASCII: the walk. -/
import Derived.Test.YtceegpkgifflcaaDoorIdxAny
namespace Go.Proofs.YtceegpkgifflcaaDoor
open Go.RowKit Go.Shelf Go.Lib
set_option linter.unusedVariables false
set_option maxRecDepth 100000

shelf_lay Lays.n153 Nm 153 at Tryd as Tryd.laysIdxAny
def anyIn (l cs : List Nat) : Bool := l.any fun c => cs.contains c
theorem contains_nat (l : List UInt8) (b : UInt8) : (l.map UInt8.toNat).contains b.toNat = l.contains b := by
  induction l with
  | nil => rfl
  | cons a l ih =>
    rw [List.map_cons, List.contains_cons, List.contains_cons, ih]
    congr 1
    by_cases h : b = a
    · subst h; simp
    · have : ¬ b.toNat = a.toNat := fun e => h (UInt8.toNat_inj.1 e)
      rw [beq_eq_false_iff_ne.mpr h, beq_eq_false_iff_ne.mpr this]
theorem containsAny_anyIn (s chars : ByteArray) : Lib.containsAny s.data.toList chars.data.toList = anyIn (bs s) (bs chars) := by
  show _ = ((s.data.toList.map UInt8.toNat).any fun c => (chars.data.toList.map UInt8.toNat).contains c)
  generalize chars.data.toList = cs
  induction s.data.toList with
  | nil => unfold Lib.containsAny Lib.indexAny; rfl
  | cons b l ih =>
    rw [List.map_cons, List.any_cons, contains_nat, ← ih]
    unfold Lib.containsAny
    have hge := Lib.indexAny_ge cs l
    conv => lhs; unfold Lib.indexAny
    cases hc : cs.contains b with
    | true => rfl
    | false =>
      by_cases h : Lib.indexAny l cs = -1
      · rw [h]; rfl
      · have : (Lib.indexAny l cs == -1) = false := beq_eq_false_iff_ne.mpr h
        simp only [this, Bool.false_eq_true, if_false, Bool.false_or]
        rw [decide_eq_decide]
        omega
theorem firstAt_ge (l : List Nat) (c : Nat) : decide (0 ≤ optI (firstAt l c)) = l.contains c := by
  induction l with
  | nil => rfl
  | cons b l ih =>
    rw [firstAt_cons, List.contains_cons]
    by_cases h : b = c
    · rw [if_pos h, h]; simp [optI]
    · rw [if_neg h, ← ih]
      have : (c == b) = false := beq_eq_false_iff_ne.mpr (Ne.symm h)
      rw [this, Bool.false_or]
      cases firstAt l c with
      | none => rfl
      | some n =>
        exact (decide_eq_true (by show (0 : Int) ≤ ((n + 1 : Nat) : Int); omega)).trans (decide_eq_true (by show (0 : Int) ≤ (n : Int); omega)).symm
theorem indexRune_low (s : ByteArray) (c : Nat) (hc : c < 128) (w : World) : Calls Tryd.prog 24 #[.string s, .int .i32 (c : Int)] w fun e w' => e = .returned (.int .i64 (optI (firstAt (bs s) c))) ∧ w = w' := by
  have h := Any.strings_IndexRune_ascii { Tryd.laysIdxAny with } s (c : Int) w (by omega) (by omega)
  refine h.mono fun e w' ⟨h1, h2⟩ => ⟨?_, h2.symm⟩
  rw [h1, indexByte_first]
  congr 3
  simp
  congr 1
  omega
def IdxPost (w : World) (t : Bool) (e : Ending) (w' : World) : Prop := ∃ v : Int, e = .returned (.int .i64 v) ∧ decide (0 ≤ v) = t ∧ Below w.heap.size w w'
theorem not_any {l cs : List Nat} (h : ∀ j, j < l.length → cs.contains (l.getD j 0) = false) : anyIn l cs = false := by
  unfold anyIn
  rw [← Bool.not_eq_true, List.any_eq_true]
  rintro ⟨c, hc, h1⟩
  obtain ⟨j, hj, rfl⟩ := List.mem_iff_getElem.1 hc
  have := h j hj
  rw [List.getD_eq_getElem?_getD, List.getElem?_eq_getElem hj] at this
  rw [Option.getD_some] at this
  rw [h1] at this
  cases this
theorem yes_any {l cs : List Nat} {j : Nat} (hj : j < l.length) (h : cs.contains (l.getD j 0) = true) : anyIn l cs = true := by
  unfold anyIn
  rw [List.any_eq_true]
  refine ⟨l[j], List.getElem_mem hj, ?_⟩
  rw [List.getD_eq_getElem?_getD, List.getElem?_eq_getElem hj] at h
  exact h
theorem high_no {cs : List Nat} (h : ∀ x ∈ cs, x < 128) {c : Nat} (hc : 128 ≤ c) : cs.contains c = false := by
  rw [← Bool.not_eq_true]
  intro e
  have := h c (List.contains_iff_mem.1 e)
  omega
set_option maxHeartbeats 8000000 in
theorem indexAny_any (s chars : ByteArray) (w : World) (ha : ∀ x ∈ bs chars, x < 128) (hs : s.size ≤ 1000000) (h2 : 2 ≤ chars.size) (hcs : chars.size ≤ 1000) (t : Bool) (ht : anyIn (bs s) (bs chars) = t) :
    Calls Tryd.prog 19 #[.string s, .string chars] w (IdxPost w t) := by
  by_cases h8 : 8 < s.size
  · have hac : ∀ (j : Nat) b, chars.data.toList[j]? = some b → b.toNat < 128 := fun j b hb => ha b.toNat (List.mem_map.2 ⟨b, List.mem_of_getElem? hb, rfl⟩)
    have hz := zero_of_info (P := Tryd.prog) (t := Tryd.laysIdxAny_ren.t 116) (by kernel_rfl : (Tryd.prog.info? (Tryd.laysIdxAny_ren.t 116)).map (fun i => (i.zero, i.size)) = some (some (.agg (Array.replicate 256 (.bool false))), 256))
    refine (Any.strings_IndexAny_long Tryd.laysIdxAny hz.1 hz.2 s chars w h2 h8 (by omega) (by omega) hac).mono fun e w' ⟨e1, e2⟩ => ⟨_, e1, ?_, ?_⟩
    · rw [← ht, ← containsAny_anyIn]; rfl
    · rw [e2]; exact ((Below.refl _ _).alloc (Nat.le_refl _) _).alloc (by simp) _
  · have HS := Lib.hid ((Any.strings_shouldUseASCIISet { Tryd.laysIdxAny with } (s.size : Int) w).mono (R' := fun e w' => e = .returned (.bool false) ∧ w' = w) (by
      rintro e w' ⟨h1, h3⟩
      exact ⟨by rw [h1, decide_eq_false (show ¬ (8 : Int) < (s.size : Int) by omega)], h3⟩))
    have f1 : chars.toList.isEmpty = false := by
      rw [Lib.toList_data]
      cases h : chars.data.toList with
      | nil => have h9 : chars.data.toList.length = chars.size := rfl; rw [h, List.length_nil] at h9; omega
      | cons _ _ => rfl
    have f2 : ((chars.size : Int) == 1) = false := beq_eq_false_iff_ne.2 (by omega)
    have HL := Lib.hid fun c hc W => indexRune_low chars c hc W
    have HH := Lib.hid fun r W h1 h2 => indexRune_high chars r W ha (by omega) h1 h2
    have Ha := Lib.hid ha
    have Ht := Lib.hid ht
    clear ha ht
    go_enter Tryd.func19, Tryd.ntmps19
    go_wp2_with fail
    refine HS.out.mono ?_
    rintro e X ⟨rfl, rfl⟩
    clear HS
    go_upto_region 18 with (fail)
    obtain ⟨g, hg⟩ : ∃ g, g = X.heap.size := ⟨_, rfl⟩
    have Hit : Hid ((X.iter s 0).heap[g]? = some (.stringIter s 0)) := by show _ = _; rw [hg]; exact World.iter_heap X s 0
    have HB2 : Hid (Below X.heap.size X (X.iter s 0)) := (Below.refl _ _).alloc (Nat.le_refl _) _
    have Hlo : Hid (X.heap.size ≤ g) := Nat.le_of_eq hg.symm
    have Hgl : Hid (g < (X.iter s 0).heap.size) := by show _ < _; rw [hg]; exact (Array.getElem?_eq_some_iff.1 (World.iter_heap X s 0)).1
    try rw [← hg]
    clear hg
    go_loopw [9, 10] (fun _ _ W => ∃ k : Nat, k ≤ s.size ∧ Hid (W.heap[g]? = some (.stringIter s k)) ∧ Hid (Below X.heap.size X W) ∧ Hid (∀ j, j < k → (bs chars).contains ((bs s).getD j 0) = false)) (fun _ _ W => s.size - W.iterPos g)
    case atStart => exact ⟨0, Nat.zero_le _, Hit, HB2, fun j hj => by omega⟩
    case round =>
      clear Hit HB2
      obtain ⟨k, hk, hK, hO, hN⟩ := hrel
      have hpos : wr.iterPos g = k := by unfold World.iterPos; rw [hK.out]
      by_cases hlt : k < s.size
      · obtain ⟨c, hc, hcb, hc8⟩ := xByteAt s k hlt
        by_cases hasc : c < 128
        · have hnx := fun ty => Lib.run_next_ascii_at (P := Tryd.prog) wr g s k ty hK.out hlt (by omega)
          rw [hc] at hnx
          have hK2 := Lib.hid (Lib.iterAt_heap wr g s k (k + 1) hK.out)
          have hO2 := Lib.hid (Lib.below_iterAt hO.out Hlo.out s (k + 1))
          have hge := firstAt_ge (bs chars) c
          have hC := Lib.hid (HL.out c hasc (wr.iterAt g s (k + 1)))
          obtain ⟨v, hv⟩ : ∃ v, v = optI (firstAt (bs chars) c) := ⟨_, rfl⟩
          rw [← hv] at hge hC
          clear hv HL HH
          cases hin : (bs chars).contains c with
          | true =>
            rw [hin] at hge
            have hT : Hid (t = true) := by show _ = _; rw [← Ht.out]; exact yes_any (j := k) (by rw [bs_length]; exact hlt) (by rw [hcb]; exact hin)
            clear hin hcb
            go_wp2_with fail
            refine hC.out.mono ?_
            rintro e Y ⟨rfl, rfl⟩
            clear hC
            go_wp2_with fail
            exact bodyPost_ret (v := .int .i64 (k : Int)) (by simp [results, Tryd.results19, go_sem]) rfl ⟨_, rfl, by rw [hT.out]; exact decide_eq_true (by omega), hO2.out⟩
          | false =>
            rw [hin] at hge
            have hN2 : Hid (∀ j, j < k + 1 → (bs chars).contains ((bs s).getD j 0) = false) := fun j hj => by
              by_cases h : j < k
              · exact hN.out j h
              · obtain rfl : j = k := by omega
                rw [hcb]; exact hin
            clear hin hcb
            go_wp2_with fail
            refine hC.out.mono ?_
            rintro e Y ⟨rfl, rfl⟩
            clear hC
            go_wp2_with fail
            go_roundw
            case rel => exact ⟨k + 1, hlt, hK2, hO2, hN2⟩
            case measure =>
              have hpos2 : (wr.iterAt g s (k + 1)).iterPos g = k + 1 := by unfold World.iterPos; rw [hK2.out]
              rw [hpos2, hpos]
              omega
        · have hnx := fun ty => Lib.run_next_any_at (P := Tryd.prog) wr g s k ty hK.out hlt
          obtain ⟨q1, q2, q3, q4, q5⟩ := decode_skip s k hlt (by rw [hcb]; omega)
          obtain ⟨R, hR⟩ : ∃ R, R = (Utf8.decode s k).1 := ⟨_, rfl⟩
          obtain ⟨st, hst⟩ : ∃ R, R = (Utf8.decode s k).2 := ⟨_, rfl⟩
          rw [← hR, ← hst] at hnx
          rw [← hR] at q1 q2
          rw [← hst] at q3 q4 q5
          have hK2 := Lib.hid (Lib.iterAt_heap wr g s k (k + st) hK.out)
          have hO2 := Lib.hid (Lib.below_iterAt hO.out Hlo.out s (k + st))
          have hgs : Hid (X.heap.size < (wr.iterAt g s (k + st)).heap.size) := Nat.lt_of_le_of_lt Hlo.out (Array.getElem?_eq_some_iff.1 hK2.out).1
          have hgl : Hid (g < (wr.iterAt g s (k + st)).heap.size) := (Array.getElem?_eq_some_iff.1 hK2.out).1
          have hC := Lib.hid (HH.out R (wr.iterAt g s (k + st)) q2 q1)
          have hN2 : Hid (∀ j, j < k + st → (bs chars).contains ((bs s).getD j 0) = false) := fun j hj => by
            by_cases h : j < k
            · exact hN.out j h
            · have := q5 (j - k) (by omega)
              rw [show k + (j - k) = j by omega] at this
              exact high_no Ha.out this
          have Hq := Lib.hid (And.intro q3 q4)
          clear hR hst q1 q2 q3 q4 q5 HL HH hcb
          go_wp2_with fail
          refine hC.out.mono ?_
          rintro e Y ⟨rfl, hb⟩
          have hO3 := Lib.hid (keepBelow hb hO2.out)
          have hK3 : Hid (Y.heap[g]? = some (.stringIter s (k + st))) := by show _ = _; rw [hb.block g hgl.out]; exact hK2.out
          clear hC hb
          go_wp2_with fail
          go_roundw
          case rel => exact ⟨k + st, Hq.out.2, hK3, hO3, hN2⟩
          case measure =>
            have hpos2 : Y.iterPos g = k + st := by unfold World.iterPos; rw [hK3.out]
            rw [hpos2, hpos]
            have := Hq.out
            omega
      · obtain rfl : k = s.size := by omega
        have hnx := fun ty => Lib.run_next_end_at (P := Tryd.prog) wr g s s.size ty hK.out (Nat.lt_irrefl _)
        have hT : Hid (t = false) := by show _ = _; rw [← Ht.out]; exact not_any (fun j hj => hN.out j (by rw [bs_length] at hj; exact hj))
        go_wp2_with fail
        exact bodyPost_ret (v := .int .i64 (-1)) (by simp [results, Tryd.results19, go_sem]) rfl ⟨_, rfl, by rw [hT.out]; rfl, hO.out⟩
theorem containsAny_any (s chars : ByteArray) (w : World) (ha : ∀ x ∈ bs chars, x < 128) (hs : s.size ≤ 1000000) (h2 : 2 ≤ chars.size) (hcs : chars.size ≤ 1000) :
    Calls Tryd.prog 15 #[.string s, .string chars] w fun e w' => e = .returned (.bool (anyIn (bs s) (bs chars))) ∧ Below w.heap.size w w' := by
  obtain ⟨t, ht⟩ : ∃ t, anyIn (bs s) (bs chars) = t := ⟨_, rfl⟩
  have HA := Lib.hid (indexAny_any s chars w ha hs h2 hcs t ht)
  rw [ht]
  clear ht ha
  go_enter Tryd.func15, Tryd.ntmps15
  go_wp2_with fail
  refine HA.out.mono ?_
  rintro e X ⟨v, rfl, hv, hb⟩
  have HB := Lib.hid hb
  clear hb HA
  go_wp2_with fail
  exact bodyPost_ret (v := .bool t) (by simp [results, Tryd.results15, go_sem]) rfl ⟨rfl, HB.out⟩
end Go.Proofs.YtceegpkgifflcaaDoor
