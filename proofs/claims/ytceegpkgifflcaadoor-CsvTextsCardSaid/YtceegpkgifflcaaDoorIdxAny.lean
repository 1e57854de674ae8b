/- strings.ContainsAny of any bytes, where the characters are ASCII. -/
import Derived.Test.YtceegpkgifflcaaDoorBs
import Derived.Test.YtceegpkgifflcaaDoorU8
import Derived.Test.YtceegpkgifflcaaDoorHeld
import Derived.Ground.NamesProg
import Derived.Shelf.Lay
import Derived.Shelf.Strings.IndexAnyAll
import Derived.Laws.Runes
import Derived.Laws.RangeAny
import Derived.Lib.OthersKept
import Derived.WalkKit
import Derived.IntWalk
import Derived.WalkMore
import Derived.ScopeJumps
import Derived.BigQuiet
import Derived.Deep.DeepCutAuto
namespace Go.Proofs.YtceegpkgifflcaaDoor
open Go.RowKit Go.Shelf Go.Lib
set_option linter.unusedVariables false
set_option maxRecDepth 100000

theorem xLibIndexByte (s : ByteArray) (c : Nat) (hc : c < 256) (w : World) : Calls Tryd.prog 46 #[.string s, .int .u8 (c : Int)] w fun e w' => e = .returned (.int .i64 (optI (firstAt (bs s) c))) ∧ w = w' := by
  have HI := Lib.hid (show Lib.indexByte s.data.toList (UInt8.ofNat c) = optI (firstAt (bs s) c) by
    rw [indexByte_first]
    congr 2
    simp
    omega)
  go_enter Tryd.func46, Tryd.ntmps46
  go_wp2
  rw [run_callFunc_extern Tryd.func51 (by kernel_rfl) (by kernel_rfl) (by kernel_rfl) (e := Extern.BytealgIndexByte.indexByte) (by kernel_rfl), Lib.run_indexByteString]
  simp only [Result.andThen]
  rw [Oper.upon_value]
  go_wp2
  go_ret
  exact ⟨by rw [HI.out]; rfl, rfl⟩
theorem xIndexByte (s : ByteArray) (c : Nat) (hc : c < 256) (w : World) : Calls Tryd.prog 35 #[.string s, .int .u8 (c : Int)] w fun e w' => e = .returned (.int .i64 (optI (firstAt (bs s) c))) ∧ w = w' := by
  have HA := Lib.hid fun W => xLibIndexByte s c hc W
  go_enter Tryd.func35, Tryd.ntmps35
  go_wp2_with fail
  refine (HA.out _).mono ?_
  rintro e X ⟨rfl, rfl⟩
  go_wp2_with fail
  go_ret
  exact ⟨rfl, rfl⟩
theorem firstAt_miss {l : List Nat} {c : Nat} (h : ∀ x ∈ l, x < 128) (hc : 128 ≤ c) : firstAt l c = none := by
  induction l with
  | nil => rfl
  | cons b l ih =>
    have hb := h b (List.mem_cons_self ..)
    rw [firstAt_cons, if_neg (by omega), ih fun x hx => h x (List.mem_cons_of_mem _ hx)]
    rfl
theorem xByteAt (s : ByteArray) (k : Nat) (h : k < s.size) : ∃ c, (s[k]'h).toNat = c ∧ (bs s).getD k 0 = c ∧ c < 256 :=
  ⟨_, rfl, (bs_get s k h).symm, (s[k]'h).toNat_lt⟩
theorem getD_mem_lt {l : List Nat} {b : Nat} (h : ∀ x ∈ l, x < b) {k : Nat} (hk : k < l.length) : l.getD k 0 < b := by
  rw [List.getD_eq_getElem?_getD, List.getElem?_eq_getElem hk]
  exact h _ (List.getElem_mem hk)
theorem validRune_any (r : Nat) (w : World) (hr2 : r ≤ 1114111) : Calls Tryd.prog 37 #[.int .i32 (r : Int)] w fun e w' => e = .returned (.bool (decide (r < 55296 ∨ 57343 < r))) ∧ w = w' := by
  have d0 : decide ((0 : Int) ≤ (r : Int)) = true := decide_eq_true (by omega)
  have d3 : decide ((r : Int) ≤ 1114111) = true := decide_eq_true (by omega)
  by_cases h1 : r < 55296
  · have d1 : decide ((r : Int) < 55296) = true := decide_eq_true (by omega)
    have dR : decide (r < 55296 ∨ 57343 < r) = true := decide_eq_true (.inl h1)
    rw [dR]
    clear dR
    go_enter Tryd.func37, Tryd.ntmps37
    go_wp2_with fail
    go_ret
    exact ⟨rfl, rfl⟩
  · have d1 : decide ((r : Int) < 55296) = false := decide_eq_false (by omega)
    by_cases h2 : 57343 < r
    · have d2 : decide ((57343 : Int) < (r : Int)) = true := decide_eq_true (by omega)
      have dR : decide (r < 55296 ∨ 57343 < r) = true := decide_eq_true (.inr h2)
      rw [dR]
      clear dR
      go_enter Tryd.func37, Tryd.ntmps37
      go_wp2_with fail
      go_ret
      exact ⟨rfl, rfl⟩
    · have d2 : decide ((57343 : Int) < (r : Int)) = false := decide_eq_false (by omega)
      have dR : decide (r < 55296 ∨ 57343 < r) = false := decide_eq_false (by omega)
      rw [dR]
      clear dR
      go_enter Tryd.func37, Tryd.ntmps37
      go_wp2_with fail
      go_ret
      exact ⟨rfl, rfl⟩
/-- The last byte of a great rune's text is great. -/
theorem encode_last (r : Int) (h : 128 ≤ r) : ∃ n b : Nat, (Utf8.encode r).size = n + 1 ∧ 1 ≤ n ∧ n ≤ 3 ∧ 128 ≤ b ∧ b < 256 ∧ (bs (Utf8.encode r)).getD n 0 = b := by
  unfold Utf8.encode
  obtain ⟨c, hc⟩ : ∃ c, c = (if Utf8.valid r then r.toNat else Utf8.runeError) := ⟨_, rfl⟩
  have hc1 : 128 ≤ c := by
    rw [hc]
    split
    · omega
    · decide
  simp only [← hc]
  have hm : ∀ d : Nat, (UInt8.ofNat (0x80 + d % 64)).toNat = 0x80 + d % 64 := fun d => by show (0x80 + d % 64) % 256 = 0x80 + d % 64; omega
  rw [if_neg (by omega)]
  split
  · exact ⟨1, 0x80 + c % 64, rfl, by omega, by omega, by omega, by omega, hm c⟩
  · split
    · exact ⟨2, 0x80 + c % 64, rfl, by omega, by omega, by omega, by omega, hm c⟩
    · exact ⟨3, 0x80 + c % 64, rfl, by omega, by omega, by omega, by omega, hm c⟩
set_option maxHeartbeats 8000000 in
theorem indexRune_high (s : ByteArray) (r : Nat) (w : World) (ha : ∀ x ∈ bs s, x < 128) (hs : s.size ≤ 1000) (hr : 128 ≤ r) (hr2 : r ≤ 1114111) :
    Calls Tryd.prog 24 #[.string s, .int .i32 (r : Int)] w fun e w' => e = .returned (.int .i64 (-1)) ∧ Below w.heap.size w w' := by
  have d0 : decide ((0 : Int) ≤ (r : Int)) = true := decide_eq_true (by omega)
  have d1 : decide ((r : Int) < 128) = false := decide_eq_false (by omega)
  by_cases h1 : r = 65533
  · have e0 : ((r : Int) == 65533) = true := beq_iff_eq.mpr (by omega)
    have Ha := Lib.hid ha
    clear ha h1
    go_enter Tryd.func24, Tryd.ntmps24
    go_upto_region 38 with (fail)
    obtain ⟨g, hg⟩ : ∃ g, g = w.heap.size := ⟨_, rfl⟩
    have Hit : Hid ((w.iter s 0).heap[g]? = some (.stringIter s 0)) := by show _ = _; rw [hg]; exact World.iter_heap w s 0
    have HB2 : Hid (Below w.heap.size w (w.iter s 0)) := (Below.refl _ _).alloc (Nat.le_refl _) _
    have Hlo : Hid (w.heap.size ≤ g) := Nat.le_of_eq hg.symm
    try rw [← hg]
    clear hg
    go_loopw [5, 6] (fun _ _ W => ∃ k : Nat, k ≤ s.size ∧ Hid (W.heap[g]? = some (.stringIter s k)) ∧ Hid (Below w.heap.size w W)) (fun _ _ W => s.size - W.iterPos g)
    case atStart => exact ⟨0, Nat.zero_le _, Hit, HB2⟩
    case round =>
      clear Hit HB2
      obtain ⟨k, hk, hK, hO⟩ := hrel
      have hpos : wr.iterPos g = k := by unfold World.iterPos; rw [hK.out]
      by_cases hlt : k < s.size
      · obtain ⟨c, hc, hcb, hc8⟩ := xByteAt s k hlt
        have hasc : c < 128 := by rw [← hcb]; exact getD_mem_lt Ha.out (by rw [bs_length]; exact hlt)
        have hnx := fun ty => Lib.run_next_ascii_at (P := Tryd.prog) wr g s k ty hK.out hlt (by omega)
        rw [hc] at hnx
        have hK2 := Lib.hid (Lib.iterAt_heap wr g s k (k + 1) hK.out)
        have hO2 := Lib.hid (Lib.below_iterAt hO.out Hlo.out s (k + 1))
        have e1 : ((c : Int) == 65533) = false := beq_eq_false_iff_ne.mpr (by omega)
        clear hcb
        go_wp2_with fail
        go_roundw
        case rel => exact ⟨k + 1, hlt, hK2, hO2⟩
        case measure =>
          have hpos2 : (wr.iterAt g s (k + 1)).iterPos g = k + 1 := by unfold World.iterPos; rw [hK2.out]
          rw [hpos2, hpos]
          omega
      · obtain rfl : k = s.size := by omega
        have hnx := fun ty => Lib.run_next_end_at (P := Tryd.prog) wr g s s.size ty hK.out (Nat.lt_irrefl _)
        go_wp2_with fail
        exact bodyPost_ret (v := .int .i64 (-1)) (by simp [results, Tryd.results24, go_sem]) rfl ⟨rfl, hO.out⟩
  · have e0 : ((r : Int) == 65533) = false := beq_eq_false_iff_ne.mpr (by omega)
    have HV := Lib.hid (validRune_any r w hr2)
    by_cases h2 : r < 55296 ∨ 57343 < r
    · rw [decide_eq_true h2] at HV
      obtain ⟨n, b, hn, hn1, hn3, hb1, hb2, hbb⟩ := encode_last (r : Int) (by omega)
      have hcv := run_convert_int_string (P := Tryd.prog) w 21 9 .i32 (r : Int) (by rw [Tryd.underlying21]; rfl) Tryd.underlying9
      obtain ⟨R, hR⟩ : ∃ R, R = Utf8.encode (r : Int) := ⟨_, rfl⟩
      rw [← hR] at hn hbb hcv
      have hnR : n < R.size := by omega
      obtain ⟨b', hb', hbb', _⟩ := xByteAt R n hnR
      obtain rfl : b' = b := by omega
      have j1 : (0 : Int) ≤ (n : Int) := by omega
      have j2 : (n : Int) < (R.size : Int) := by omega
      have j3 : (R.size : Int) - 1 = (n : Int) := by omega
      clear h2 h1 hR hbb hbb' hn
      by_cases hlt : n < s.size
      · obtain ⟨c, hc, hcb, hc8⟩ := xByteAt s n hlt
        have hasc : c < 128 := by rw [← hcb]; exact getD_mem_lt ha (by rw [bs_length]; exact hlt)
        have k1 : (n : Int) < (s.size : Int) := by omega
        have dl : decide ((n : Int) < (s.size : Int)) = true := decide_eq_true (by omega)
        have ne : ((c : Int) != (b' : Int)) = true := bne_iff_ne.mpr (by omega)
        have hI := Lib.hid (fun W => xIndexByte (s.extract (n + 1) s.size) b' hb2 W)
        rw [firstAt_miss (l := bs (s.extract (n + 1) s.size)) (by rw [bs_ext]; intro x hx; exact ha x (List.mem_of_mem_drop (List.mem_of_mem_take hx))) hb1] at hI
        simp only [optI] at hI
        clear ha hcb
        go_enter Tryd.func24, Tryd.ntmps24
        go_wp2_with fail
        refine HV.out.mono ?_
        rintro e X ⟨rfl, rfl⟩
        clear HV
        go_wp2_with fail
        go_step3
        go_wp2_with fail
        go_loopw [9] (fun x9 W => x9 = .int .i64 (n : Int) ∧ w = W) (fun _ _ => 0)
        case atStart => exact ⟨rfl, rfl⟩
        case round =>
          obtain ⟨rfl, rfl⟩ := hrel
          go_wp2_with fail
          go_step3
          go_wp2_with fail
          go_quiet (fail)
          go_wp2_with fail
          go_quiet ((go_at_call 35; exact (hI.out _).mono fun _ _ h => ⟨h.1, _, h.2.symm⟩))
          go_wp2_with fail
          change bodyPost Tryd.prog Tryd.f24 (fun e w' => e = .returned (.int .i64 (-1)) ∧ Below w.heap.size w w') Exit.ret _ _
          exact bodyPost_ret (v := .int .i64 (-1)) (by simp [results, Tryd.results24, go_sem]) rfl ⟨rfl, ⟨rfl, rfl, rfl, Nat.le_refl _, fun _ _ => rfl⟩⟩
      · have dl : decide ((n : Int) < (s.size : Int)) = false := decide_eq_false (by omega)
        clear ha
        go_enter Tryd.func24, Tryd.ntmps24
        go_wp2_with fail
        refine HV.out.mono ?_
        rintro e X ⟨rfl, rfl⟩
        clear HV
        go_wp2_with fail
        go_step3
        go_wp2_with fail
        go_loopw [9] (fun x9 W => x9 = .int .i64 (n : Int) ∧ w = W) (fun _ _ => 0)
        case atStart => exact ⟨rfl, rfl⟩
        case round =>
          obtain ⟨rfl, rfl⟩ := hrel
          go_wp2_with fail
          change bodyPost Tryd.prog Tryd.f24 (fun e w' => e = .returned (.int .i64 (-1)) ∧ Below w.heap.size w w') Exit.ret _ _
          exact bodyPost_ret (v := .int .i64 (-1)) (by simp [results, Tryd.results24, go_sem]) rfl ⟨rfl, Below.refl _ _⟩
    · rw [decide_eq_false h2] at HV
      clear ha h1 h2
      go_enter Tryd.func24, Tryd.ntmps24
      go_wp2_with fail
      refine HV.out.mono ?_
      rintro e X ⟨rfl, rfl⟩
      clear HV
      go_wp2_with fail
      exact bodyPost_ret (v := .int .i64 (-1)) (by simp [results, Tryd.results24, go_sem]) rfl ⟨rfl, Below.refl _ _⟩
theorem get_bs (s : ByteArray) (i : Nat) : (s.get! i).toNat = (bs s).getD i 0 := by
  unfold bs
  rw [List.getD_eq_getElem?_getD, List.getElem?_map]
  show (s.data[i]!).toNat = _
  rw [getElem!_def, Array.getElem?_toList]
  cases s.data[i]? <;> rfl
theorem decode_skip (s : ByteArray) (k : Nat) (h : k < s.size) (ha : 128 ≤ (bs s).getD k 0) :
    (Utf8.decode s k).1 ≤ 1114111 ∧ 128 ≤ (Utf8.decode s k).1 ∧ 1 ≤ (Utf8.decode s k).2 ∧ k + (Utf8.decode s k).2 ≤ s.size ∧ ∀ j, j < (Utf8.decode s k).2 → 128 ≤ (bs s).getD (k + j) 0 := by
  have hb : ∀ j, (bs s).getD j 0 < 256 := fun j => getD_lt (bs_lt s) j
  have h0 := hb (k + 0); have h1 := hb (k + 1); have h2 := hb (k + 2); have h3 := hb (k + 3)
  simp only [Utf8.decode, get_bs]
  rw [show k + 0 = k from rfl] at h0 ⊢
  generalize e0 : (bs s).getD k 0 = b0 at *
  generalize e1 : (bs s).getD (k + 1) 0 = b1 at *
  generalize e2 : (bs s).getD (k + 2) 0 = b2 at *
  generalize e3 : (bs s).getD (k + 3) 0 = b3 at *
  rw [if_neg (by omega)]
  have one : ∀ j, j < 1 → 128 ≤ (bs s).getD (k + j) 0 := fun j hj => by
    obtain rfl : j = 0 := by omega
    rw [Nat.add_zero, e0]; exact ha
  have err : Utf8.runeError ≤ 1114111 ∧ 128 ≤ Utf8.runeError := by decide
  split
  · next q =>
    simp only [Bool.and_eq_true, decide_eq_true_eq, beq_iff_eq] at q
    obtain ⟨q0, q1, q2⟩ := q
    split
    · refine ⟨by omega, by omega, by omega, by omega, fun j hj => ?_⟩
      rcases (show j = 0 ∨ j = 1 by omega) with rfl | rfl
      · exact one 0 (by omega)
      · rw [e1]; omega
    · exact ⟨err.1, err.2, by omega, by omega, one⟩
  · split
    · next q =>
      simp only [Bool.and_eq_true, decide_eq_true_eq, beq_iff_eq] at q
      obtain ⟨⟨q0, q1, q2⟩, q3, q4⟩ := q
      split
      · next v =>
        simp only [Bool.and_eq_true, decide_eq_true_eq, Utf8.valid, Bool.or_eq_true] at v
        refine ⟨by omega, by omega, by omega, by omega, fun j hj => ?_⟩
        rcases (show j = 0 ∨ j = 1 ∨ j = 2 by omega) with rfl | rfl | rfl
        · exact one 0 (by omega)
        · rw [e1]; omega
        · rw [e2]; omega
      · exact ⟨err.1, err.2, by omega, by omega, one⟩
    · split
      · next q =>
        simp only [Bool.and_eq_true, decide_eq_true_eq, beq_iff_eq] at q
        obtain ⟨⟨⟨q0, q1, q2⟩, q3, q4⟩, q5, q6⟩ := q
        split
        · next v =>
          simp only [Bool.and_eq_true, decide_eq_true_eq, Utf8.valid, Bool.or_eq_true] at v
          refine ⟨by omega, by omega, by omega, by omega, fun j hj => ?_⟩
          rcases (show j = 0 ∨ j = 1 ∨ j = 2 ∨ j = 3 by omega) with rfl | rfl | rfl | rfl
          · exact one 0 (by omega)
          · rw [e1]; omega
          · rw [e2]; omega
          · rw [e3]; omega
        · exact ⟨err.1, err.2, by omega, by omega, one⟩
      · exact ⟨err.1, err.2, by omega, by omega, one⟩
end Go.Proofs.YtceegpkgifflcaaDoor
