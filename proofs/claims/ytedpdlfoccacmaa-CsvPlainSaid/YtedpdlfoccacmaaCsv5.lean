/- Layer 18: the reference's end, over, field. -/
import Derived.Test.YtedpdlfoccacmaaCsv4
namespace Go.Proofs.Ytedpdlfoccacmaa
open Go.RowKit
set_option linter.unusedVariables false
set_option maxRecDepth 100000

/-- The byte at a place, in the walk's words. -/
theorem byteAt (s : ByteArray) (k : Nat) (h : k < s.size) : ∃ c, (s[k]'h).toNat = c ∧ (bs s).getD k 0 = c ∧ c < 256 :=
  ⟨_, rfl, (bs_get s k h).symm, (s[k]'h).toNat_lt⟩
theorem refEnd_any (s : ByteArray) (k : Nat) (w : World) (hk : k ≤ s.size) (hs : s.size ≤ 1000000) :
    Calls Try.prog 18 #[.string s, .int .i64 (k : Int)] w fun e w' => e = .returned (.int .i64 ((endA (bs s) k : Nat) : Int)) ∧ w = w' := by
  have hl := bs_length s
  obtain ⟨E, hE⟩ : ∃ E, endA (bs s) k = E := ⟨_, rfl⟩
  rw [hE]
  unfold endA at hE
  have b0 : (0 : Int) ≤ (k : Int) := by omega
  have b1 : (0 : Int) ≤ (k : Int) + 1 := by omega
  have b2 : (k : Int) + 1 ≤ 1000001 := by omega
  by_cases h1 : k < s.size
  · obtain ⟨c, hc, hcb, hc8⟩ := byteAt s k h1
    have d1 : decide ((k : Int) < (s.size : Int)) = true := decide_eq_true (by omega)
    have d2 : (k : Int) < (s.size : Int) := by omega
    rw [hcb] at hE
    clear hcb
    by_cases h2 : c = 10
    · subst h2
      rw [if_pos rfl] at hE
      subst hE
      clear hl
      go_enter Try.func18, Try.ntmps18
      go_wp2_with fail
      go_ret
      exact ⟨rfl, rfl⟩
    · have d3 : ((c : Int) == 10) = false := beq_eq_false_iff_ne.mpr (by omega)
      rw [if_neg h2] at hE
      clear h2
      by_cases h3 : k + 1 < s.size
      · obtain ⟨d, hd, hdb, hd8⟩ := byteAt s (k + 1) h3
        have d4 : decide ((k : Int) + 1 < (s.size : Int)) = true := decide_eq_true (by omega)
        have d5 : (k : Int) + 1 < (s.size : Int) := by omega
        have d6 : ((k : Int) + 1).toNat = k + 1 := by omega
        rw [hdb] at hE
        clear hdb
        by_cases h4 : c = 13
        · subst h4
          by_cases h5 : d = 10
          · subst h5
            rw [if_pos ⟨rfl, rfl⟩] at hE
            subst hE
            clear hl
            go_enter Try.func18, Try.ntmps18
            go_wp2_with fail
            go_ret
            exact ⟨rfl, rfl⟩
          · rw [if_neg (fun h => h5 h.2)] at hE
            subst hE
            have d7 : ((d : Int) == 10) = false := beq_eq_false_iff_ne.mpr (by omega)
            clear hl h5
            go_enter Try.func18, Try.ntmps18
            go_wp2_with fail
            go_ret
            exact ⟨rfl, rfl⟩
        · rw [if_neg (fun h => h4 h.1)] at hE
          subst hE
          have d7 : ((c : Int) == 13) = false := beq_eq_false_iff_ne.mpr (by omega)
          clear hl h4
          go_enter Try.func18, Try.ntmps18
          go_wp2_with fail
          go_ret
          exact ⟨rfl, rfl⟩
      · rw [if_neg (fun h => by have := lt_of_getD (l := bs s) (k := k + 1) (by rw [h.2]; omega); omega)] at hE
        subst hE
        have d4 : decide ((k : Int) + 1 < (s.size : Int)) = false := decide_eq_false (by omega)
        clear hl
        go_enter Try.func18, Try.ntmps18
        go_wp2_with fail
        go_ret
        exact ⟨rfl, rfl⟩
  · have e1 : (bs s).getD k 0 = 0 := getD_out (by omega)
    rw [e1, if_neg (by omega), if_neg (by omega)] at hE
    subst hE
    have d1 : decide ((k : Int) < (s.size : Int)) = false := decide_eq_false (by omega)
    have d4 : decide ((k : Int) + 1 < (s.size : Int)) = false := decide_eq_false (by omega)
    clear hl e1
    go_enter Try.func18, Try.ntmps18
    go_wp2_with fail
    go_ret
    exact ⟨rfl, rfl⟩
theorem refOver_any (s : ByteArray) (k : Nat) (t : Bool) (w : World) (hk : k ≤ s.size) (hs : s.size ≤ 1000000) (ht : decide (overA (bs s) k) = t) :
    Calls Try.prog 24 #[.string s, .int .i64 (k : Int)] w fun e w' => e = .returned (.bool t) ∧ w = w' := by
  have hl := bs_length s
  have HE := Lib.hid fun W => refEnd_any s k W hk hs
  obtain ⟨E, hE⟩ : ∃ E, endA (bs s) k = E := ⟨_, rfl⟩
  rw [hE] at HE
  have hov : overA (bs s) k ↔ (s.size ≤ k ∨ (bs s).getD k 0 = 44 ∨ 0 < E) := by unfold overA; rw [hE, hl]
  have b0 : (0 : Int) ≤ (k : Int) := by omega
  by_cases h1 : k < s.size
  · obtain ⟨c, hc, hcb, hc8⟩ := byteAt s k h1
    rw [hcb] at hov
    have d1 : decide ((s.size : Int) ≤ (k : Int)) = false := decide_eq_false (by omega)
    have d11 : decide (s.size ≤ k) = false := decide_eq_false (by omega)
    have d2 : (k : Int) < (s.size : Int) := by omega
    by_cases h2 : c = 44
    · subst h2
      rw [decide_eq_true (hov.2 (.inr (.inl rfl)))] at ht
      subst ht
      clear hl hcb hE hov
      go_enter Try.func24, Try.ntmps24
      go_wp2_with fail
      go_ret
      exact ⟨rfl, rfl⟩
    · have d3 : ((c : Int) == 44) = false := beq_eq_false_iff_ne.mpr (by omega)
      by_cases h3 : 0 < E
      · rw [decide_eq_true (hov.2 (.inr (.inr h3)))] at ht
        subst ht
        have d4 : decide ((0 : Int) < (E : Int)) = true := decide_eq_true (by omega)
        clear hl hcb hE hov h2
        go_enter Try.func24, Try.ntmps24
        go_wp2_with fail
        refine (HE.out _).mono ?_
        rintro e W ⟨rfl, rfl⟩
        go_wp2_with fail
        go_ret
        exact ⟨rfl, rfl⟩
      · rw [decide_eq_false (fun h => by have := hov.1 h; omega)] at ht
        subst ht
        have d4 : decide ((0 : Int) < (E : Int)) = false := decide_eq_false (by omega)
        have d5 : decide (0 < E) = false := decide_eq_false (by omega)
        clear hl hcb hE hov h2
        go_enter Try.func24, Try.ntmps24
        go_wp2_with fail
        refine (HE.out _).mono ?_
        rintro e W ⟨rfl, rfl⟩
        go_wp2_with fail
        go_ret
        exact ⟨rfl, rfl⟩
  · rw [decide_eq_true (hov.2 (.inl (by omega)))] at ht
    subst ht
    have d1 : decide ((s.size : Int) ≤ (k : Int)) = true := decide_eq_true (by omega)
    have d11 : decide (s.size ≤ k) = true := decide_eq_true (by omega)
    clear hl hE hov
    go_enter Try.func24, Try.ntmps24
    go_wp2_with fail
    go_ret
    exact ⟨rfl, rfl⟩

def RFldPost (w : World) (F : List Nat × Nat × Int) (e : Ending) (w' : World) : Prop := e = .returned (.tuple #[.string (strOf F.1), .int .i64 (F.2.1 : Int), .int .i64 F.2.2]) ∧ Below w.heap.size w w'
structure RAt8 (w : World) (X : World) (v : Value) (k : Nat) (m : List Nat) : Prop where
  own : Own8 X w.heap.size v m
  below : Below w.heap.size w X
  len : m.length ≤ k
  byt : ∀ x ∈ m, x < 256
theorem RAt8.one {w X Y : World} {v v' : Value} {k k' c : Nat} {m : List Nat} (h : RAt8 w X v k m) (hk : k < k') (hc : c < 256) (h2 : Y.ownsRow w.heap.size 5 1 v' (m.length + 1) (u8s m ++ [.int .u8 (c : Int)])) (h3 : X.grownBy Y v.ownBlock) : RAt8 w Y v' k' (m ++ [c]) :=
  ⟨by unfold Own8; rw [List.length_append, u8s_append]; exact h2, h.below.grown h3 h.below.size (fun k hk => (h.own.lt k hk).1), by have := h.len; simp; omega, by
    intro x hx
    rcases List.mem_append.1 hx with h1 | h1
    · exact h.byt x h1
    · rw [List.mem_singleton.1 h1]; exact hc⟩
set_option maxHeartbeats 8000000 in
theorem refField_quo (s : ByteArray) (i : Nat) (w : World) (hi : i < s.size) (hs : s.size ≤ 1000000) (hq : (bs s).getD i 0 = 34) :
    Calls Try.prog 17 #[.string s, .int .i64 (i : Int)] w (RFldPost w (quoE (bs s) ((bs s).length + 1) (i + 1) [])) := by
  obtain ⟨R, hR⟩ : ∃ R, R = quoE (bs s) ((bs s).length + 1) (i + 1) [] := ⟨_, rfl⟩
  rw [← hR]
  obtain ⟨i0, hi0, hz0, hz1, hz2⟩ := info_parts u8info
  have hlen := bs_length s
  have Hlen := Lib.hid hlen
  have HR := Lib.hid hR
  have HO := Lib.hid fun k t W hk ht => refOver_any s k t W hk hs ht
  obtain ⟨c, hc, hcb, hc8⟩ := byteAt s i hi
  obtain rfl : 34 = c := by rw [← hcb, hq]
  have d1 : decide ((i : Int) < (s.size : Int)) = true := decide_eq_true (by omega)
  have d2 : (i : Int) < (s.size : Int) := by omega
  have b0 : (0 : Int) ≤ (i : Int) := by omega
  clear hR hlen hq hcb
  go_enter Try.func17, Try.ntmps17
  go_wp2_with fail
  go_loopw [1, 7] (fun d v X => ∃ (k : Nat) (m : List Nat) (f : Nat), d = .int .i64 (k : Int) ∧ Hid (RAt8 w X v k m) ∧ k ≤ s.size ∧ Hid (quoE (bs s) f k m = R ∧ (bs s).length - k < f)) (fun d _ _ => s.size + 1 - (intOf d).toNat)
  case atStart => exact ⟨i + 1, [], _, by go_num, ⟨Own8.nil_ _ _, Below.refl _ _, by simp, by simp⟩, hi, HR.out.symm, by omega⟩
  case round =>
    clear d1 d2 b0 hc
    obtain ⟨k, m, f, rfl, hA, hks, hF⟩ := hrel
    have b0 : (0 : Int) ≤ (k : Int) := by omega
    have b1 : (0 : Int) ≤ (k : Int) + 1 := by omega
    have b2 : (k : Int) + 1 ≤ 1000001 := by omega
    obtain ⟨f, rfl⟩ : ∃ f', f = f' + 1 := ⟨f - 1, by have := hF.out.2; omega⟩
    have Hfu := Lib.hid hF.out.2
    have hF1 := hF.out.1
    have Hl1 : Hid (m.length + 1 ≤ maxLen) := by have := hA.out.len; unfold Hid maxLen; omega
    have Hl2 : Hid ((m.length + 1) * 1 ≤ 140737488355328) := by have := hA.out.len; unfold Hid; omega
    clear hF
    by_cases hlt : k < s.size
    · obtain ⟨c, hc, hcb, hc8⟩ := byteAt s k hlt
      have hkl : k < (bs s).length := by have := Hlen.out; omega
      have d1 : decide ((k : Int) < (s.size : Int)) = true := decide_eq_true (by omega)
      have d2 : (k : Int) < (s.size : Int) := by omega
      by_cases h1 : c = 34
      · subst h1
        by_cases h2 : k + 1 < s.size
        · obtain ⟨d, hd, hdb, hd8⟩ := byteAt s (k + 1) h2
          have d4 : decide ((k : Int) + 1 < (s.size : Int)) = true := decide_eq_true (by omega)
          have d5 : (k : Int) + 1 < (s.size : Int) := by omega
          have d6 : ((k : Int) + 1).toNat = k + 1 := by omega
          by_cases h3 : d = 34
          · subst h3
            have HN : Hid (quoE (bs s) f (k + 2) (m ++ [34]) = R) := by show _ = _; rw [← hF1, quoE_two hkl hcb hdb]
            clear hF1 hcb hdb hkl
            go_wp2_with (at_builtin; refine app_one rfl (.tmp 48) (.tmp 49) 52 rfl w.heap.size 5 i0 _ 1 Try.underlying52 hi0 hz0 hz1 hz2 rfl u7 m.length (u8s m) rfl (by exact hA.out.own) (.int .u8 (34 : Int)) 1 rfl rfl Hl1.out Hl2.out hA.out.below.size ?_)
            intro v5 w5 h2 h3 h5
            have HS5 : Hid (RAt8 w w5 v5 (k + 2) (m ++ [34])) := hA.out.one (by omega) (by omega) h2 h3
            clear h2 h3 h5
            go_wp2_with fail
            go_roundw
            case rel => exact ⟨k + 2, m ++ [34], f, by go_num, HS5.out, by omega, HN.out, by have := Hfu.out; have := Hlen.out; omega⟩
            case measure => simp [intOf]; omega
          · have d7 : ((d : Int) == 34) = false := beq_eq_false_iff_ne.mpr (by omega)
            have h3' : (bs s).getD (k + 1) 0 ≠ 34 := by rw [hdb]; exact h3
            clear hdb h3
            by_cases h4 : overA (bs s) (k + 1)
            · have hR : R = (m, k + 1, 0) := by rw [← hF1, quoE_over hkl hcb h3' h4]
              subst hR
              have HOk := Lib.hid fun W => HO.out (k + 1) true W (by omega) (decide_eq_true h4)
              clear hF1 hcb hkl h3' h4
              have hst : ∀ n, (convert 52 9 u7).run Try.prog (wr.drewN n) = .ok (.string (strOf m)) (wr.drewN n) := fun n => Own8.str (w := wr.drewN n) hA.out.own hA.out.byt
              have hst0 : (convert 52 9 u7).run Try.prog wr = .ok (.string (strOf m)) wr := hA.out.own.str hA.out.byt
              go_wp2_with fail
              refine (HOk.out _).mono ?_
              rintro e W ⟨rfl, rfl⟩
              go_wp2_with fail
              go_ret3
              exact ⟨rfl, hA.out.below⟩
            · have hR : R = ([], k + 1, 3) := by rw [← hF1, quoE_bad hkl hcb h3' h4]
              subst hR
              have HOk := Lib.hid fun W => HO.out (k + 1) false W (by omega) (decide_eq_false h4)
              clear hF1 hcb hkl h3' h4
              go_wp2_with fail
              refine (HOk.out _).mono ?_
              rintro e W ⟨rfl, rfl⟩
              go_wp2_with fail
              go_ret3
              exact ⟨rfl, hA.out.below⟩
        · have d4 : decide ((k : Int) + 1 < (s.size : Int)) = false := decide_eq_false (by omega)
          have h3' : (bs s).getD (k + 1) 0 ≠ 34 := by rw [getD_out (by have := Hlen.out; omega)]; omega
          by_cases h4 : overA (bs s) (k + 1)
          · have hR : R = (m, k + 1, 0) := by rw [← hF1, quoE_over hkl hcb h3' h4]
            subst hR
            have HOk := Lib.hid fun W => HO.out (k + 1) true W (by omega) (decide_eq_true h4)
            clear hF1 hcb hkl h3' h4
            have hst : ∀ n, (convert 52 9 u7).run Try.prog (wr.drewN n) = .ok (.string (strOf m)) (wr.drewN n) := fun n => Own8.str (w := wr.drewN n) hA.out.own hA.out.byt
            have hst0 : (convert 52 9 u7).run Try.prog wr = .ok (.string (strOf m)) wr := hA.out.own.str hA.out.byt
            go_wp2_with fail
            refine (HOk.out _).mono ?_
            rintro e W ⟨rfl, rfl⟩
            go_wp2_with fail
            go_ret3
            exact ⟨rfl, hA.out.below⟩
          · have hR : R = ([], k + 1, 3) := by rw [← hF1, quoE_bad hkl hcb h3' h4]
            subst hR
            have HOk := Lib.hid fun W => HO.out (k + 1) false W (by omega) (decide_eq_false h4)
            clear hF1 hcb hkl h3' h4
            go_wp2_with fail
            refine (HOk.out _).mono ?_
            rintro e W ⟨rfl, rfl⟩
            go_wp2_with fail
            go_ret3
            exact ⟨rfl, hA.out.below⟩
      · have d3 : ((c : Int) != 34) = true := bne_iff_ne.mpr (by omega)
        have HN : Hid (quoE (bs s) f (k + 1) (m ++ [c]) = R) := by show _ = _; rw [← hF1, quoE_more hkl (by rw [hcb]; exact h1), hcb]
        clear hF1 hcb hkl h1
        go_wp2_with (at_builtin; refine app_one rfl (.tmp 28) (.tmp 32) 52 rfl w.heap.size 5 i0 _ 1 Try.underlying52 hi0 hz0 hz1 hz2 rfl u7 m.length (u8s m) rfl (by exact hA.out.own) (.int .u8 (c : Int)) 1 rfl rfl Hl1.out Hl2.out hA.out.below.size ?_)
        intro v5 w5 h2 h3 h5
        have HS5 : Hid (RAt8 w w5 v5 (k + 1) (m ++ [c])) := hA.out.one (by omega) (by omega) h2 h3
        clear h2 h3 h5
        go_wp2_with fail
        go_roundw
        case rel => exact ⟨k + 1, m ++ [c], f, by go_num, HS5.out, by omega, HN.out, by have := Hfu.out; have := Hlen.out; omega⟩
        case measure => simp [intOf]; omega
    · obtain rfl : k = s.size := by omega
      have d1 : decide ((s.size : Int) < (s.size : Int)) = false := decide_eq_false (by omega)
      have hR : R = ([], s.size, 2) := by rw [← hF1, quoE_end (by have := Hlen.out; omega), Hlen.out]
      subst hR
      clear hF1
      go_wp2_with fail
      go_ret3
      exact ⟨rfl, hA.out.below⟩
set_option maxHeartbeats 8000000 in
theorem refField_bare (s : ByteArray) (i : Nat) (w : World) (hi : i ≤ s.size) (hs : s.size ≤ 1000000) (hq : (bs s).getD i 0 ≠ 34) :
    Calls Try.prog 17 #[.string s, .int .i64 (i : Int)] w (RFldPost w (bareE (bs s) ((bs s).length + 1) i [])) := by
  obtain ⟨R, hR⟩ : ∃ R, R = bareE (bs s) ((bs s).length + 1) i [] := ⟨_, rfl⟩
  rw [← hR]
  obtain ⟨i0, hi0, hz0, hz1, hz2⟩ := info_parts u8info
  have hlen := bs_length s
  have Hlen := Lib.hid hlen
  have HR := Lib.hid hR
  have HO := Lib.hid fun k t W hk ht => refOver_any s k t W hk hs ht
  have b0 : (0 : Int) ≤ (i : Int) := by omega
  obtain ⟨t0, ht0⟩ : ∃ t0 : Bool, t0 = decide ((i : Int) < (s.size : Int)) := ⟨_, rfl⟩
  by_cases hlt0 : i < s.size
  · obtain ⟨c, hc, hcb, hc8⟩ := byteAt s i hlt0
    have d3 : ((c : Int) == 34) = false := beq_eq_false_iff_ne.mpr (by have : c ≠ 34 := by rw [← hcb]; exact hq
                                                                       omega)
    have d1 : decide ((i : Int) < (s.size : Int)) = true := decide_eq_true (by omega)
    have d2 : (i : Int) < (s.size : Int) := by omega
    clear hR hlen hq hcb ht0
    go_enter Try.func17, Try.ntmps17
    go_wp2_with fail
    go_loopw [1, 7] (fun d v X => ∃ (k : Nat) (m : List Nat) (f : Nat), d = .int .i64 (k : Int) ∧ Hid (RAt8 w X v k m) ∧ k ≤ s.size ∧ Hid (bareE (bs s) f k m = R ∧ (bs s).length - k < f)) (fun d _ _ => s.size + 1 - (intOf d).toNat)
    case atStart => exact ⟨i, [], _, rfl, ⟨Own8.nil_ _ _, Below.refl _ _, by simp, by simp⟩, hi, HR.out.symm, by omega⟩
    case round =>
      clear d1 d2 d3 hc b0
      obtain ⟨k, m, f, rfl, hA, hks, hF⟩ := hrel
      have b0 : (0 : Int) ≤ (k : Int) := by omega
      have b1 : (0 : Int) ≤ (k : Int) + 1 := by omega
      have b2 : (k : Int) + 1 ≤ 1000001 := by omega
      obtain ⟨f, rfl⟩ : ∃ f', f = f' + 1 := ⟨f - 1, by have := hF.out.2; omega⟩
      have Hfu := Lib.hid hF.out.2
      have hF1 := hF.out.1
      have Hl1 : Hid (m.length + 1 ≤ maxLen) := by have := hA.out.len; unfold Hid maxLen; omega
      have Hl2 : Hid ((m.length + 1) * 1 ≤ 140737488355328) := by have := hA.out.len; unfold Hid; omega
      clear hF
      by_cases h4 : overA (bs s) k
      · have hR : R = (m, k, 0) := by rw [← hF1, bareE_over h4]
        subst hR
        have HOk := Lib.hid fun W => HO.out k true W hks (decide_eq_true h4)
        clear hF1 h4
        have hst : ∀ n, (convert 52 9 u7).run Try.prog (wr.drewN n) = .ok (.string (strOf m)) (wr.drewN n) := fun n => Own8.str (w := wr.drewN n) hA.out.own hA.out.byt
        have hst0 : (convert 52 9 u7).run Try.prog wr = .ok (.string (strOf m)) wr := hA.out.own.str hA.out.byt
        go_wp2_with fail
        refine (HOk.out _).mono ?_
        rintro e W ⟨rfl, rfl⟩
        go_wp2_with fail
        go_ret3
        exact ⟨rfl, hA.out.below⟩
      · have HOk := Lib.hid fun W => HO.out k false W hks (decide_eq_false h4)
        have hlt : k < s.size := by unfold overA at h4; have := Hlen.out; omega
        obtain ⟨c, hc, hcb, hc8⟩ := byteAt s k hlt
        have d2 : (k : Int) < (s.size : Int) := by omega
        by_cases h5 : c = 34 ∨ c = 13
        · have hR : R = ([], k, 3) := by rw [← hF1, bareE_bad h4 (by rw [hcb]; exact h5)]
          subst hR
          clear hF1 h4 hcb
          rcases h5 with rfl | rfl
          · go_wp2_with fail
            refine (HOk.out _).mono ?_
            rintro e W ⟨rfl, rfl⟩
            go_wp2_with fail
            go_ret3
            exact ⟨rfl, hA.out.below⟩
          · go_wp2_with fail
            refine (HOk.out _).mono ?_
            rintro e W ⟨rfl, rfl⟩
            go_wp2_with fail
            go_ret3
            exact ⟨rfl, hA.out.below⟩
        · have HN : Hid (bareE (bs s) f (k + 1) (m ++ [c]) = R) := by show _ = _; rw [← hF1, bareE_more h4 (by rw [hcb]; exact h5), hcb]
          have e1 : ((c : Int) == 34) = false := beq_eq_false_iff_ne.mpr (by omega)
          have e2 : ((c : Int) == 13) = false := beq_eq_false_iff_ne.mpr (by omega)
          clear hF1 h4 hcb h5
          go_wp2_with fail
          refine (HOk.out _).mono ?_
          rintro e W ⟨rfl, rfl⟩
          go_wp2_with (at_builtin; refine app_one rfl (.tmp 79) (.tmp 83) 52 rfl w.heap.size 5 i0 _ 1 Try.underlying52 hi0 hz0 hz1 hz2 rfl u7 m.length (u8s m) rfl (by exact hA.out.own) (.int .u8 (c : Int)) 1 rfl rfl Hl1.out Hl2.out hA.out.below.size ?_)
          intro v5 w5 h2 h3 h5
          have HS5 : Hid (RAt8 w w5 v5 (k + 1) (m ++ [c])) := hA.out.one (by omega) (by omega) h2 h3
          clear h2 h3 h5
          go_wp2_with fail
          go_roundw
          case rel => exact ⟨k + 1, m ++ [c], f, by go_num, HS5.out, by omega, HN.out, by have := Hfu.out; have := Hlen.out; omega⟩
          case measure => simp [intOf]; omega
  · have d1 : decide ((i : Int) < (s.size : Int)) = false := decide_eq_false (by omega)
    clear hR hlen hq ht0
    go_enter Try.func17, Try.ntmps17
    go_wp2_with fail
    go_loopw [1, 7] (fun d v X => ∃ (k : Nat) (m : List Nat) (f : Nat), d = .int .i64 (k : Int) ∧ Hid (RAt8 w X v k m) ∧ k ≤ s.size ∧ Hid (bareE (bs s) f k m = R ∧ (bs s).length - k < f)) (fun d _ _ => s.size + 1 - (intOf d).toNat)
    case atStart => exact ⟨i, [], _, rfl, ⟨Own8.nil_ _ _, Below.refl _ _, by simp, by simp⟩, hi, HR.out.symm, by omega⟩
    case round =>
      clear d1 b0
      obtain ⟨k, m, f, rfl, hA, hks, hF⟩ := hrel
      have b0 : (0 : Int) ≤ (k : Int) := by omega
      have b1 : (0 : Int) ≤ (k : Int) + 1 := by omega
      have b2 : (k : Int) + 1 ≤ 1000001 := by omega
      obtain ⟨f, rfl⟩ : ∃ f', f = f' + 1 := ⟨f - 1, by have := hF.out.2; omega⟩
      have Hfu := Lib.hid hF.out.2
      have hF1 := hF.out.1
      have Hl1 : Hid (m.length + 1 ≤ maxLen) := by have := hA.out.len; unfold Hid maxLen; omega
      have Hl2 : Hid ((m.length + 1) * 1 ≤ 140737488355328) := by have := hA.out.len; unfold Hid; omega
      clear hF
      by_cases h4 : overA (bs s) k
      · have hR : R = (m, k, 0) := by rw [← hF1, bareE_over h4]
        subst hR
        have HOk := Lib.hid fun W => HO.out k true W hks (decide_eq_true h4)
        clear hF1 h4
        have hst : ∀ n, (convert 52 9 u7).run Try.prog (wr.drewN n) = .ok (.string (strOf m)) (wr.drewN n) := fun n => Own8.str (w := wr.drewN n) hA.out.own hA.out.byt
        have hst0 : (convert 52 9 u7).run Try.prog wr = .ok (.string (strOf m)) wr := hA.out.own.str hA.out.byt
        go_wp2_with fail
        refine (HOk.out _).mono ?_
        rintro e W ⟨rfl, rfl⟩
        go_wp2_with fail
        go_ret3
        exact ⟨rfl, hA.out.below⟩
      · have HOk := Lib.hid fun W => HO.out k false W hks (decide_eq_false h4)
        have hlt : k < s.size := by unfold overA at h4; have := Hlen.out; omega
        obtain ⟨c, hc, hcb, hc8⟩ := byteAt s k hlt
        have d2 : (k : Int) < (s.size : Int) := by omega
        by_cases h5 : c = 34 ∨ c = 13
        · have hR : R = ([], k, 3) := by rw [← hF1, bareE_bad h4 (by rw [hcb]; exact h5)]
          subst hR
          clear hF1 h4 hcb
          rcases h5 with rfl | rfl
          · go_wp2_with fail
            refine (HOk.out _).mono ?_
            rintro e W ⟨rfl, rfl⟩
            go_wp2_with fail
            go_ret3
            exact ⟨rfl, hA.out.below⟩
          · go_wp2_with fail
            refine (HOk.out _).mono ?_
            rintro e W ⟨rfl, rfl⟩
            go_wp2_with fail
            go_ret3
            exact ⟨rfl, hA.out.below⟩
        · have HN : Hid (bareE (bs s) f (k + 1) (m ++ [c]) = R) := by show _ = _; rw [← hF1, bareE_more h4 (by rw [hcb]; exact h5), hcb]
          have e1 : ((c : Int) == 34) = false := beq_eq_false_iff_ne.mpr (by omega)
          have e2 : ((c : Int) == 13) = false := beq_eq_false_iff_ne.mpr (by omega)
          clear hF1 h4 hcb h5
          go_wp2_with fail
          refine (HOk.out _).mono ?_
          rintro e W ⟨rfl, rfl⟩
          go_wp2_with (at_builtin; refine app_one rfl (.tmp 79) (.tmp 83) 52 rfl w.heap.size 5 i0 _ 1 Try.underlying52 hi0 hz0 hz1 hz2 rfl u7 m.length (u8s m) rfl (by exact hA.out.own) (.int .u8 (c : Int)) 1 rfl rfl Hl1.out Hl2.out hA.out.below.size ?_)
          intro v5 w5 h2 h3 h5
          have HS5 : Hid (RAt8 w w5 v5 (k + 1) (m ++ [c])) := hA.out.one (by omega) (by omega) h2 h3
          clear h2 h3 h5
          go_wp2_with fail
          go_roundw
          case rel => exact ⟨k + 1, m ++ [c], f, by go_num, HS5.out, by omega, HN.out, by have := Hfu.out; have := Hlen.out; omega⟩
          case measure => simp [intOf]; omega
theorem refField_any (s : ByteArray) (i : Nat) (w : World) (hi : i ≤ s.size) (hs : s.size ≤ 1000000) :
    Calls Try.prog 17 #[.string s, .int .i64 (i : Int)] w (RFldPost w (fieldE (bs s) i)) := by
  unfold fieldE
  by_cases hq : (bs s).getD i 0 = 34
  · rw [if_pos hq]; exact refField_quo s i w (by rw [← bs_length]; exact lt_of_getD (by omega)) hs hq
  · rw [if_neg hq]; exact refField_bare s i w hi hs hq
end Go.Proofs.Ytedpdlfoccacmaa
