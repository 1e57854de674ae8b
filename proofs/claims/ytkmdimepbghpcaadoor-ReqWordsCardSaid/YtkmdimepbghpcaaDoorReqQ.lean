/- Layer 33: the program's Quality. -/
import Derived.Test.YtkmdimepbghpcaaDoorReqLib
namespace Go.Proofs.YtkmdimepbghpcaaDoor
open Go.RowKit Go.Shelf Go.Lib
set_option linter.unusedVariables false
set_option maxRecDepth 100000

theorem str_eq (m : List Nat) (hm : ∀ x ∈ m, x < 256) (c : List UInt8) : ((strOf m).toList == c) = decide (m = c.map UInt8.toNat) := by
  rw [Lib.toList_data]
  show (m.map UInt8.ofNat == c) = _
  by_cases h : m = c.map UInt8.toNat
  · rw [decide_eq_true h, h, List.map_map]
    have : c.map (UInt8.ofNat ∘ UInt8.toNat) = c := by
      conv => rhs; rw [← List.map_id c]
      exact List.map_congr_left fun x _ => by simp
    rw [this]
    exact beq_self_eq_true c
  · rw [decide_eq_false h]
    refine beq_eq_false_iff_ne.mpr fun e => h ?_
    rw [← e, List.map_map]
    conv => lhs; rw [← List.map_id m]
    exact List.map_congr_left fun x hx => by simp [Nat.mod_eq_of_lt (hm x hx)]
theorem cutL_lt {l : List Nat} {c : Nat} (h : ∀ x ∈ l, x < 256) : (∀ x ∈ (cutL l c).1, x < 256) ∧ (∀ x ∈ (cutL l c).2.1, x < 256) := by
  induction l with
  | nil => exact ⟨fun x hx => (by cases hx), fun x hx => (by cases hx)⟩
  | cons b l ih =>
    unfold cutL
    have ih := ih (fun x hx => h x (List.mem_cons_of_mem _ hx))
    by_cases hb : b = c
    · rw [if_pos hb]; exact ⟨fun x hx => (by cases hx), fun x hx => h x (List.mem_cons_of_mem _ hx)⟩
    · rw [if_neg hb]
      refine ⟨fun x hx => ?_, ih.2⟩
      rcases List.mem_cons.1 hx with rfl | hx
      · exact h x (List.mem_cons_self ..)
      · exact ih.1 x hx
theorem cutL_len (l : List Nat) (c : Nat) : (cutL l c).1.length + (cutL l c).2.1.length ≤ l.length := by
  induction l with
  | nil => exact Nat.le_refl _
  | cons b l ih =>
    unfold cutL
    by_cases hb : b = c
    · rw [if_pos hb]; simp
    · rw [if_neg hb]; simp; omega
theorem dig_head (c : Nat) (l : List Nat) (n : Nat) : dig (c :: l) n = if c < 48 ∨ 57 < c then (0, false) else dig l (10 * n + (c - 48)) := by
  conv => lhs; unfold dig
theorem add_run (a b : ByteArray) (ha : a.size ≤ 10000000) (hb : b.size ≤ 10000000) (w : World) : (Op.stringOp .add a b).run Tryd.prog w = .ok (.string (a ++ b)) w := run_string_add_sum (P := Tryd.prog) (w := w) a b (by omega)
set_option maxHeartbeats 16000000 in
theorem quality_any (s : ByteArray) (w : World) (hs : s.size ≤ 1000) (hM : MaxOk w) :
    Calls Tryd.prog 5 #[.string s] w fun e w' => e = .returned (.tuple #[.int .i64 (codeQ (bs s)).1, .bool (codeQ (bs s)).2]) ∧ Below w.heap.size w w' := by
  obtain ⟨Q, hQ⟩ : ∃ Q, Q = codeQ (bs s) := ⟨_, rfl⟩
  rw [← hQ]
  have HC := Lib.hid (cut_any s 46 w (by omega) hM)
  have hlt := cutL_lt (l := bs s) (c := 46) (bs_lt s)
  have hlen := cutL_len (bs s) 46
  rw [bs_length] at hlen
  obtain ⟨b, hb⟩ : ∃ b, b = (cutL (bs s) 46).1 := ⟨_, rfl⟩
  obtain ⟨a, ha⟩ : ∃ a, a = (cutL (bs s) 46).2.1 := ⟨_, rfl⟩
  obtain ⟨fd, hfd⟩ : ∃ a, a = (cutL (bs s) 46).2.2 := ⟨_, rfl⟩
  have HC : Hid (Calls Tryd.prog 10 #[.string s, .string ⟨#[46]⟩] w fun e w' => e = .returned (.tuple #[.string (strOf b), .string (strOf a), .bool fd]) ∧ Below w.heap.size w w') := by rw [hb, ha, hfd]; exact HC.out
  unfold codeQ at hQ
  rw [← hb, ← ha] at hQ hlen hlt
  clear hb ha hfd
  have h0 := str_eq b hlt.1 [48]
  have h1 := str_eq b hlt.1 [49]
  have hfq : firstQ b a = ((decide (b = [48]) || decide (b = [49])) && decide (a.length ≤ 3)) := by unfold firstQ; rw [Bool.decide_and, Bool.decide_or]
  rw [hfq] at hQ
  obtain ⟨B, hB⟩ : ∃ B, B = strOf b := ⟨_, rfl⟩
  obtain ⟨A, hA⟩ : ∃ A, A = strOf a := ⟨_, rfl⟩
  have hAs : A.size = a.length := by rw [hA, strOf_size]
  have hBs : B.size = b.length := by rw [hB, strOf_size]
  have h0 : (B.toList == [48]) = decide (b = [48]) := by rw [hB]; exact h0
  have h1 : (B.toList == [49]) = decide (b = [49]) := by rw [hB]; exact h1
  obtain ⟨c0, hc0⟩ : ∃ c, c = decide (b = [48]) := ⟨_, rfl⟩
  obtain ⟨c1, hc1⟩ : ∃ c, c = decide (b = [49]) := ⟨_, rfl⟩
  obtain ⟨c3, hc3⟩ : ∃ c, c = decide (a.length ≤ 3) := ⟨_, rfl⟩
  have d3 : decide (3 < (A.size : Int)) = !c3 := by
    rw [hc3, hAs, ← decide_not, decide_eq_decide]; omega
  rw [← hc0] at h0 hQ
  rw [← hc1] at h1 hQ
  rw [← hc3] at hQ
  rw [← hB, ← hA] at HC
  have HQ := Lib.hid hQ
  have H3 := Lib.hid hc3
  have HB := Lib.hid hB
  have HA := Lib.hid hA
  have Hlt := Lib.hid hlt
  have HAs := Lib.hid hAs
  have HBs := Lib.hid hBs
  have Hlen := Lib.hid hlen
  have Hc0 := Lib.hid hc0
  have Hc1 := Lib.hid hc1
  clear hQ hc3 hB hA hlt hAs hBs hlen hc0 hc1 hM hfq
  have hgo : c3 = true → (c0 = true ∨ c1 = true) → Hid (Q = dig (b ++ a ++ List.replicate (3 - a.length) 48) 0) := fun e1 e2 => by
    show _ = _
    rw [HQ.out, e1]
    rcases e2 with e2 | e2 <;> rw [e2] <;> simp
  have Hgo := Lib.hid hgo
  clear hgo
  have hbad : (c3 = false ∨ (c0 = false ∧ c1 = false)) → Hid (Q = (0, false)) := fun e => by
    show _ = _
    rw [HQ.out]
    rcases e with e | ⟨e, e'⟩
    · rw [e, Bool.and_false]; rfl
    · rw [e, e']; rfl
  have Hbad := Lib.hid hbad
  clear hbad HQ
  have hn0 : (!(B.toList == [48])) = !c0 := by rw [h0]
  have hn1 : (!(B.toList == [49])) = !c1 := by rw [h1]
  go_enter Tryd.func5, Tryd.ntmps5
  go_wp2_with fail
  refine HC.out.mono ?_
  rintro e X ⟨rfl, hb⟩
  have HX := Lib.hid hb
  clear hb HC
  have hcase : (c3 = false ∨ (c0 = false ∧ c1 = false)) ∨ (c3 = true ∧ (c0 = true ∨ c1 = true)) := by cases c3 <;> cases c0 <;> cases c1 <;> simp
  rcases hcase with hbd | ⟨hg3, hg01⟩
  · have hQ2 := Hbad.out hbd
    clear Hbad Hgo
    cases c3 <;> cases c0 <;> cases c1 <;> first
      | (exfalso; revert hbd; decide)
      | (clear hbd
         go_wp2_with fail
         exact bodyPost_ret (v := .tuple #[.int .i64 0, .bool false]) (by simp [results, Tryd.results5, go_sem]) rfl ⟨by rw [hQ2.out], HX.out⟩)
  · have hQ2 := Hgo.out hg3 hg01
    have hl3 : a.length ≤ 3 := of_decide_eq_true (H3.out.symm.trans hg3)
    have hb1 : b.length = 1 := by
      rcases hg01 with e | e
      · have := of_decide_eq_true (Hc0.out.symm.trans e); rw [this]; rfl
      · have := of_decide_eq_true (Hc1.out.symm.trans e); rw [this]; rfl
    obtain ⟨z, hz⟩ : ∃ z, z = 3 - a.length := ⟨_, rfl⟩
    obtain ⟨T, hT⟩ : ∃ T, T = B ++ A ++ strOf (List.replicate z 48) := ⟨_, rfl⟩
    have hbT : bs T = b ++ a ++ List.replicate z 48 := by
      rw [hT, bs_app, bs_app, HB.out, HA.out, bs_strOf b Hlt.out.1, bs_strOf a Hlt.out.2, bs_strOf _ (fun y hy => by rw [(List.mem_replicate.1 hy).2]; decide)]
    have hT4 : T.size = 4 := by rw [← bs_length, hbT, List.length_append, List.length_append, List.length_replicate]; omega
    rw [← hz, ← hbT] at hQ2
    have HRp := Lib.hid (fun W => repeat_any z W (by omega))
    have w3 : 3 - (A.size : Int) = (z : Int) := by rw [HAs.out]; omega
    have a1 := fun w => add_run B A (by rw [HBs.out]; omega) (by rw [HAs.out]; omega) w
    have a2 := fun w => add_run (B ++ A) (strOf (List.replicate z 48)) (by rw [ByteArray.size_append, HBs.out, HAs.out]; omega) (by rw [strOf_size, List.length_replicate]; omega) w
    have hT' : Hid (B ++ A ++ strOf (List.replicate z 48) = T) := hT.symm
    have HT4 := Lib.hid hT4
    have HbT := Lib.hid hbT
    clear hT hT4 hbT hz hl3 hb1 HB HA H3 Hc0 Hc1 Hbad Hgo
    have hsplit : (c0 = true ∧ c1 = true) ∨ (c0 = true ∧ c1 = false) ∨ (c0 = false ∧ c1 = true) := by cases c0 <;> cases c1 <;> simp_all
    subst hg3
    clear hg01
    rcases hsplit with ⟨rfl, rfl⟩ | ⟨rfl, rfl⟩ | ⟨rfl, rfl⟩
    all_goals
      go_wp2_with fail
      refine (HRp.out _).mono ?_
      rintro e Y ⟨rfl, hb⟩
      have HY := Lib.hid (keepBelow hb HX.out)
      clear hb HX
      go_upto_region 6 with (fail)
      rw [hT'.out]
      obtain ⟨g, hg⟩ : ∃ g, g = Y.heap.size := ⟨_, rfl⟩
      have hlo : w.heap.size ≤ g := by rw [hg]; exact HY.out.size
      have Hit : Hid ((Y.iter T 0).heap[g]? = some (.stringIter T 0)) := by show _ = _; rw [hg]; exact World.iter_heap Y T 0
      have HB2 : Hid (Below w.heap.size w (Y.iter T 0)) := HY.out.alloc HY.out.size _
      try rw [← hg]
      clear HRp HY a1 a2 w3 hg
      go_loopw [7, 9] (fun x7 x9 W => ∃ k n : Nat, k ≤ 4 ∧ n < 10 ^ k ∧ x7 = .int .i64 (n : Int) ∧ Hid (Q = dig ((bs T).drop k) n) ∧ Hid (W.heap[g]? = some (.stringIter T k)) ∧ Hid (Below w.heap.size w W)) (fun x7 x9 W => 4 - W.iterPos g)
      case atStart => exact ⟨0, 0, by omega, by decide, rfl, hQ2, Hit, HB2⟩
      case round =>
        clear Hit HB2 hQ2
        obtain ⟨k, n, hk, hn, rfl, hF, hK, hO⟩ := hrel
        have hpos : wr.iterPos g = k := by unfold World.iterPos; rw [hK.out]
        have hn4 : n < 10000 := Nat.lt_of_lt_of_le hn (Nat.le_trans (Nat.pow_le_pow_right (by decide) hk) (by decide))
        by_cases h4 : k < 4
        · have hlt : k < T.size := by rw [HT4.out]; exact h4
          obtain ⟨c, hc⟩ : ∃ c, (T[k]'hlt).toNat = c := ⟨_, rfl⟩
          have hF' := hF.out
          rw [drop_head (by rw [bs_length]; exact hlt), dig_head, ← bs_get T k hlt, hc] at hF'
          by_cases hasc : c < 128
          · have hnx := fun ty => Lib.run_next_ascii_at (P := Tryd.prog) wr g T k ty hK.out hlt (by omega)
            rw [hc] at hnx
            have hK2 := Lib.hid (Lib.iterAt_heap wr g T k (k + 1) hK.out)
            have hO2 := Lib.hid (Lib.below_iterAt hO.out hlo T (k + 1))
            by_cases hd1 : c < 48
            · have e1 : decide ((c : Int) < 48) = true := decide_eq_true (by omega)
              rw [if_pos (.inl hd1)] at hF'
              have hF3 := Lib.hid hF'
              clear hF' hF hn
              go_wp2_with fail
              exact bodyPost_ret (v := .tuple #[.int .i64 0, .bool false]) (by simp [results, Tryd.results5, go_sem]) rfl ⟨by rw [hF3.out], hO2.out⟩
            · have e1 : decide ((c : Int) < 48) = false := decide_eq_false (by omega)
              by_cases hd2 : 57 < c
              · have e2 : decide (57 < (c : Int)) = true := decide_eq_true (by omega)
                rw [if_pos (.inr hd2)] at hF'
                have hF3 := Lib.hid hF'
                clear hF' hF hn
                go_wp2_with fail
                exact bodyPost_ret (v := .tuple #[.int .i64 0, .bool false]) (by simp [results, Tryd.results5, go_sem]) rfl ⟨by rw [hF3.out], hO2.out⟩
              · have e2 : decide (57 < (c : Int)) = false := decide_eq_false (by omega)
                rw [if_neg (by omega)] at hF'
                have hF3 := Lib.hid hF'
                have hn2 : Hid (10 * n + (c - 48) < 10 ^ (k + 1)) := by show _ < _; rw [Nat.pow_succ]; omega
                clear hF' hF hn
                go_wp2_with fail
                go_roundw
                case rel => exact ⟨k + 1, 10 * n + (c - 48), by omega, hn2.out, congrArg (Value.int .i64) (by omega), hF3, hK2, hO2⟩
                case measure =>
                  have hpos2 : (wr.iterAt g T (k + 1)).iterPos g = k + 1 := by unfold World.iterPos; rw [hK2.out]
                  rw [hpos2, hpos]
                  omega
          · have hnx := fun ty => Lib.run_next_any_at (P := Tryd.prog) wr g T k ty hK.out hlt
            have hhi := (decode_high T k hlt (by omega)).1
            obtain ⟨R, hR⟩ : ∃ R, R = (Utf8.decode T k).1 := ⟨_, rfl⟩
            obtain ⟨st, hst⟩ : ∃ R, R = (Utf8.decode T k).2 := ⟨_, rfl⟩
            rw [← hR, ← hst] at hnx
            rw [← hR] at hhi
            have e1 : decide ((R : Int) < 48) = false := decide_eq_false (by omega)
            have e2 : decide (57 < (R : Int)) = true := decide_eq_true (by omega)
            have hO2 := Lib.hid (Lib.below_iterAt hO.out hlo T (k + st))
            rw [if_pos (.inr (by omega))] at hF'
            have hF3 := Lib.hid hF'
            clear hF' hF hn hR hst
            go_wp2_with fail
            exact bodyPost_ret (v := .tuple #[.int .i64 0, .bool false]) (by simp [results, Tryd.results5, go_sem]) rfl ⟨by rw [hF3.out], hO2.out⟩
        · obtain rfl : k = 4 := by omega
          have hnx := fun ty => Lib.run_next_end_at (P := Tryd.prog) wr g T 4 ty hK.out (by rw [HT4.out]; decide)
          have hF' := hF.out
          rw [List.drop_eq_nil_of_le (by rw [bs_length, HT4.out]; exact Nat.le_refl _)] at hF'
          unfold dig at hF'
          by_cases hbig : 1000 < n
          · have e1 : decide (1000 < (n : Int)) = true := decide_eq_true (by omega)
            rw [if_pos hbig] at hF'
            have hF3 := Lib.hid hF'
            clear hF' hF hn
            go_wp2_with fail
            exact bodyPost_ret (v := .tuple #[.int .i64 0, .bool false]) (by simp [results, Tryd.results5, go_sem]) rfl ⟨by rw [hF3.out], hO.out⟩
          · have e1 : decide (1000 < (n : Int)) = false := decide_eq_false (by omega)
            rw [if_neg hbig] at hF'
            have hF3 := Lib.hid hF'
            clear hF' hF hn
            go_wp2_with fail
            exact bodyPost_ret (v := .tuple #[.int .i64 (n : Int), .bool true]) (by simp [results, Tryd.results5, go_sem]) rfl ⟨by rw [hF3.out], hO.out⟩
end Go.Proofs.YtkmdimepbghpcaaDoor
