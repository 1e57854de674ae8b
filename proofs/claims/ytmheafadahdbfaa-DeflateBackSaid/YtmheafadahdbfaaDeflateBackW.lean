/- Layer 5: DeflateBack, the law's walk. -/
import Derived.Test.YtmheafadahdbfaaBackAll
import Derived.Test.YtmheafadahdbfaaSto3
namespace Go.Proofs.Ytmheafadahdbfaa
open Go.RowKit Bit Huff
set_option linter.unusedVariables false
set_option maxRecDepth 100000

theorem dataZ_4000 (bs : List Nat) : dataZ bs 4000 = inflM bs 4000 := rfl
set_option maxHeartbeats 8000000 in
theorem deflateBack_walk (l : List Nat) (a0 : Option Addr) (c0 : Nat) (st : Bool) (lm : List Nat) (am : Option Addr) (cm : Nat) (w : World)
    (hld : ∀ x ∈ l, x < 256) (hlc : l.length ≤ c0) (hcm : c0 ≤ maxLen) (hN : Nums .u8 w w.heap.size a0 l)
    (hmd : ∀ x ∈ lm, x < 256) (hmc : lm.length ≤ cm) (hmm : cm ≤ maxLen) (hNm : Nums .u8 w w.heap.size am lm) :
    Calls Try.prog 5 #[.slice a0 l.length c0, .bool st, .slice am lm.length cm] w fun e w' => e = .returned (.bool true) ∧ Below w.heap.size w w' := by
  have HL := Lib.hid live_any
  have Hcode := Lib.hid code_any
  have hb : Bytes255 l := bytes255_of fun x hx => by have := hld x hx; omega
  obtain ⟨L, hL⟩ : ∃ L, L = l.length := ⟨_, rfl⟩
  obtain ⟨K, hK⟩ : ∃ K, lm.length = K := ⟨_, rfl⟩
  have hm : maxLen ≤ 9223372036854775807 := by decide
  by_cases hbig : 3000 < L
  · have d1 : decide (3000 < (L : Int)) = true := decide_eq_true (by omega)
    have d2 : decide (3000 < L) = true := decide_eq_true hbig
    rw [← hL, hK]
    clear hN hlc hcm hld hmd hmc hmm hNm hL hK hbig hm hb
    go_enter Try.func5, Try.ntmps5
    go_wp2_with fail
    refine (HL.out _).mono ?_
    rintro e Y ⟨rfl, hB⟩
    have HB := Lib.hid hB
    clear hB
    go_wp2_with fail
    go_ret
    exact ⟨rfl, HB.out⟩
  · have d1 : decide (3000 < (L : Int)) = false := decide_eq_false (by omega)
    have d2 : decide (3000 < L) = false := decide_eq_false hbig
    by_cases hm200 : 200 < K
    · have d3 : decide ((200 : Int) < (K : Int)) = true := decide_eq_true (by omega)
      have d4 : decide (200 < K) = true := decide_eq_true hm200
      rw [← hL, hK]
      clear hN hlc hcm hld hmd hmc hmm hNm hL hK hbig hm hm200 hb
      go_enter Try.func5, Try.ntmps5
      go_wp2_with fail
      refine (HL.out _).mono ?_
      rintro e Y ⟨rfl, hB⟩
      have HB := Lib.hid hB
      clear hB
      go_wp2_with fail
      go_ret
      exact ⟨rfl, HB.out⟩
    · have d3 : decide ((200 : Int) < (K : Int)) = false := decide_eq_false (by omega)
      have d4 : decide (200 < K) = false := decide_eq_false hm200
      have hT : ∃ T : List Nat, (∀ x ∈ T, x < 256) ∧ T.length ≤ 3500 ∧ Calls Try.prog 10 #[.slice a0 l.length c0, .bool st] w (DataPost w T) ∧ inflM (T ++ lm) 4000 = (l, T.length, 0) := by
        cases st
        · exact ⟨fixedB hb, fun x hx => bytesTo_lt _ _ x hx, fixed_length hb (by omega), data_fixed a0 c0 l w hb (by omega) hN, fixed_back hb (by omega) lm⟩
        · have h1 := data_stored a0 c0 l w (by omega) hlc hcm hld hN
          obtain ⟨h2, h3⟩ := stored_back hld (show l.length ≤ 3000 by omega) lm
          exact ⟨storedE 17 l, storedE_lt 17 l (by omega) hld, by omega, h1, h2⟩
      obtain ⟨T, hT1, hT2, hT3, hT4⟩ := hT
      obtain ⟨i0, hi0, hz0, hz1, hz2⟩ := info_parts u8info
      have HD := Lib.hid hT3
      have Hj := Lib.hid hT4
      have HN0 := Lib.hid hN
      have HNm := Lib.hid hNm
      have Hld := Lib.hid hld
      have HTm : Hid (∀ x ∈ T ++ lm, x < 256) := fun x hx => by
        rcases List.mem_append.1 hx with hx | hx
        · exact hT1 x hx
        · exact hmd x hx
      have Hlen : Hid ((T ++ lm).length = T.length + K ∧ T.length ≤ 3500 ∧ K ≤ 200) := by show _ ∧ _; rw [List.length_append, hK]; omega
      have HK := Lib.hid hK
      have HLe := Lib.hid hL
      rw [← hL] at HD
      rw [← hL, hK]
      clear hN hlc hcm hld hmd hmc hmm hNm hL hK hbig hm hm200 hb hT1 hT2 hT3 hT4
      go_enter Try.func5, Try.ntmps5
      go_wp2_with fail
      refine HD.out.mono ?_
      rintro e W1 ⟨a2, c2, rfl, hN2, hB⟩
      have HB1 := Lib.hid hB
      have HN2 := Lib.hid hN2
      have HTL : Hid (∃ TL, T.length = TL) := ⟨_, rfl⟩
      obtain ⟨TL, hTL⟩ := HTL.out
      have HTl := Lib.hid hTL
      have HlenT := Hlen.out
      rw [hTL] at HlenT
      have Hlen2 := Lib.hid HlenT
      rw [hTL]
      clear hB hN2 hTL HlenT
      go_upto_region 4 with (fail)
      have hown0 : Own8 (W1.alloc (.cells #[] 5)) W1.heap.size (.slice (some ⟨W1.heap.size, 0, none⟩) 0 0) [] := ⟨rfl, .inr ⟨W1.heap.size, 0, #[], rfl, Nat.le_refl _, heap_alloc_new _ _, Nat.le_refl _, Nat.zero_le _, rfl, rfl⟩⟩
      have hBa : Below W1.heap.size W1 (W1.alloc (.cells #[] 5)) := (Below.refl _ _).alloc (Nat.le_refl _) _
      have hv1 : Vals (W1.alloc (.cells #[] 5)) W1.heap.size 1 a2 TL (u8s T) := by
        have := Vals.of_nums (HN2.out.below hBa)
        rw [HTl.out] at this; exact this
      have Hone : Hid (∀ v ∈ u8s T, v.oneCell' = true) := u8s_one _
      have Hone2 : Hid (∀ v ∈ u8s lm, v.oneCell' = true) := u8s_one _
      have Ha1 : Hid (0 + TL ≤ maxLen) := by unfold Hid maxLen; have := Hlen2.out; omega
      have Ha2 : Hid ((0 + TL) * 1 ≤ 140737488355328) := by unfold Hid; have := Hlen2.out; omega
      have Hb1 : Hid (0 + TL + K ≤ maxLen) := by unfold Hid maxLen; have := Hlen2.out; omega
      have Hb2 : Hid ((0 + TL + K) * 1 ≤ 140737488355328) := by unfold Hid; have := Hlen2.out; omega
      go_wp2_with (first
        | (at_builtin; refine app_vals rfl (.tmp 28) (.tmp 29) 22 rfl W1.heap.size 5 i0 _ 1 1 Try.underlying22 hi0 hz0 hz1 hz2 rfl (by omega) _ 0 [] rfl hown0 W1.heap.size _ _ _ _ rfl hv1 Hone.out Ha1.out Ha2.out (by simp) ?_))
      intro v' w' hown1 hg1 hat1
      have hown1' : w'.ownsRow W1.heap.size 5 1 v' (0 + TL) (u8s T) := by simpa using hown1
      have hB2 : Below W1.heap.size W1 w' := hBa.trans ((Only.of_grown (S := fun k => k = W1.heap.size) hg1 (fun b e => by simp [Value.ownBlock] at e; exact e.symm)).below (fun b hb e => by omega) (by simp))
      have hB3 : Below w.heap.size w w' := HB1.out.trans (hB2.mono HB1.out.size)
      have hv2 : Vals w' w.heap.size 1 am K (u8s lm) := by
        have := Vals.of_nums (HNm.out.below hB3)
        rw [HK.out] at this; exact this
      have Hbs : Hid (W1.heap.size ≤ w'.heap.size) := hB2.size
      clear hown0 hBa hv1 Ha1 Ha2 Hone hat1 hown1 hg1
      go_wp2_with (first
        | (at_builtin; refine app_vals rfl (.tmp 30) (.tmp 31) 22 rfl W1.heap.size 5 i0 _ 1 1 Try.underlying22 hi0 hz0 hz1 hz2 rfl (by omega) _ (0 + TL) _ rfl hown1' w.heap.size _ _ _ _ rfl hv2 Hone2.out Hb1.out Hb2.out Hbs.out ?_))
      intro v2 w2 hown2 hg2 hat2
      have hO2 : Own8 w2 W1.heap.size v2 (T ++ lm) := by
        unfold Own8
        rw [u8s_append, Hlen.out.1, HTl.out]
        simpa using hown2
      have hB4 : Below W1.heap.size W1 w2 := hB2.trans ((Only.of_grown (S := fun k => v'.ownBlock = some k) hg2 (fun b e => e)).below (fun b hb e => by have := (World.ownsRow.lt hown1' b e).1; omega) Hbs.out)
      obtain ⟨a3, c3, rfl, _, _, hz3, hN3⟩ := hO2.nums
      have Hd2 := infl_any a3 c3 (T ++ lm) 4000 w2 hN3 hz3 (by have := Hlen.out; omega) HTm.out
      rw [dataZ_4000, Hj.out, HTl.out] at Hd2
      obtain ⟨X, hX⟩ : ∃ X, (T ++ lm).length = X := ⟨_, rfl⟩
      rw [hX] at Hd2 ⊢
      have Hd3 := Lib.hid Hd2
      have HB4 := Lib.hid (HB1.out.trans (hB4.mono HB1.out.size))
      clear Hd2 hX hN3 hz3 hO2 hB4 hown2 hg2 hat2 hown1' hB2 hB3 hv2
      go_wp2_with fail
      refine Hd3.out.mono ?_
      rintro e W5 ⟨a5, c5, rfl, hN5, _, _, _, hB5⟩
      have HB5 := Lib.hid (keepBelow hB5 HB4.out)
      have hs1 := str_of_nums (P := Try.prog) W5 W5.heap.size 22 9 5 a5 c5 l Try.underlying22 Try.underlying5 Try.underlying9 hN5 Hld.out
      have hs2 := str_of_nums (P := Try.prog) W5 W5.heap.size 22 9 5 a0 c0 l Try.underlying22 Try.underlying5 Try.underlying9 ((HN0.out.below HB5.out).more HB5.out.size) Hld.out
      obtain ⟨S, hS⟩ : ∃ S, strOf l = S := ⟨_, rfl⟩
      rw [hS, ← HLe.out] at hs1 hs2
      simp only [← HLe.out]
      clear hN5 hB5 hS
      go_wp2_with fail
      refine (Hcode.out _ _).mono ?_
      rintro e Y ⟨rfl, rfl⟩
      go_wp2_with fail
      refine (Hcode.out _ _).mono ?_
      rintro e Y ⟨rfl, rfl⟩
      go_wp2_with fail
      refine (HL.out _).mono ?_
      rintro e Y ⟨rfl, hB⟩
      have HB := Lib.hid (keepBelow hB HB5.out)
      clear hB
      go_wp2_with fail
      go_ret
      exact ⟨rfl, HB.out⟩
end Go.Proofs.Ytmheafadahdbfaa
