/- The statement InflateBehind: the law's walk. -/
import Derived.Test.YtfbfflgffibjbaaInflateShortW
namespace Go.Proofs.Ytfbfflgffibjbaa
open Go.RowKit Huff Bit
set_option linter.unusedVariables false
set_option maxRecDepth 100000

set_option maxHeartbeats 8000000 in
theorem inflateBehind_walk (l : List Nat) (a0 : Option Addr) (c0 : Nat) (lm : List Nat) (am : Option Addr) (cm : Nat) (w : World)
    (hld : ∀ x ∈ l, x < 256) (hlc : l.length ≤ c0) (hcm : c0 ≤ maxLen) (hN : Nums .u8 w w.heap.size a0 l) (hz : a0 = none → c0 = 0)
    (hmd : ∀ x ∈ lm, x < 256) (hmc : lm.length ≤ cm) (hmm : cm ≤ maxLen) (hNm : Nums .u8 w w.heap.size am lm) (hzm : am = none → cm = 0) :
    Calls Try.prog 3 #[.slice a0 l.length c0, .slice am lm.length cm] w fun e w' => e = .returned (.bool true) ∧ Below w.heap.size w w' := by
  have HL := Lib.hid live04_any
  have Hcode := Lib.hid code04_any
  obtain ⟨L, hL⟩ : ∃ L, l.length = L := ⟨_, rfl⟩
  obtain ⟨K, hK⟩ : ∃ K, lm.length = K := ⟨_, rfl⟩
  by_cases h200 : 200 < L
  · rw [hL, hK]
    have d1 : decide ((200 : Int) < (L : Int)) = true := decide_eq_true (by omega)
    have d2 : decide (200 < L) = true := decide_eq_true h200
    clear hld hlc hcm hN hz hmd hmc hmm hNm hzm hL hK h200
    go_enter Try.func3, Try.ntmps3
    go_wp2_with fail
    refine (HL.out _).mono ?_
    rintro e Y ⟨rfl, hB⟩
    have HB := Lib.hid hB
    clear hB
    go_wp2_with fail
    go_ret
    exact ⟨rfl, HB.out⟩
  · have d1 : decide ((200 : Int) < (L : Int)) = false := decide_eq_false (by omega)
    have d2 : decide (200 < L) = false := decide_eq_false h200
    by_cases hm200 : 200 < K
    · rw [hL, hK]
      have d3 : decide ((200 : Int) < (K : Int)) = true := decide_eq_true (by omega)
      have d4 : decide (200 < K) = true := decide_eq_true hm200
      clear hld hlc hcm hN hz hmd hmc hmm hNm hzm hL hK h200 hm200
      go_enter Try.func3, Try.ntmps3
      go_wp2_with fail
      refine (HL.out _).mono ?_
      rintro e Y ⟨rfl, hB⟩
      have HB := Lib.hid hB
      clear hB
      go_wp2_with fail
      go_ret
      exact ⟨rfl, HB.out⟩
    · have d3 : decide ((200 : Int) < (K : Int)) = false := decide_eq_false (by omega)
      have d4 : decide (200 < K) = false := decide_eq_false hm200
      have Hd := infl_any a0 c0 l 2000 w hN (fun e => ⟨hz e, List.eq_nil_of_length_eq_zero (by have := hz e; omega)⟩) (by omega) hld
      rw [dataZ_2000] at Hd
      rw [hL] at Hd ⊢
      rcases infl_cases l 2000 with ⟨E, hE, hR⟩ | ⟨o, u, hR, hu1, hu2, hback⟩
      · rw [hR] at Hd
        have Hd := Lib.hid Hd
        rw [hK]
        have e1 : ((E : Int) != 0) = true := by simp; omega
        clear hld hlc hcm hN hz hmd hmc hmm hNm hzm hL hK h200 hm200 hR hE
        go_enter Try.func3, Try.ntmps3
        go_wp2_with fail
        refine Hd.out.mono ?_
        rintro e W1 ⟨a2, c2, rfl, _, _, _, _, hB⟩
        have HB1 := Lib.hid hB
        clear hB
        go_wp2_with fail
        refine (Hcode.out _ _).mono ?_
        rintro e Y ⟨rfl, rfl⟩
        go_wp2_with fail
        refine (HL.out _).mono ?_
        rintro e Y ⟨rfl, hB⟩
        have HB := Lib.hid (keepBelow hB HB1.out)
        clear hB
        go_wp2_with fail
        go_ret
        exact ⟨rfl, HB.out⟩
      · rw [hR] at Hd
        have Hd := Lib.hid Hd
        obtain ⟨i0, hi0, hz0, hz1, hz2⟩ := info_parts u8info
        have hnl : (l.take u).length = u := by rw [List.length_take]; omega
        have hjoin : inflM (l.take u ++ lm) 2000 = (o, u, 0) := (hback (l.take u ++ lm) (fun i h1 h2 => by
          have h3 : i < (l.take u).length := by omega
          rw [List.getD_eq_getElem?_getD, List.getElem?_append_left h3, List.getElem?_take, if_pos h1, List.getD_eq_getElem?_getD])).1 (by rw [List.length_append]; omega)
        have ho256 : ∀ x ∈ o, x < 256 := by have := infl_256 l 2000; rw [hR] at this; exact this
        have e1 : decide ((u : Int) < 0) = false := decide_eq_false (by omega)
        have e2 : decide ((L : Int) < (u : Int)) = false := decide_eq_false (by omega)
        have e4 : decide (L < u) = false := decide_eq_false (by omega)
        have k0 : (0 : Int) ≤ (u : Int) := by omega
        have k1 : (u : Int) ≤ (c0 : Int) := by omega
        have k2 : (u : Int) ≤ (L : Int) := by omega
        have HN1 := Lib.hid (hN.take u)
        have HNm := Lib.hid hNm
        have Hld : Hid (∀ x ∈ l.take u ++ lm, x < 256) := fun x hx => by
          rcases List.mem_append.1 hx with hx | hx
          · exact hld x (List.mem_of_mem_take hx)
          · exact hmd x hx
        have Hlen : Hid ((l.take u ++ lm).length = u + K ∧ u ≤ 200 ∧ K ≤ 200) := by show _ ∧ _; rw [List.length_append, hnl, hK]; omega
        have Hj := Lib.hid hjoin
        have Hnl := Lib.hid hnl
        have HK := Lib.hid hK
        have Ho := Lib.hid ho256
        rw [hK]
        clear hld hlc hcm hN hz hmd hmc hmm hNm hzm hL hK h200 hm200 hR hback hjoin hnl ho256
        go_enter Try.func3, Try.ntmps3
        go_wp2_with fail
        refine Hd.out.mono ?_
        rintro e W1 ⟨a2, c2, rfl, hN2, _, _, _, hB⟩
        have HB1 := Lib.hid hB
        have HN2 := Lib.hid hN2
        clear hB hN2
        go_wp2_with fail
        refine (Hcode.out _ _).mono ?_
        rintro e Y ⟨rfl, rfl⟩
        go_upto_region 8 with (fail)
        have hown0 : Own8 (W1.alloc (.cells #[] 5)) W1.heap.size (.slice (some ⟨W1.heap.size, 0, none⟩) 0 0) [] := ⟨rfl, .inr ⟨W1.heap.size, 0, #[], rfl, Nat.le_refl _, heap_alloc_new _ _, Nat.le_refl _, Nat.zero_le _, rfl, rfl⟩⟩
        have hBa : Below W1.heap.size W1 (W1.alloc (.cells #[] 5)) := (Below.refl _ _).alloc (Nat.le_refl _) _
        have hv1 : Vals (W1.alloc (.cells #[] 5)) w.heap.size 1 a0 u (u8s (l.take u)) := by
          have := Vals.of_nums ((HN1.out.below HB1.out).below (hBa.mono HB1.out.size))
          rw [Hnl.out] at this; exact this
        have Hone : Hid (∀ v ∈ u8s (l.take u), v.oneCell' = true) := u8s_one _
        have Hone2 : Hid (∀ v ∈ u8s lm, v.oneCell' = true) := u8s_one _
        have Ha1 : Hid (0 + u ≤ maxLen) := by unfold Hid maxLen; have := Hlen.out; omega
        have Ha2 : Hid ((0 + u) * 1 ≤ 140737488355328) := by unfold Hid; have := Hlen.out; omega
        have Hb1 : Hid (0 + u + K ≤ maxLen) := by unfold Hid maxLen; have := Hlen.out; omega
        have Hb2 : Hid ((0 + u + K) * 1 ≤ 140737488355328) := by unfold Hid; have := Hlen.out; omega
        go_wp2_with (first
          | (at_builtin; refine app_vals rfl (.tmp 48) (.tmp 51) 22 rfl W1.heap.size 5 i0 _ 1 1 Try.underlying22 hi0 hz0 hz1 hz2 rfl (by omega) _ 0 [] rfl hown0 w.heap.size _ _ _ _ rfl hv1 Hone.out Ha1.out Ha2.out (by simp) ?_))
        intro v' w' hown1 hg1 hat1
        have hown1' : w'.ownsRow W1.heap.size 5 1 v' (0 + u) (u8s (l.take u)) := by simpa using hown1
        have hB2 : Below W1.heap.size W1 w' := hBa.trans ((Only.of_grown (S := fun k => k = W1.heap.size) hg1 (fun b e => by simp [Value.ownBlock] at e; exact e.symm)).below (fun b hb e => by omega) (by simp))
        have hB3 : Below w.heap.size w w' := HB1.out.trans (hB2.mono HB1.out.size)
        have hv2 : Vals w' w.heap.size 1 am K (u8s lm) := by
          have := Vals.of_nums (HNm.out.below hB3)
          rw [HK.out] at this; exact this
        have Hbs : Hid (W1.heap.size ≤ w'.heap.size) := hB2.size
        clear hown0 hBa hv1 Ha1 Ha2 Hone hat1 hown1 hg1
        go_wp2_with (first
          | (at_builtin; refine app_vals rfl (.tmp 52) (.tmp 53) 22 rfl W1.heap.size 5 i0 _ 1 1 Try.underlying22 hi0 hz0 hz1 hz2 rfl (by omega) _ (0 + u) _ rfl hown1' w.heap.size _ _ _ _ rfl hv2 Hone2.out Hb1.out Hb2.out Hbs.out ?_))
        intro v2 w2 hown2 hg2 hat2
        have hO2 : Own8 w2 W1.heap.size v2 (l.take u ++ lm) := by
          unfold Own8
          rw [u8s_append, Hlen.out.1]
          simpa using hown2
        have hB4 : Below W1.heap.size W1 w2 := hB2.trans ((Only.of_grown (S := fun k => v'.ownBlock = some k) hg2 (fun b e => e)).below (fun b hb e => by have := (World.ownsRow.lt hown1' b e).1; omega) Hbs.out)
        obtain ⟨a3, c3, rfl, _, _, hz3, hN3⟩ := hO2.nums
        have Hd2 := infl_any a3 c3 (l.take u ++ lm) 2000 w2 hN3 hz3 (by have := Hlen.out; omega) Hld.out
        rw [dataZ_2000, Hj.out] at Hd2
        obtain ⟨T, hT⟩ : ∃ T, (l.take u ++ lm).length = T := ⟨_, rfl⟩
        rw [hT] at Hd2 ⊢
        have Hd3 := Lib.hid Hd2
        have HB4 := Lib.hid (HB1.out.trans (hB4.mono HB1.out.size))
        have HN4 := Lib.hid ((HN2.out.below hB4).more hB4.size)
        clear Hd2 hT hN3 hz3 hO2 hB4 hown2 hg2 hat2 hown1' hB2 hB3 hv2
        go_wp2_with fail
        refine Hd3.out.mono ?_
        rintro e W5 ⟨a5, c5, rfl, hN5, _, _, _, hB5⟩
        have hs1 := str_of_nums (P := Try.prog) W5 W5.heap.size 22 9 5 a2 c2 o Try.underlying22 Try.underlying5 Try.underlying9 ((HN4.out.below hB5).more hB5.size) Ho.out
        have hs2 := str_of_nums (P := Try.prog) W5 W5.heap.size 22 9 5 a5 c5 o Try.underlying22 Try.underlying5 Try.underlying9 hN5 Ho.out
        have HB5 := Lib.hid (keepBelow hB5 HB4.out)
        obtain ⟨OL, hOL⟩ : ∃ OL, o.length = OL := ⟨_, rfl⟩
        obtain ⟨S, hS⟩ : ∃ S, strOf o = S := ⟨_, rfl⟩
        rw [hOL, hS] at hs1 hs2
        simp only [hOL]
        clear hN5 hB5 hOL hS
        go_wp2_with fail
        refine (Hcode.out _ _).mono ?_
        rintro e Y ⟨rfl, rfl⟩
        go_wp2_with fail
        refine (HL.out _).mono ?_
        rintro e Y ⟨rfl, hB⟩
        have HB := Lib.hid (keepBelow hB HB5.out)
        clear hB
        go_wp2_with fail
        go_ret
        exact ⟨rfl, HB.out⟩
end Go.Proofs.Ytfbfflgffibjbaa
