/- Walks over layer 12: Same, both. -/
import Derived.Test.YtaafcmgkmdbefaaEnts
namespace Go.Proofs.Ytaafcmgkmdbefaa
open Go.RowKit
set_option linter.unusedVariables false
set_option maxRecDepth 100000

theorem take_next {α : Type} {l m : List α} {k : Nat} (hl : k < l.length) (hm : k < m.length) (h : l.take k = m.take k) (he : l[k] = m[k]) : l.take (k + 1) = m.take (k + 1) := by
  rw [List.take_succ_eq_append_getElem hl, List.take_succ_eq_append_getElem hm, h, he]
theorem take_all {α : Type} {l m : List α} (hlen : l.length = m.length) (h : l.take l.length = m.take l.length) : l = m := by
  rw [List.take_length, hlen, List.take_length] at h
  exact h
theorem eq_four (a b c d a' b' c' d' : Nat) (h : (⟨a', b', c', d'⟩ : En) ≠ ⟨a, b, c, d⟩) :
    (((a' : Int) == (a : Int)) = false) ∨ (a' = a ∧ ((b' : Int) == (b : Int)) = false) ∨ (a' = a ∧ b' = b ∧ ((c' : Int) == (c : Int)) = false) ∨ (a' = a ∧ b' = b ∧ c' = c ∧ ((d' : Int) == (d : Int)) = false) := by
  by_cases e1 : a' = a
  · by_cases e2 : b' = b
    · by_cases e3 : c' = c
      · refine .inr (.inr (.inr ⟨e1, e2, e3, beq_eq_false_iff_ne.mpr (fun e => h ?_)⟩))
        have e4 : d' = d := by omega
        rw [e1, e2, e3, e4]
      · exact .inr (.inr (.inl ⟨e1, e2, beq_eq_false_iff_ne.mpr (by omega)⟩))
    · exact .inr (.inl ⟨e1, beq_eq_false_iff_ne.mpr (by omega)⟩)
  · exact .inl (beq_eq_false_iff_ne.mpr (by omega))
set_option maxHeartbeats 4000000 in
theorem equal_any (u v : Value) (l m : List En) (w : World) (hu : RdE w w.heap.size u l) (hv : RdE w w.heap.size v m) :
    Calls Try.prog 19 #[u, v] w fun e w' => e = .returned (.bool (decide (l = m))) ∧ Below w.heap.size w w' := by
  obtain ⟨a, c, rfl, hc1, hc2, ha, _⟩ := hu
  obtain ⟨b, d, rfl, hd1, hd2, hb, _⟩ := hv
  unfold maxLen at hc2 hd2
  by_cases hne : l.length = m.length
  · obtain ⟨L, hL⟩ : ∃ L, L = l.length := ⟨_, rfl⟩
    have HA := Lib.hid ha
    have HB := Lib.hid hb
    have HL := Lib.hid hL
    have HM := Lib.hid (hL.trans hne)
    have Hne := Lib.hid hne
    rw [← hne, ← hL]
    have hLm : (L : Int) ≤ 9223372036854775807 := by omega
    clear hL ha hb hne hc1 hc2 hd1 hd2
    go_enter Try.func19, Try.ntmps19
    go_wp2_with fail
    go_loopw [13] (fun i W => ∃ k : Nat, k ≤ L ∧ i = .int .i64 (k : Int) ∧ Hid (Below w.heap.size w W) ∧ Hid (l.take k = m.take k)) (fun i _ => L - (intOf i).toNat)
    case atStart => exact ⟨0, Nat.zero_le _, rfl, Below.refl _ _, Lib.hid rfl⟩
    case round =>
      obtain ⟨k, hk, rfl, hbw, ht⟩ := hrel
      by_cases hlt : k < L
      · have hkl : k < l.length := by have := HL.out; omega
        have hkm : k < m.length := by have := HM.out; omega
        obtain ⟨b1, o1, rfl, h1, p0, p1, p2, p3⟩ := (HA.out.below hbw.out).at k hkl
        obtain ⟨b2, o2, rfl, h2, q0, q1, q2, q3⟩ := (HB.out.below hbw.out).at k hkm
        have hn := take_next hkl hkm ht.out
        have hf : l[k] ≠ m[k] → decide (l = m) = false := fun h => decide_eq_false (fun e => by subst e; exact h rfl)
        generalize l[k]'hkl = f at *
        generalize m[k]'hkm = g at *
        obtain ⟨id', off', len', run'⟩ := f
        obtain ⟨id, off, len, run⟩ := g
        simp only at p0 p1 p2 p3 q0 q1 q2 q3
        have hk0 : (0 : Int) ≤ (k : Int) := by omega
        have hk1 : (k : Int) < (L : Int) := by omega
        have Hn := Lib.hid hn
        have Hf := Lib.hid hf
        clear hn hf
        by_cases e : (⟨id', off', len', run'⟩ : En) = ⟨id, off, len, run⟩
        · injection e with e1 e2 e3 e4
          have f1 := e1.symm
          have f2 := e2.symm
          have f3 := e3.symm
          have f4 := e4.symm
          subst f1 f2 f3 f4
          have Hn2 := Lib.hid (Hn.out rfl)
          clear e1 e2 e3 e4 Hn Hf ht
          go_wp2_with fail
          go_quiet (fail)
          go_wp2_with fail
          go_roundw
          case rel => exact ⟨k + 1, hlt, by go_num, below_drawnE hbw.out _, Hn2⟩
          case measure => simp [intOf]; omega
        · have HF2 := Lib.hid (Hf.out e)
          rcases eq_four id off len run id' off' len' run' e with m1 | ⟨e1, m1⟩ | ⟨e1, e2, m1⟩ | ⟨e1, e2, e3, m1⟩
          · have m2 : ((id' : Int) != (id : Int)) = true := by simp only [bne, m1, Bool.not_false]
            clear e Hn Hf ht
            go_wp2_with fail
            go_quiet (fail)
            go_wp2_with fail
            go_ret
            exact ⟨by rw [HF2.out]; rfl, below_drawnE hbw.out _⟩
          · have g0 := e1.symm
            subst g0
            have m2 : ((off' : Int) != (off : Int)) = true := by simp only [bne, m1, Bool.not_false]
            clear e Hn Hf ht e1
            go_wp2_with fail
            go_quiet (fail)
            go_wp2_with fail
            go_ret
            exact ⟨by rw [HF2.out]; rfl, below_drawnE hbw.out _⟩
          · have g0 := e1.symm
            subst g0
            have g1 := e2.symm
            subst g1
            have m2 : ((len' : Int) != (len : Int)) = true := by simp only [bne, m1, Bool.not_false]
            clear e Hn Hf ht e1 e2
            go_wp2_with fail
            go_quiet (fail)
            go_wp2_with fail
            go_ret
            exact ⟨by rw [HF2.out]; rfl, below_drawnE hbw.out _⟩
          · have g0 := e1.symm
            subst g0
            have g1 := e2.symm
            subst g1
            have g2 := e3.symm
            subst g2
            have m2 : ((run' : Int) != (run : Int)) = true := by simp only [bne, m1, Bool.not_false]
            clear e Hn Hf ht e1 e2 e3
            go_wp2_with fail
            go_quiet (fail)
            go_wp2_with fail
            go_ret
            exact ⟨by rw [HF2.out]; rfl, below_drawnE hbw.out _⟩
      · obtain rfl : L = k := by omega
        have he : l = m := take_all Hne.out (by rw [← HL.out]; exact ht.out)
        have Hd : Hid (decide (l = m) = true) := decide_eq_true he
        clear he ht
        go_wp2_with fail
        go_ret
        exact ⟨by rw [Hd.out]; rfl, hbw.out⟩
  · have e : decide (l = m) = false := decide_eq_false (fun e => hne (by rw [e]))
    rw [e]
    have n1 : ((l.length : Int) != (m.length : Int)) = true := by simp [bne]; omega
    have n2 : ((l.length : Int) == (m.length : Int)) = false := beq_eq_false_iff_ne.mpr (by omega)
    obtain ⟨L, hL⟩ : ∃ L, l.length = L := ⟨_, rfl⟩
    obtain ⟨M, hM⟩ : ∃ M, m.length = M := ⟨_, rfl⟩
    rw [hL] at n1 n2 ⊢
    rw [hM] at n1 n2 ⊢
    clear ha hb hne e hL hM hc1 hd1
    go_enter Try.func19, Try.ntmps19
    go_wp2_with fail
    go_ret
    exact ⟨rfl, Below.refl _ _⟩

set_option maxHeartbeats 4000000 in
theorem refSame_any (u v : Value) (l m : List En) (w : World) (hu : RdE w w.heap.size u l) (hv : RdE w w.heap.size v m) :
    Calls Try.prog 11 #[u, v] w fun e w' => e = .returned (.bool (decide (l = m))) ∧ Below w.heap.size w w' := by
  obtain ⟨a, c, rfl, hc1, hc2, ha, _⟩ := hu
  obtain ⟨b, d, rfl, hd1, hd2, hb, _⟩ := hv
  unfold maxLen at hc2 hd2
  by_cases hne : l.length = m.length
  · obtain ⟨L, hL⟩ : ∃ L, L = l.length := ⟨_, rfl⟩
    have HA := Lib.hid ha
    have HB := Lib.hid hb
    have HL := Lib.hid hL
    have HM := Lib.hid (hL.trans hne)
    have Hne := Lib.hid hne
    rw [← hne, ← hL]
    have hLm : (L : Int) ≤ 9223372036854775807 := by omega
    clear hL ha hb hne hc1 hc2 hd1 hd2
    go_enter Try.func11, Try.ntmps11
    go_wp2_with fail
    go_loopw [5] (fun i W => ∃ k : Nat, k ≤ L ∧ i = .int .i64 (k : Int) ∧ Hid (Below w.heap.size w W) ∧ Hid (l.take k = m.take k)) (fun i _ => L - (intOf i).toNat)
    case atStart => exact ⟨0, Nat.zero_le _, rfl, Below.refl _ _, Lib.hid rfl⟩
    case round =>
      obtain ⟨k, hk, rfl, hbw, ht⟩ := hrel
      by_cases hlt : k < L
      · have hkl : k < l.length := by have := HL.out; omega
        have hkm : k < m.length := by have := HM.out; omega
        obtain ⟨b1, o1, rfl, h1, p0, p1, p2, p3⟩ := (HA.out.below hbw.out).at k hkl
        obtain ⟨b2, o2, rfl, h2, q0, q1, q2, q3⟩ := (HB.out.below hbw.out).at k hkm
        have hn := take_next hkl hkm ht.out
        have hf : l[k] ≠ m[k] → decide (l = m) = false := fun h => decide_eq_false (fun e => by subst e; exact h rfl)
        generalize l[k]'hkl = f at *
        generalize m[k]'hkm = g at *
        obtain ⟨id', off', len', run'⟩ := f
        obtain ⟨id, off, len, run⟩ := g
        simp only at p0 p1 p2 p3 q0 q1 q2 q3
        have hk0 : (0 : Int) ≤ (k : Int) := by omega
        have hk1 : (k : Int) < (L : Int) := by omega
        have Hn := Lib.hid hn
        have Hf := Lib.hid hf
        clear hn hf
        by_cases e : (⟨id', off', len', run'⟩ : En) = ⟨id, off, len, run⟩
        · injection e with e1 e2 e3 e4
          have f1 := e1.symm
          have f2 := e2.symm
          have f3 := e3.symm
          have f4 := e4.symm
          subst f1 f2 f3 f4
          have Hn2 := Lib.hid (Hn.out rfl)
          clear e1 e2 e3 e4 Hn Hf ht
          go_wp2_with fail
          go_quiet (fail)
          go_wp2_with fail
          go_roundw
          case rel => exact ⟨k + 1, hlt, by go_num, below_drawnE hbw.out _, Hn2⟩
          case measure => simp [intOf]; omega
        · have HF2 := Lib.hid (Hf.out e)
          rcases eq_four id off len run id' off' len' run' e with m1 | ⟨e1, m1⟩ | ⟨e1, e2, m1⟩ | ⟨e1, e2, e3, m1⟩
          · have m2 : ((id' : Int) != (id : Int)) = true := by simp only [bne, m1, Bool.not_false]
            clear e Hn Hf ht
            go_wp2_with fail
            go_quiet (fail)
            go_wp2_with fail
            go_ret
            exact ⟨by rw [HF2.out]; rfl, below_drawnE hbw.out _⟩
          · have g0 := e1.symm
            subst g0
            have m2 : ((off' : Int) != (off : Int)) = true := by simp only [bne, m1, Bool.not_false]
            clear e Hn Hf ht e1
            go_wp2_with fail
            go_quiet (fail)
            go_wp2_with fail
            go_ret
            exact ⟨by rw [HF2.out]; rfl, below_drawnE hbw.out _⟩
          · have g0 := e1.symm
            subst g0
            have g1 := e2.symm
            subst g1
            have m2 : ((len' : Int) != (len : Int)) = true := by simp only [bne, m1, Bool.not_false]
            clear e Hn Hf ht e1 e2
            go_wp2_with fail
            go_quiet (fail)
            go_wp2_with fail
            go_ret
            exact ⟨by rw [HF2.out]; rfl, below_drawnE hbw.out _⟩
          · have g0 := e1.symm
            subst g0
            have g1 := e2.symm
            subst g1
            have g2 := e3.symm
            subst g2
            have m2 : ((run' : Int) != (run : Int)) = true := by simp only [bne, m1, Bool.not_false]
            clear e Hn Hf ht e1 e2 e3
            go_wp2_with fail
            go_quiet (fail)
            go_wp2_with fail
            go_ret
            exact ⟨by rw [HF2.out]; rfl, below_drawnE hbw.out _⟩
      · obtain rfl : L = k := by omega
        have he : l = m := take_all Hne.out (by rw [← HL.out]; exact ht.out)
        have Hd : Hid (decide (l = m) = true) := decide_eq_true he
        clear he ht
        go_wp2_with fail
        go_ret
        exact ⟨by rw [Hd.out]; rfl, hbw.out⟩
  · have e : decide (l = m) = false := decide_eq_false (fun e => hne (by rw [e]))
    rw [e]
    have n1 : ((l.length : Int) != (m.length : Int)) = true := by simp [bne]; omega
    have n2 : ((l.length : Int) == (m.length : Int)) = false := beq_eq_false_iff_ne.mpr (by omega)
    obtain ⟨L, hL⟩ : ∃ L, l.length = L := ⟨_, rfl⟩
    obtain ⟨M, hM⟩ : ∃ M, m.length = M := ⟨_, rfl⟩
    rw [hL] at n1 n2 ⊢
    rw [hM] at n1 n2 ⊢
    clear ha hb hne e hL hM hc1 hd1
    go_enter Try.func11, Try.ntmps11
    go_wp2_with fail
    go_ret
    exact ⟨rfl, Below.refl _ _⟩


set_option maxHeartbeats 1000000 in
theorem same_any (u v : Value) (l m : List En) (w : World) (hu : RdE w w.heap.size u l) (hv : RdE w w.heap.size v m) :
    Calls Try.prog 10 #[u, v] w fun e w' => e = .returned (.bool (decide (l = m))) ∧ Below w.heap.size w w' := by
  have Hq := Lib.hid (equal_any u v l m w hu hv)
  clear hu hv
  generalize decide (l = m) = t at *
  go_enter Try.func10, Try.ntmps10
  go_wp2_with fail
  refine Hq.out.mono ?_
  rintro e X ⟨rfl, hX⟩
  have HX := Lib.hid hX
  clear hX
  go_wp2_with fail
  go_ret
  exact ⟨rfl, HX.out⟩
end Go.Proofs.Ytaafcmgkmdbefaa
