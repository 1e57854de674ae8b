/- Layer 18: the reference's Parse. -/
import Derived.Test.YtedpdlfoccacmaaCsv5
namespace Go.Proofs.Ytedpdlfoccacmaa
open Go.RowKit
set_option linter.unusedVariables false
set_option maxRecDepth 100000

structure RParAt (w X : World) (d : Value) (R : List (List ByteArray)) : Prop where
  own : OwnTT X w.heap.size d R
  below : Below w.heap.size w X
structure RRowAt (w X : World) (v : Value) (r : List ByteArray) : Prop where
  own : OwnT X w.heap.size v r
  below : Below w.heap.size w X
theorem RRowAt.one {w X Y : World} {v v' : Value} {t : ByteArray} {r : List ByteArray} (h : RRowAt w X v r) (h2 : Y.ownsRow w.heap.size 9 1 v' (r.length + 1) (txs r ++ [.string t])) (h3 : X.grownBy Y v.ownBlock) : RRowAt w Y v' (r ++ [t]) :=
  ⟨by unfold OwnT; rw [List.length_append, txs_append]; exact h2, h.below.grown h3 h.below.size (fun k hk => (h.own.lt k hk).1)⟩
theorem RRowAt.next {w X Y : World} {v : Value} {r : List ByteArray} (h : RRowAt w X v r) (hb : Below X.heap.size X Y) : RRowAt w Y v r := ⟨h.own.below hb, h.below.trans (hb.mono h.below.size)⟩
theorem RParAt.next {w X Y : World} {v : Value} {R : List (List ByteArray)} (h : RParAt w X v R) (hb : Below X.heap.size X Y) : RParAt w Y v R := ⟨h.own.below hb, h.below.trans (hb.mono h.below.size)⟩
set_option maxHeartbeats 16000000 in
theorem refParse_any (s : ByteArray) (w : World) (hs : s.size ≤ 1000000) :
    Calls Try.prog 8 #[.string s] w (ParsePost w (parseE (bs s) ((bs s).length + 1) 0 [])) := by
  obtain ⟨P, hP⟩ : ∃ P, P = parseE (bs s) ((bs s).length + 1) 0 [] := ⟨_, rfl⟩
  rw [← hP]
  have HF := Lib.hid fun k W hk => refField_any s k W hk hs
  have HEn := Lib.hid fun k W hk => refEnd_any s k W hk hs
  have hlen := bs_length s
  have Hlen := Lib.hid hlen
  have HP := Lib.hid hP
  obtain ⟨i0, hi0, hz0, hz1, hz2⟩ := info_parts txinfo
  obtain ⟨i1, hi1, hy0, hy1, hy2⟩ := info_parts ttinfo
  clear hP hlen
  go_enter Try.func8, Try.ntmps8
  go_wp2_with fail
  go_loopw [5, 6] (fun d i X => ∃ (k : Nat) (R : List (List ByteArray)) (f : Nat), i = .int .i64 (k : Int) ∧ Hid (RParAt w X d R) ∧ k ≤ s.size ∧ Hid (parseE (bs s) f k R = P ∧ (bs s).length - k < f ∧ R.length ≤ k)) (fun _ i _ => s.size - (intOf i).toNat)
  case atStart => exact ⟨0, [], _, rfl, ⟨OwnTT.nil_ _ _, Below.refl _ _⟩, Nat.zero_le _, HP.out.symm, by omega, by simp⟩
  case round =>
    obtain ⟨W0, hW0⟩ : ∃ W0, W0 = wr := ⟨_, rfl⟩
    subst hW0
    obtain ⟨k, R, f, rfl, hA, hks, hB⟩ := hrel
    obtain ⟨f, rfl⟩ : ∃ f', f = f' + 1 := ⟨f - 1, by have := hB.out.2.1; omega⟩
    by_cases hlt : k < s.size
    · have d1 : decide ((k : Int) < (s.size : Int)) = true := decide_eq_true (by omega)
      have hki : k < (bs s).length := by have := Hlen.out; omega
      have hok := rowE_ok (bs_lt s) ((bs s).length + 1) k [] (by omega) (by omega) (by simp) (by simp)
      obtain ⟨a, c, e0, hc1, hc2, _⟩ := hA.out.own.rd.at
      have hRk := hB.out.2.2
      have Hki := Lib.hid hki
      have Hfu := Lib.hid hB.out.2.1
      have HRe := Lib.hid hB.out.1
      have hRb : R.length ≤ 1000000 := by omega
      have hcm : c ≤ 9223372036854775807 := hc2
      clear hki hB
      subst e0
      by_cases hmany : R.length = 65536
      · have hR : P = ([], k, 9) := by rw [← HRe.out, parseE_many Hki.out hmany]
        subst hR
        have e2 : ((R.length : Int) == 65536) = true := by rw [hmany]; rfl
        clear hmany hRk hRb hc1 hok
        go_wp2_with fail
        go_ret3
        exact ⟨_, rfl, (OwnTT.nil_ _ w.heap.size).rd, hA.out.below⟩
      · have e2 : ((R.length : Int) == 65536) = false := beq_eq_false_iff_ne.mpr (by omega)
        have Hmany := Lib.hid hmany
        obtain ⟨W, hW⟩ : ∃ W, rowE (bs s) ((bs s).length + 1) k [] = W := ⟨_, rfl⟩
        rw [hW] at hok
        have Hok := Lib.hid hok
        have HW0 := Lib.hid hW
        clear hok hW hmany
        go_wp2_with fail
        go_loopw [6, 8] (fun i v X => ∃ (j : Nat) (r : List ByteArray) (f' : Nat), i = .int .i64 (j : Int) ∧ Hid (RRowAt W0 X v r) ∧ k ≤ j ∧ j ≤ s.size ∧ Hid (rowE (bs s) f' j r = W ∧ (bs s).length - j < f' ∧ r.length ≤ j)) (fun i _ _ => s.size + 1 - (intOf i).toNat)
        case atStart => exact ⟨k, [], _, rfl, ⟨OwnT.nil_ _ _, Below.refl _ _⟩, Nat.le_refl _, hks, HW0.out, by omega, by simp⟩
        case round =>
          obtain ⟨j, r, f', rfl, hr, hkj, hjs, hD⟩ := hrel
          obtain ⟨f', rfl⟩ : ∃ g, f' = g + 1 := ⟨f' - 1, by have := hD.out.2.1; omega⟩
          have HFk := Lib.hid fun X => HF.out j X hjs
          have hok2 := fieldE_ok (bs_lt s) j (by have := Hlen.out; omega)
          obtain ⟨m, k1, e, hFe⟩ : ∃ m k1 e, fieldE (bs s) j = (m, k1, e) := ⟨_, _, _, rfl⟩
          rw [hFe] at hok2 HFk
          have hk1 : j ≤ k1 := hok2.lo
          have hk1s : k1 ≤ s.size := by have h1 : k1 ≤ (bs s).length := hok2.hi; have := Hlen.out; omega
          have HFe := Lib.hid hFe
          have Hfu2 := Lib.hid hD.out.2.1
          have hrl := hD.out.2.2
          have HRd := Lib.hid hD.out.1
          clear hD hFe hok2
          by_cases he : e = 0
          · subst he
            have HEk := Lib.hid fun X => HEn.out k1 X hk1s
            obtain ⟨E, hEE⟩ : ∃ E, endA (bs s) k1 = E := ⟨_, rfl⟩
            rw [hEE] at HEk
            have hEl := endA_le (l := bs s) (i := k1) (by have := Hlen.out; omega)
            rw [hEE] at hEl
            have hEs : k1 + E ≤ s.size := by have := Hlen.out; omega
            obtain ⟨t, ht⟩ : ∃ t, t = strOf m := ⟨_, rfl⟩
            have Ht := Lib.hid ht
            have HEE := Lib.hid hEE
            have Hl1 : Hid (r.length + 1 ≤ maxLen) := by unfold Hid maxLen; omega
            have Hl2 : Hid ((r.length + 1) * 16 ≤ 140737488355328) := by unfold Hid; omega
            clear hEE ht hEl
            by_cases hc : (bs s).getD k1 0 = 44
            · have hk2 : k1 < s.size := by have h1 := lt_of_getD (l := bs s) (k := k1) (by omega); have := Hlen.out; omega
              obtain ⟨c', hc', hcb, _⟩ := byteAt s k1 hk2
              obtain rfl : 44 = c' := by rw [← hcb, hc]
              have e3 : decide ((s.size : Int) ≤ (k1 : Int)) = false := decide_eq_false (by omega)
              have e4 : decide (s.size ≤ k1) = false := decide_eq_false (by omega)
              have e5 : (k1 : Int) < (s.size : Int) := by omega
              have HRn : Hid (rowE (bs s) f' (k1 + 1) (r ++ [t]) = W) := by show _ = _; rw [← HRd.out, rowE_more HFe.out hc, Ht.out]
              clear hc hcb
              go_wp2_with fail
              refine (HFk.out _).mono ?_
              rintro e' Y ⟨rfl, hb⟩
              have HN : Hid (RRowAt W0 Y u8 r) := hr.out.next hb
              clear hb
              simp only [← Ht.out]
              go_wp2_with (at_builtin; refine app_one rfl (.tmp 35) (.tmp 37) 36 rfl W0.heap.size 9 i0 _ 16 Try.underlying36 hi0 hz0 hz1 hz2 rfl u8 r.length (txs r) rfl (by exact HN.out.own) (.string t) 1 rfl rfl Hl1.out Hl2.out HN.out.below.size ?_)
              intro v5 w5 h2 h3 h5
              have HM : Hid (RRowAt W0 w5 v5 (r ++ [t])) := HN.out.one h2 h3
              clear h2 h3 h5
              go_wp2_with fail
              go_roundw
              case rel => exact ⟨k1 + 1, r ++ [t], f', by go_num, HM.out, by omega, hk2, HRn.out, by have := Hfu2.out; have := Hlen.out; omega, by rw [List.length_append]; simp; omega⟩
              case measure => simp [intOf]; omega
            · have hWW : W = (r ++ [t], k1 + E, 0) := by rw [← HRd.out, rowE_end HFe.out hc, Ht.out, HEE.out]
              have hkE : k < k1 + E := by have := Hok.out.more (by rw [hWW]) Hki.out; rw [hWW] at this; exact this
              have HkE := Lib.hid hkE
              have HWW := Lib.hid hWW
              have Hcc := Lib.hid hc
              clear hkE hWW hc
              obtain ⟨n, hn⟩ : ∃ n, n = (r ++ [t]).length := ⟨_, rfl⟩
              have Hn := Lib.hid hn
              have hnb : n ≤ 1000001 := by rw [hn, List.length_append]; simp; omega
              clear hn
              by_cases hk2 : k1 < s.size
              · obtain ⟨c', hc', hcb, _⟩ := byteAt s k1 hk2
                have e3 : decide ((s.size : Int) ≤ (k1 : Int)) = false := decide_eq_false (by omega)
                have e4 : decide (s.size ≤ k1) = false := decide_eq_false (by omega)
                have e5 : (k1 : Int) < (s.size : Int) := by omega
                have e6 : ((c' : Int) != 44) = true := bne_iff_ne.mpr (fun h => Hcc.out (by rw [hcb]; omega))
                clear hcb
                by_cases hR0 : R = []
                · have e7 : decide ((0 : Int) < (R.length : Int)) = false := decide_eq_false (by rw [hR0]; simp)
                  have e8 : decide (0 < R.length) = false := decide_eq_false (by rw [hR0]; simp)
                  have HN2 : Hid (parseE (bs s) f (k1 + E) (R ++ [r ++ [t]]) = P) := by show _ = _; rw [← HRe.out, parseE_more Hki.out Hmany.out (by rw [HW0.out, HWW.out]) (by rw [hR0]; simp)]
                  clear hR0
                  go_wp2_with fail
                  refine (HFk.out _).mono ?_
                  rintro e' Y ⟨rfl, hb⟩
                  have HN : Hid (RRowAt W0 Y u8 r) := hr.out.next hb
                  clear hb
                  simp only [← Ht.out]
                  go_wp2_with (at_builtin; refine app_one rfl (.tmp 35) (.tmp 37) 36 rfl W0.heap.size 9 i0 _ 16 Try.underlying36 hi0 hz0 hz1 hz2 rfl u8 r.length (txs r) rfl (by exact HN.out.own) (.string t) 1 rfl rfl Hl1.out Hl2.out HN.out.below.size ?_)
                  intro v5 w5 h2 h3 h5
                  have HM : Hid (RRowAt W0 w5 v5 (r ++ [t])) := HN.out.one h2 h3
                  clear h2 h3 h5
                  go_wp2_with fail
                  refine (HEk.out _).mono ?_
                  rintro e' Z ⟨rfl, rfl⟩
                  have HZ : Hid (RParAt w w5 (.slice a R.length c) R) := hA.out.next HM.out.below
                  obtain ⟨av, cv, rfl, hv1, hv2, hv3⟩ := HM.out.own.rd
                  rw [← Hn.out] at hv1 ⊢
                  clear hv1 hv2 hv3
                  obtain ⟨xs, hx1, hx2⟩ := HZ.out.own
                  have hxl : xs.length = R.length := by simpa using hx1.1
                  have Hx1 := Lib.hid hx1
                  have Hx2 := Lib.hid hx2
                  have Hxl := Lib.hid hxl
                  have Hk1 : Hid (R.length + 1 ≤ maxLen) := by unfold Hid maxLen; omega
                  have Hk2 : Hid ((R.length + 1) * 24 ≤ 140737488355328) := by unfold Hid; omega
                  clear hx1 hx2 hxl
                  go_wp2_with (at_builtin; refine app_one rfl (.tmp 70) (.tmp 72) 23 rfl w.heap.size 36 i1 _ 24 Try.underlying23 hi1 hy0 hy1 hy2 rfl _ R.length xs rfl (by exact Hx1.out) (.slice av n cv) 1 rfl rfl Hk1.out Hk2.out HZ.out.below.size ?_)
                  intro v6 w6 h2 h3 h5
                  have hb6 := HZ.out.below.grown h3 HZ.out.below.size (fun k hk => (World.ownsRow.lt Hx1.out k hk).1)
                  have HS6 : Hid (RParAt w w6 v6 (R ++ [r ++ [t]])) := ⟨own_grow (w := w5) Hx2.out Hxl.out (RdTN.of_rd (by have := HM.out.own.rd; rw [← Hn.out] at this; exact this) (fun b e e2 => by
                      have q1 := (HM.out.own.lt b (by rw [← Hn.out]; exact e)).1
                      obtain ⟨ys, y1, _⟩ := hA.out.own
                      have q2 := (World.ownsRow.lt y1 b e2).2
                      omega)) h2 h3 h5, hb6⟩
                  clear h2 h3 h5 hb6
                  go_wp2_with fail
                  go_roundw
                  case rel => exact ⟨k1 + E, R ++ [r ++ [t]], f, by go_num, HS6.out, hEs, HN2.out, by have := Hfu.out; have := Hlen.out; have := HkE.out; omega, by have := HkE.out; rw [List.length_append]; simp; omega⟩
                  case measure => have := HkE.out; simp [intOf]; omega
                · have hRp : 0 < R.length := List.length_pos_iff.2 hR0
                  have e7 : decide ((0 : Int) < (R.length : Int)) = true := decide_eq_true (by omega)
                  have e8 : decide (0 < R.length) = true := decide_eq_true hRp
                  obtain ⟨L0, hL0⟩ : ∃ L0, L0 = (R.getD 0 []).length := ⟨_, rfl⟩
                  have HL0 := Lib.hid hL0
                  have hRi : (0 : Int) < (R.length : Int) := by omega
                  by_cases hne : n = L0
                  · have e9 : ((L0 : Int) != (n : Int)) = false := by rw [hne]; exact bne_self_eq_false _
                    have HN2 : Hid (parseE (bs s) f (k1 + E) (R ++ [r ++ [t]]) = P) := by show _ = _; rw [← HRe.out, parseE_more Hki.out Hmany.out (by rw [HW0.out, HWW.out]) (by rw [← hL0, ← Hn.out]; omega)]
                    clear hR0 hL0 hne
                    go_wp2_with fail
                    refine (HFk.out _).mono ?_
                    rintro e' Y ⟨rfl, hb⟩
                    have HN : Hid (RRowAt W0 Y u8 r) := hr.out.next hb
                    clear hb
                    simp only [← Ht.out]
                    go_wp2_with (at_builtin; refine app_one rfl (.tmp 35) (.tmp 37) 36 rfl W0.heap.size 9 i0 _ 16 Try.underlying36 hi0 hz0 hz1 hz2 rfl u8 r.length (txs r) rfl (by exact HN.out.own) (.string t) 1 rfl rfl Hl1.out Hl2.out HN.out.below.size ?_)
                    intro v5 w5 h2 h3 h5
                    have HM : Hid (RRowAt W0 w5 v5 (r ++ [t])) := HN.out.one h2 h3
                    clear h2 h3 h5
                    go_wp2_with fail
                    refine (HEk.out _).mono ?_
                    rintro e' Z ⟨rfl, rfl⟩
                    have HZ : Hid (RParAt w w5 (.slice a R.length c) R) := hA.out.next HM.out.below
                    obtain ⟨av, cv, rfl, hv1, hv2, hv3⟩ := HM.out.own.rd
                    rw [← Hn.out] at hv1 ⊢
                    obtain ⟨a0, c0', E0, z1, z2, hat⟩ := HZ.out.own.rd.at
                    obtain ⟨rfl, _, rfl⟩ : a = a0 ∧ True ∧ c = c0' := by injection E0 with h1 h2 h3; exact ⟨h1, trivial, h3⟩
                    obtain ⟨b0, o0, u0, rfl, hb0, hcu, ⟨a5, c5, rfl, q1, q2, q3⟩⟩ := hat 0 hRp
                    have hL5 : R[0].length = L0 := by rw [HL0.out]; simp [List.getD, List.getElem?_eq_getElem hRp]
                    rw [hL5] at hcu
                    rw [Nat.add_zero] at hcu
                    clear hat q1 q2 q3 z1 z2 E0 hL5
                    clear hv1 hv2 hv3
                    obtain ⟨xs, hx1, hx2⟩ := HZ.out.own
                    have hxl : xs.length = R.length := by simpa using hx1.1
                    have Hx1 := Lib.hid hx1
                    have Hx2 := Lib.hid hx2
                    have Hxl := Lib.hid hxl
                    have Hk1 : Hid (R.length + 1 ≤ maxLen) := by unfold Hid maxLen; omega
                    have Hk2 : Hid ((R.length + 1) * 24 ≤ 140737488355328) := by unfold Hid; omega
                    clear hx1 hx2 hxl
                    go_wp2_with (at_builtin; refine app_one rfl (.tmp 70) (.tmp 72) 23 rfl w.heap.size 36 i1 _ 24 Try.underlying23 hi1 hy0 hy1 hy2 rfl _ R.length xs rfl (by exact Hx1.out) (.slice av n cv) 1 rfl rfl Hk1.out Hk2.out HZ.out.below.size ?_)
                    intro v6 w6 h2 h3 h5
                    have hb6 := HZ.out.below.grown h3 HZ.out.below.size (fun k hk => (World.ownsRow.lt Hx1.out k hk).1)
                    have HS6 : Hid (RParAt w w6 v6 (R ++ [r ++ [t]])) := ⟨own_grow (w := w5) Hx2.out Hxl.out (RdTN.of_rd (by have := HM.out.own.rd; rw [← Hn.out] at this; exact this) (fun b e e2 => by
                        have q1 := (HM.out.own.lt b (by rw [← Hn.out]; exact e)).1
                        obtain ⟨ys, y1, _⟩ := hA.out.own
                        have q2 := (World.ownsRow.lt y1 b e2).2
                        omega)) h2 h3 h5, hb6⟩
                    clear h2 h3 h5 hb6
                    go_wp2_with fail
                    go_roundw
                    case rel => exact ⟨k1 + E, R ++ [r ++ [t]], f, by go_num, HS6.out, hEs, HN2.out, by have := Hfu.out; have := Hlen.out; have := HkE.out; omega, by have := HkE.out; rw [List.length_append]; simp; omega⟩
                    case measure => have := HkE.out; simp [intOf]; omega
                  · have e9 : ((L0 : Int) != (n : Int)) = true := bne_iff_ne.mpr (by omega)
                    have hR : P = ([], k, 3) := by rw [← HRe.out, parseE_form Hki.out Hmany.out (by rw [HW0.out, HWW.out]) ⟨hRp, by rw [← hL0, ← Hn.out]; exact hne⟩]
                    subst hR
                    clear hR0 hL0 hne
                    go_wp2_with fail
                    refine (HFk.out _).mono ?_
                    rintro e' Y ⟨rfl, hb⟩
                    have HN : Hid (RRowAt W0 Y u8 r) := hr.out.next hb
                    clear hb
                    simp only [← Ht.out]
                    go_wp2_with (at_builtin; refine app_one rfl (.tmp 35) (.tmp 37) 36 rfl W0.heap.size 9 i0 _ 16 Try.underlying36 hi0 hz0 hz1 hz2 rfl u8 r.length (txs r) rfl (by exact HN.out.own) (.string t) 1 rfl rfl Hl1.out Hl2.out HN.out.below.size ?_)
                    intro v5 w5 h2 h3 h5
                    have HM : Hid (RRowAt W0 w5 v5 (r ++ [t])) := HN.out.one h2 h3
                    clear h2 h3 h5
                    go_wp2_with fail
                    refine (HEk.out _).mono ?_
                    rintro e' Z ⟨rfl, rfl⟩
                    have HZ : Hid (RParAt w w5 (.slice a R.length c) R) := hA.out.next HM.out.below
                    obtain ⟨av, cv, rfl, hv1, hv2, hv3⟩ := HM.out.own.rd
                    rw [← Hn.out] at hv1 ⊢
                    obtain ⟨a0, c0', E0, z1, z2, hat⟩ := HZ.out.own.rd.at
                    obtain ⟨rfl, _, rfl⟩ : a = a0 ∧ True ∧ c = c0' := by injection E0 with h1 h2 h3; exact ⟨h1, trivial, h3⟩
                    obtain ⟨b0, o0, u0, rfl, hb0, hcu, ⟨a5, c5, rfl, q1, q2, q3⟩⟩ := hat 0 hRp
                    have hL5 : R[0].length = L0 := by rw [HL0.out]; simp [List.getD, List.getElem?_eq_getElem hRp]
                    rw [hL5] at hcu
                    rw [Nat.add_zero] at hcu
                    clear hat q1 q2 q3 z1 z2 E0 hL5
                    go_wp2_with fail
                    go_ret3
                    exact ⟨_, rfl, (OwnTT.nil_ _ w.heap.size).rd, HZ.out.below⟩
              · have e3 : decide ((s.size : Int) ≤ (k1 : Int)) = true := decide_eq_true (by omega)
                have e4 : decide (s.size ≤ k1) = true := decide_eq_true (by omega)
                by_cases hR0 : R = []
                · have e7 : decide ((0 : Int) < (R.length : Int)) = false := decide_eq_false (by rw [hR0]; simp)
                  have e8 : decide (0 < R.length) = false := decide_eq_false (by rw [hR0]; simp)
                  have HN2 : Hid (parseE (bs s) f (k1 + E) (R ++ [r ++ [t]]) = P) := by show _ = _; rw [← HRe.out, parseE_more Hki.out Hmany.out (by rw [HW0.out, HWW.out]) (by rw [hR0]; simp)]
                  clear hR0
                  go_wp2_with fail
                  refine (HFk.out _).mono ?_
                  rintro e' Y ⟨rfl, hb⟩
                  have HN : Hid (RRowAt W0 Y u8 r) := hr.out.next hb
                  clear hb
                  simp only [← Ht.out]
                  go_wp2_with (at_builtin; refine app_one rfl (.tmp 35) (.tmp 37) 36 rfl W0.heap.size 9 i0 _ 16 Try.underlying36 hi0 hz0 hz1 hz2 rfl u8 r.length (txs r) rfl (by exact HN.out.own) (.string t) 1 rfl rfl Hl1.out Hl2.out HN.out.below.size ?_)
                  intro v5 w5 h2 h3 h5
                  have HM : Hid (RRowAt W0 w5 v5 (r ++ [t])) := HN.out.one h2 h3
                  clear h2 h3 h5
                  go_wp2_with fail
                  refine (HEk.out _).mono ?_
                  rintro e' Z ⟨rfl, rfl⟩
                  have HZ : Hid (RParAt w w5 (.slice a R.length c) R) := hA.out.next HM.out.below
                  obtain ⟨av, cv, rfl, hv1, hv2, hv3⟩ := HM.out.own.rd
                  rw [← Hn.out] at hv1 ⊢
                  clear hv1 hv2 hv3
                  obtain ⟨xs, hx1, hx2⟩ := HZ.out.own
                  have hxl : xs.length = R.length := by simpa using hx1.1
                  have Hx1 := Lib.hid hx1
                  have Hx2 := Lib.hid hx2
                  have Hxl := Lib.hid hxl
                  have Hk1 : Hid (R.length + 1 ≤ maxLen) := by unfold Hid maxLen; omega
                  have Hk2 : Hid ((R.length + 1) * 24 ≤ 140737488355328) := by unfold Hid; omega
                  clear hx1 hx2 hxl
                  go_wp2_with (at_builtin; refine app_one rfl (.tmp 70) (.tmp 72) 23 rfl w.heap.size 36 i1 _ 24 Try.underlying23 hi1 hy0 hy1 hy2 rfl _ R.length xs rfl (by exact Hx1.out) (.slice av n cv) 1 rfl rfl Hk1.out Hk2.out HZ.out.below.size ?_)
                  intro v6 w6 h2 h3 h5
                  have hb6 := HZ.out.below.grown h3 HZ.out.below.size (fun k hk => (World.ownsRow.lt Hx1.out k hk).1)
                  have HS6 : Hid (RParAt w w6 v6 (R ++ [r ++ [t]])) := ⟨own_grow (w := w5) Hx2.out Hxl.out (RdTN.of_rd (by have := HM.out.own.rd; rw [← Hn.out] at this; exact this) (fun b e e2 => by
                      have q1 := (HM.out.own.lt b (by rw [← Hn.out]; exact e)).1
                      obtain ⟨ys, y1, _⟩ := hA.out.own
                      have q2 := (World.ownsRow.lt y1 b e2).2
                      omega)) h2 h3 h5, hb6⟩
                  clear h2 h3 h5 hb6
                  go_wp2_with fail
                  go_roundw
                  case rel => exact ⟨k1 + E, R ++ [r ++ [t]], f, by go_num, HS6.out, hEs, HN2.out, by have := Hfu.out; have := Hlen.out; have := HkE.out; omega, by have := HkE.out; rw [List.length_append]; simp; omega⟩
                  case measure => have := HkE.out; simp [intOf]; omega
                · have hRp : 0 < R.length := List.length_pos_iff.2 hR0
                  have e7 : decide ((0 : Int) < (R.length : Int)) = true := decide_eq_true (by omega)
                  have e8 : decide (0 < R.length) = true := decide_eq_true hRp
                  obtain ⟨L0, hL0⟩ : ∃ L0, L0 = (R.getD 0 []).length := ⟨_, rfl⟩
                  have HL0 := Lib.hid hL0
                  have hRi : (0 : Int) < (R.length : Int) := by omega
                  by_cases hne : n = L0
                  · have e9 : ((L0 : Int) != (n : Int)) = false := by rw [hne]; exact bne_self_eq_false _
                    have HN2 : Hid (parseE (bs s) f (k1 + E) (R ++ [r ++ [t]]) = P) := by show _ = _; rw [← HRe.out, parseE_more Hki.out Hmany.out (by rw [HW0.out, HWW.out]) (by rw [← hL0, ← Hn.out]; omega)]
                    clear hR0 hL0 hne
                    go_wp2_with fail
                    refine (HFk.out _).mono ?_
                    rintro e' Y ⟨rfl, hb⟩
                    have HN : Hid (RRowAt W0 Y u8 r) := hr.out.next hb
                    clear hb
                    simp only [← Ht.out]
                    go_wp2_with (at_builtin; refine app_one rfl (.tmp 35) (.tmp 37) 36 rfl W0.heap.size 9 i0 _ 16 Try.underlying36 hi0 hz0 hz1 hz2 rfl u8 r.length (txs r) rfl (by exact HN.out.own) (.string t) 1 rfl rfl Hl1.out Hl2.out HN.out.below.size ?_)
                    intro v5 w5 h2 h3 h5
                    have HM : Hid (RRowAt W0 w5 v5 (r ++ [t])) := HN.out.one h2 h3
                    clear h2 h3 h5
                    go_wp2_with fail
                    refine (HEk.out _).mono ?_
                    rintro e' Z ⟨rfl, rfl⟩
                    have HZ : Hid (RParAt w w5 (.slice a R.length c) R) := hA.out.next HM.out.below
                    obtain ⟨av, cv, rfl, hv1, hv2, hv3⟩ := HM.out.own.rd
                    rw [← Hn.out] at hv1 ⊢
                    obtain ⟨a0, c0', E0, z1, z2, hat⟩ := HZ.out.own.rd.at
                    obtain ⟨rfl, _, rfl⟩ : a = a0 ∧ True ∧ c = c0' := by injection E0 with h1 h2 h3; exact ⟨h1, trivial, h3⟩
                    obtain ⟨b0, o0, u0, rfl, hb0, hcu, ⟨a5, c5, rfl, q1, q2, q3⟩⟩ := hat 0 hRp
                    have hL5 : R[0].length = L0 := by rw [HL0.out]; simp [List.getD, List.getElem?_eq_getElem hRp]
                    rw [hL5] at hcu
                    rw [Nat.add_zero] at hcu
                    clear hat q1 q2 q3 z1 z2 E0 hL5
                    clear hv1 hv2 hv3
                    obtain ⟨xs, hx1, hx2⟩ := HZ.out.own
                    have hxl : xs.length = R.length := by simpa using hx1.1
                    have Hx1 := Lib.hid hx1
                    have Hx2 := Lib.hid hx2
                    have Hxl := Lib.hid hxl
                    have Hk1 : Hid (R.length + 1 ≤ maxLen) := by unfold Hid maxLen; omega
                    have Hk2 : Hid ((R.length + 1) * 24 ≤ 140737488355328) := by unfold Hid; omega
                    clear hx1 hx2 hxl
                    go_wp2_with (at_builtin; refine app_one rfl (.tmp 70) (.tmp 72) 23 rfl w.heap.size 36 i1 _ 24 Try.underlying23 hi1 hy0 hy1 hy2 rfl _ R.length xs rfl (by exact Hx1.out) (.slice av n cv) 1 rfl rfl Hk1.out Hk2.out HZ.out.below.size ?_)
                    intro v6 w6 h2 h3 h5
                    have hb6 := HZ.out.below.grown h3 HZ.out.below.size (fun k hk => (World.ownsRow.lt Hx1.out k hk).1)
                    have HS6 : Hid (RParAt w w6 v6 (R ++ [r ++ [t]])) := ⟨own_grow (w := w5) Hx2.out Hxl.out (RdTN.of_rd (by have := HM.out.own.rd; rw [← Hn.out] at this; exact this) (fun b e e2 => by
                        have q1 := (HM.out.own.lt b (by rw [← Hn.out]; exact e)).1
                        obtain ⟨ys, y1, _⟩ := hA.out.own
                        have q2 := (World.ownsRow.lt y1 b e2).2
                        omega)) h2 h3 h5, hb6⟩
                    clear h2 h3 h5 hb6
                    go_wp2_with fail
                    go_roundw
                    case rel => exact ⟨k1 + E, R ++ [r ++ [t]], f, by go_num, HS6.out, hEs, HN2.out, by have := Hfu.out; have := Hlen.out; have := HkE.out; omega, by have := HkE.out; rw [List.length_append]; simp; omega⟩
                    case measure => have := HkE.out; simp [intOf]; omega
                  · have e9 : ((L0 : Int) != (n : Int)) = true := bne_iff_ne.mpr (by omega)
                    have hR : P = ([], k, 3) := by rw [← HRe.out, parseE_form Hki.out Hmany.out (by rw [HW0.out, HWW.out]) ⟨hRp, by rw [← hL0, ← Hn.out]; exact hne⟩]
                    subst hR
                    clear hR0 hL0 hne
                    go_wp2_with fail
                    refine (HFk.out _).mono ?_
                    rintro e' Y ⟨rfl, hb⟩
                    have HN : Hid (RRowAt W0 Y u8 r) := hr.out.next hb
                    clear hb
                    simp only [← Ht.out]
                    go_wp2_with (at_builtin; refine app_one rfl (.tmp 35) (.tmp 37) 36 rfl W0.heap.size 9 i0 _ 16 Try.underlying36 hi0 hz0 hz1 hz2 rfl u8 r.length (txs r) rfl (by exact HN.out.own) (.string t) 1 rfl rfl Hl1.out Hl2.out HN.out.below.size ?_)
                    intro v5 w5 h2 h3 h5
                    have HM : Hid (RRowAt W0 w5 v5 (r ++ [t])) := HN.out.one h2 h3
                    clear h2 h3 h5
                    go_wp2_with fail
                    refine (HEk.out _).mono ?_
                    rintro e' Z ⟨rfl, rfl⟩
                    have HZ : Hid (RParAt w w5 (.slice a R.length c) R) := hA.out.next HM.out.below
                    obtain ⟨av, cv, rfl, hv1, hv2, hv3⟩ := HM.out.own.rd
                    rw [← Hn.out] at hv1 ⊢
                    obtain ⟨a0, c0', E0, z1, z2, hat⟩ := HZ.out.own.rd.at
                    obtain ⟨rfl, _, rfl⟩ : a = a0 ∧ True ∧ c = c0' := by injection E0 with h1 h2 h3; exact ⟨h1, trivial, h3⟩
                    obtain ⟨b0, o0, u0, rfl, hb0, hcu, ⟨a5, c5, rfl, q1, q2, q3⟩⟩ := hat 0 hRp
                    have hL5 : R[0].length = L0 := by rw [HL0.out]; simp [List.getD, List.getElem?_eq_getElem hRp]
                    rw [hL5] at hcu
                    rw [Nat.add_zero] at hcu
                    clear hat q1 q2 q3 z1 z2 E0 hL5
                    go_wp2_with fail
                    go_ret3
                    exact ⟨_, rfl, (OwnTT.nil_ _ w.heap.size).rd, HZ.out.below⟩
          · have e1 : (e != 0) = true := by simpa using he
            have hWW : W = ([], k1, e) := by rw [← HRd.out, rowE_err (by rw [HFe.out]; exact he), HFe.out]
            have hR : P = ([], k1, e) := by rw [← HRe.out, parseE_err Hki.out Hmany.out (by rw [HW0.out, hWW]) he]
            subst hR
            clear he hWW
            go_wp2_with fail
            refine (HFk.out _).mono ?_
            rintro e' Y ⟨rfl, hb⟩
            have HN := Lib.hid ((hA.out.next hr.out.below).next hb)
            clear hb
            go_wp2_with fail
            go_ret3
            exact ⟨_, rfl, (OwnTT.nil_ _ w.heap.size).rd, HN.out.below⟩
    · obtain rfl : k = s.size := by omega
      have d1 : decide ((s.size : Int) < (s.size : Int)) = false := decide_eq_false (by omega)
      have hR : P = (R, s.size, 0) := by rw [← hB.out.1, parseE_end (by have := Hlen.out; omega), Hlen.out]
      subst hR
      clear hB
      go_wp2_with fail
      go_ret3
      exact ⟨_, rfl, hA.out.own.rd, hA.out.below⟩
end Go.Proofs.Ytedpdlfoccacmaa
