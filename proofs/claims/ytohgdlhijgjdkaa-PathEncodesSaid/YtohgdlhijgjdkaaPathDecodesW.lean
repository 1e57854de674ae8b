/- Layer 9: PathDecodes. -/
import Derived.Test.YtohgdlhijgjdkaaPathBack
namespace Go.Proofs.Ytohgdlhijgjdkaa
open Go.RowKit
set_option linter.unusedVariables false
set_option maxRecDepth 100000

theorem refDecode_any (K : Int) (a : Option Addr) (c : Nat) (l : List Nat) (w : World) (hN : Nums .u32 w w.heap.size a l) (hlen : l.length ≤ 1000) (hl : ∀ x ∈ l, x < 4294967296) :
    Calls Try.prog 8 #[.int .i64 K, .slice a l.length c] w (DecPost w (decR K l)) := by
  unfold decR
  split
  · next h =>
    by_cases h1 : K < 1
    · have d1 : decide (K < 1) = true := decide_eq_true h1
      clear h
      go_enter Try.func8, Try.ntmps8
      go_wp2_with fail
      exact bodyPost_ret (v := .tuple #[.slice none 0 0, .int .i64 1]) (by simp [results, Try.results8, asAddr, go_sem]) rfl ⟨_, rfl, rdpp_nil _ _, Below.refl _ _⟩
    · have d1 : decide (K < 1) = false := decide_eq_false h1
      have d3 : decide (3 < K) = true := decide_eq_true (by omega)
      clear h
      go_enter Try.func8, Try.ntmps8
      go_wp2_with fail
      exact bodyPost_ret (v := .tuple #[.slice none 0 0, .int .i64 1]) (by simp [results, Try.results8, asAddr, go_sem]) rfl ⟨_, rfl, rdpp_nil _ _, Below.refl _ _⟩
  · next h => exact refDecode_in K K.toNat (by omega) (by omega) (by omega) a c l w hN hlen hl
theorem cmd_pos {op a b e : Nat} {l : List Nat} (h : cmdM op a b l = .error e) : e ≠ 0 := by
  cases l with
  | nil => simp [cmdM] at h; omega
  | cons x l =>
    simp only [cmdM] at h
    split at h
    · injection h with h; omega
    · cases h
theorem group_pos {kind e : Nat} {l : List Nat} {p : P2} (h : groupM kind l p = .error e) : e ≠ 0 := by
  unfold groupM at h
  cases h1 : cmdM 1 1 1 l with
  | error e1 => rw [h1] at h; injection h with h; have := cmd_pos h1; omega
  | ok v =>
    obtain ⟨n0, r1⟩ := v
    rw [h1] at h
    simp only at h
    cases h2 : ptsM n0 r1 p [] with
    | error e1 => rw [h2] at h; injection h with h; have := ptsM_pos h2; omega
    | ok v =>
      obtain ⟨a2, r2, p2⟩ := v
      rw [h2] at h
      simp only at h
      cases h3 : cmdM 2 (kind - 1) 536870912 r2 with
      | error e1 => rw [h3] at h; injection h with h; have := cmd_pos h3; omega
      | ok v =>
        obtain ⟨n, r3⟩ := v
        rw [h3] at h
        simp only at h
        cases h4 : ptsM n r3 p2 a2 with
        | error e1 => rw [h4] at h; injection h with h; have := ptsM_pos h4; omega
        | ok v =>
          obtain ⟨b, r4, p3⟩ := v
          rw [h4] at h
          simp only at h
          split at h
          · cases h5 : cmdM 7 1 1 r4 with
            | error e1 => rw [h5] at h; injection h with h; have := cmd_pos h5; omega
            | ok v => rw [h5] at h; cases h
          · cases h
theorem groups_pos {kind e : Nat} : ∀ {f : Nat} {l : List Nat} {p : P2} {acc : List (List P2)}, groupsM kind f l p acc = .error e → e ≠ 0
  | 0, _, _, _, h => by simp [groupsM] at h
  | f + 1, l, p, acc, h => by
    cases h1 : groupM kind l p with
    | error e1 => rw [groupsM_err h1] at h; injection h with h; have := group_pos h1; omega
    | ok v =>
      obtain ⟨a, r, q⟩ := v
      rw [groupsM_ok h1] at h
      split at h
      · cases h
      · exact groups_pos h
theorem dec_pos {kind e : Nat} {l : List Nat} (h : decM kind l = .error e) : e ≠ 0 := by
  unfold decM at h
  split at h
  · unfold pointsM at h
    cases h1 : cmdM 1 1 536870912 l with
    | error e1 => rw [h1] at h; simp only at h; injection h with h; have := cmd_pos h1; omega
    | ok v =>
      obtain ⟨n, r⟩ := v
      rw [h1] at h
      simp only at h
      cases h2 : ptsM n r (0, 0) [] with
      | error e1 => rw [h2] at h; simp only at h; injection h with h; have := ptsM_pos h2; omega
      | ok v =>
        obtain ⟨a, r2, q⟩ := v
        rw [h2] at h
        simp only at h
        by_cases hr : r2 = []
        · rw [if_pos hr] at h; cases h
        · rw [if_neg hr] at h; simp only at h; injection h with h; omega
  · exact groups_pos h
theorem dec_cases (K : Int) (l : List Nat) : (∃ E, E ≠ 0 ∧ decR K l = ([], E)) ∨ (∃ ll, decR K l = (ll, 0) ∧ decM K.toNat l = .ok ll ∧ 1 ≤ K ∧ K ≤ 3) := by
  unfold decR
  split
  · exact .inl ⟨1, by omega, rfl⟩
  · cases h : decM K.toNat l with
    | error e => exact .inl ⟨e, dec_pos h, rfl⟩
    | ok ll => exact .inr ⟨ll, rfl, rfl, by omega, by omega⟩
set_option maxHeartbeats 8000000 in
theorem pathDecodes_walk (K : Int) (l : List Nat) (a : Option Addr) (c : Nat) (w : World) (hKb : -9223372036854775808 ≤ K ∧ K < 9223372036854775808) (hl : ∀ x ∈ l, x < 4294967296) (hlc : l.length ≤ c) (hcm : c ≤ maxLen) (hN : Nums .u32 w w.heap.size a l) :
    Calls Try.prog 3 #[.int .i64 K, .slice a l.length c] w fun e w' => e = .returned (.bool true) ∧ Below w.heap.size w w' := by
  have HLV := Lib.hid fun W => live9_any W
  have HC := Lib.hid code9_any
  by_cases hbig : l.length ≤ 400
  · have dg : decide ((400 : Int) < (l.length : Int)) = false := decide_eq_false (by omega)
    have hg : ¬ (400 : Int) < (l.length : Int) := by omega
    have HD := Lib.hid fun W (hb : Below w.heap.size w W) => decode_any K a c l W ((hN.below hb).more hb.size) hlc hcm (by omega) hl
    have HRD := Lib.hid fun W (hb : Below w.heap.size w W) => refDecode_any K a c l W ((hN.below hb).more hb.size) (by omega) hl
    rcases dec_cases K l with ⟨E, hE, hd⟩ | ⟨ll, hd, hdm, hk1, hk3⟩
    · rw [hd] at HD HRD
      have dE : ((E : Int) != 0) = true := by simp; omega
      have hE0 : ¬ E = 0 := hE
      obtain ⟨L, hL⟩ : ∃ z, z = l.length := ⟨_, rfl⟩
      rw [← hL] at HD HRD dg hg ⊢
      clear hN hl hlc hcm hbig hd hL hE
      go_enter Try.func3, Try.ntmps3
      go_wp2_with fail
      refine (HD.out _ (Below.refl _ _)).mono ?_
      rintro e W1 ⟨v1, rfl, hr1, hb1⟩
      have HR1 := Lib.hid hr1
      have HB1 := Lib.hid hb1
      clear hr1 hb1
      go_wp2_with fail
      refine (HRD.out _ HB1.out).mono ?_
      rintro e W2 ⟨v2, rfl, hr2, hb2⟩
      have HR2 := Lib.hid hr2
      have HR1 := Lib.hid ((HR1.out.below hb2).more hb2.size)
      have HB2 := Lib.hid (HB1.out.trans (hb2.mono HB1.out.size))
      clear hr2 hb2
      have hs := refSame_any v1 v2 ([] : List (List P2)) ([] : List (List P2)) W2 HR1.out HR2.out
      rw [decide_eq_true (rfl : ([] : List (List P2)) = ([] : List (List P2)))] at hs
      have HS := Lib.hid hs
      clear hs
      go_wp2_with fail
      refine HS.out.mono ?_
      rintro e W3 ⟨rfl, hb3⟩
      have HR1 := Lib.hid ((HR1.out.below hb3).more hb3.size)
      have HB3 := Lib.hid (HB2.out.trans (hb3.mono HB2.out.size))
      clear hb3 HS HR2
      go_wp2_with (go_at_call 10; refine (HC.out _ _).mono ?_; rintro e Z9 ⟨rfl, rfl⟩)
      refine (HLV.out _).mono ?_
      rintro e W9 ⟨rfl, hb9⟩
      have HF := Lib.hid (HB3.out.trans (hb9.mono HB3.out.size))
      clear hb9
      go_wp2_with fail
      go_ret
      exact ⟨rfl, HF.out⟩
    · rw [hd] at HD HRD
      obtain ⟨he, hll, hall, hright⟩ := dec_back (by omega) hdm
      have hKn : ((K.toNat : Nat) : Int) = K := by omega
      rw [hKn] at hright
      have HEn := Lib.hid fun u W (hu : RdPP W W.heap.size u ll) => encode_any K K.toNat hKn.symm u ll W hu (by omega) (fun b hb => ⟨(hall b hb).1, by have := (hall b hb).2.1; omega, (hall b hb).2.2⟩) hright hk3 (by rw [he]; omega)
      rw [he] at HEn
      have HSI := Lib.hid fun (b : Option Addr) (d : Nat) W (hb : Below w.heap.size w W) (hN2 : Nums .u32 W W.heap.size b l) => sameInts_eq b a d c l W hN2 ((hN.below hb).more hb.size) (by omega)
      obtain ⟨L, hL⟩ : ∃ z, z = l.length := ⟨_, rfl⟩
      have HL := Lib.hid hL
      rw [← hL] at HD HRD dg hg ⊢
      simp only [← hL] at HSI
      clear hN hl hlc hcm hbig hd hL he hll hall hright hKn hdm
      go_enter Try.func3, Try.ntmps3
      go_wp2_with fail
      refine (HD.out _ (Below.refl _ _)).mono ?_
      rintro e W1 ⟨v1, rfl, hr1, hb1⟩
      have HR1 := Lib.hid hr1
      have HB1 := Lib.hid hb1
      clear hr1 hb1
      go_wp2_with fail
      refine (HRD.out _ HB1.out).mono ?_
      rintro e W2 ⟨v2, rfl, hr2, hb2⟩
      have HR2 := Lib.hid hr2
      have HR1 := Lib.hid ((HR1.out.below hb2).more hb2.size)
      have HB2 := Lib.hid (HB1.out.trans (hb2.mono HB1.out.size))
      clear hr2 hb2
      have hs := refSame_any v1 v2 ll ll W2 HR1.out HR2.out
      rw [decide_eq_true (rfl : ll = ll)] at hs
      have HS := Lib.hid hs
      clear hs
      go_wp2_with fail
      refine HS.out.mono ?_
      rintro e W3 ⟨rfl, hb3⟩
      have HR1 := Lib.hid ((HR1.out.below hb3).more hb3.size)
      have HB3 := Lib.hid (HB2.out.trans (hb3.mono HB2.out.size))
      clear hb3 HS HR2
      go_wp2_with (go_at_call 10; refine (HC.out _ _).mono ?_; rintro e Z9 ⟨rfl, rfl⟩)
      refine (HEn.out _ _ HR1.out).mono ?_
      rintro e W4 ⟨v4, rfl, hO4, hb4⟩
      obtain ⟨a4, c4, rfl, _, _, _, hN4⟩ := hO4.nums
      have HB4 := Lib.hid (HB3.out.trans (hb4.mono HB3.out.size))
      have HS4 := Lib.hid (HSI.out a4 c4 W4 HB4.out hN4)
      rw [← HL.out]
      clear hO4 hb4 hN4 HEn HSI
      go_wp2_with (go_at_call 10; refine (HC.out _ _).mono ?_; rintro e Z9 ⟨rfl, rfl⟩)
      refine HS4.out.mono ?_
      rintro e W5 ⟨rfl, hb5⟩
      have HB5 := Lib.hid (HB4.out.trans (hb5.mono HB4.out.size))
      clear hb5 HS4
      go_wp2_with fail
      refine (HLV.out _).mono ?_
      rintro e W9 ⟨rfl, hb9⟩
      have HF := Lib.hid (HB5.out.trans (hb9.mono HB5.out.size))
      clear hb9
      go_wp2_with fail
      go_ret
      exact ⟨rfl, HF.out⟩
  · have dg : decide ((400 : Int) < (l.length : Int)) = true := decide_eq_true (by omega)
    have hg : (400 : Int) < (l.length : Int) := by omega
    have HB0 := Lib.hid (Below.refl w.heap.size w)
    obtain ⟨L, hL⟩ : ∃ z, z = l.length := ⟨_, rfl⟩
    rw [← hL] at dg hg ⊢
    clear hN hl hlc hcm hbig hL
    go_enter Try.func3, Try.ntmps3
    go_wp2_with fail
    refine (HLV.out _).mono ?_
    rintro e W9 ⟨rfl, hb9⟩
    have HF := Lib.hid (HB0.out.trans (hb9.mono HB0.out.size))
    clear hb9
    go_wp2_with fail
    go_ret
    exact ⟨rfl, HF.out⟩
end Go.Proofs.Ytohgdlhijgjdkaa
