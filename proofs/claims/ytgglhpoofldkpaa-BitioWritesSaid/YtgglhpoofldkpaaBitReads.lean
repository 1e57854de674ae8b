/- The statement BitioReads: the law's walk. -/
import Derived.Test.YtgglhpoofldkpaaBitRefRead
import Derived.Test.YtgglhpoofldkpaaActs
namespace Go.Proofs.Ytgglhpoofldkpaa
open Go.RowKit Bit
set_option linter.unusedVariables false
set_option maxRecDepth 100000

theorem rest_any (p : Nat) (w : World) (hp : p ≤ 100000) : Calls Try.prog 26 #[.int .i64 (p : Int)] w fun e w' => e = .returned (.int .i64 (((8 - p % 8) % 8 : Nat) : Int)) ∧ w = w' := by
  have h : Hid (((8 : Int) - (p : Int) % 8) % 8 = (((8 - p % 8) % 8 : Nat) : Int)) := by show _ = _; omega
  go_enter Try.func26, Try.ntmps26
  go_wp2_with fail
  go_ret
  exact ⟨ret_int h.out, rfl⟩

theorem at_any (g : Nat) (a : Option Addr) (c : Nat) (l : List Nat) (p : Nat) (w : World) (h : Rd w g a c l p) :
    Calls Try.prog 14 #[.pointer (some ⟨g, 0, none⟩)] w fun e w' => e = .returned (.int .i64 (p : Int)) ∧ w = w' := by
  have c1 : w.cell? ⟨g, 1, none⟩ = some (.int .i64 (p : Int)) := h.1.cell 1
  clear h
  go_enter Try.func14, Try.ntmps14
  go_wp2_with fail
  go_ret
  exact ⟨rfl, rfl⟩

def AlignPost (w : World) (g : Nat) (a : Option Addr) (c : Nat) (l : List Nat) (p k : Nat) (e : Ending) (w' : World) : Prop :=
  e = .returned (.int .i64 (k : Int)) ∧ Rd w' g a c l (p + k) ∧ Only (fun k => k = g) w w'
set_option maxHeartbeats 1000000 in
theorem ralign_any (g : Nat) (a : Option Addr) (c : Nat) (l : List Nat) (p k : Nat) (w : World) (h : Rd w g a c l p) (hp : p ≤ 100000) (hk : k = (8 - p % 8) % 8) :
    Calls Try.prog 10 #[.pointer (some ⟨g, 0, none⟩)] w (AlignPost w g a c l p k) := by
  have c1 : w.cell? ⟨g, 1, none⟩ = some (.int .i64 (p : Int)) := h.1.cell 1
  have f1 := h.1.frozen 1
  have hr := rest_any p w hp
  rw [← hk] at hr
  have Hr := Lib.hid hr
  have hk8 : k < 8 := by omega
  have H := Lib.hid h
  clear h hr hk
  go_enter Try.func10, Try.ntmps10
  go_wp2_with fail
  refine Hr.out.mono ?_
  rintro e W ⟨rfl, rfl⟩
  go_wp2_with fail
  go_ret
  exact ⟨rfl, H.out.step (p + k) _ (by simp), (Only.refl (fun k => k = g) w).setCell (fun _ => rfl) _⟩

theorem rbits_bad (g : Nat) (n : Int) (w : World) (h : n < 0 ∨ 32 < n) : Calls Try.prog 11 #[.pointer (some ⟨g, 0, none⟩), .int .i64 n] w fun e w' => e = .returned (.tuple #[.int .u32 0, .int .i64 1]) ∧ w = w' := by
  by_cases h0 : n < 0
  · clear h
    go_enter Try.func11, Try.ntmps11
    go_wp2_with fail
    go_ret2
    exact ⟨rfl, rfl⟩
  · have h1 : 32 < n := by omega
    clear h
    go_enter Try.func11, Try.ntmps11
    go_wp2_with fail
    go_ret2
    exact ⟨rfl, rfl⟩

theorem rbits_short (g : Nat) (a : Option Addr) (c : Nat) (l : List Nat) (p m : Nat) (w : World) (h : Rd w g a c l p) (hl : l.length ≤ 1000000) (hm : m ≤ 32) (hp : p ≤ 8 * l.length) (hs : 8 * l.length - p < m) :
    Calls Try.prog 11 #[.pointer (some ⟨g, 0, none⟩), .int .i64 (m : Int)] w fun e w' => e = .returned (.tuple #[.int .u32 0, .int .i64 2]) ∧ Below w.heap.size w w' := by
  have Hleft := Lib.hid (left_any g a c l p w h hl hp)
  clear h hp
  go_enter Try.func11, Try.ntmps11
  go_wp2_with fail
  refine Hleft.out.mono ?_
  rintro e W ⟨rfl, hb⟩
  have Hb := Lib.hid hb
  clear hb
  go_wp2_with fail
  go_ret2
  exact ⟨rfl, Hb.out⟩

set_option maxHeartbeats 8000000 in
theorem bitioReads_walk (w : World) (a0 : Option Addr) (c0 : Nat) (l : List Nat) (hn : Nums .u8 w w.heap.size a0 l) (hd : ∀ x ∈ l, x < 256) (hlc : l.length ≤ c0) (hz : a0 = none → c0 = 0 ∧ l = []) (hl : l.length ≤ 300)
    (a : Option Addr) (L c : Nat) (f : Nat → Int × Nat × Int) (hA : Acts w w.heap.size a L f) (hLc : L ≤ c) (hL : L ≤ 200) :
    Calls Try.prog 3 #[.slice a0 l.length c0, .slice a L c] w fun e w' => e = .returned (.bool true) ∧ Below w.heap.size w w' := by
  have HA := Lib.hid hA
  have hnr := Lib.hid (newReader_any a0 c0 l w hn (by omega) hz)
  have hrb := Lib.hid fun W (hb : Below w.heap.size w W) => refBits_any a0 c0 l W ((hn.below hb).more hb.size) (by omega) hd
  have Hd := Lib.hid hd
  clear hA hn hz hd
  obtain ⟨T, hT⟩ : ∃ T, T = 8 * l.length := ⟨_, rfl⟩
  obtain ⟨n0, hn0⟩ : ∃ n0, n0 = l.length := ⟨_, rfl⟩
  rw [← hn0] at hl hlc ⊢
  rw [← hT, ← hn0] at hrb
  rw [← hn0] at hnr
  have HT := Lib.hid hT
  have Hn0 := Lib.hid hn0
  have hT300 : T ≤ 2400 := by omega
  clear hT hn0
  go_enter Try.func3, Try.ntmps3
  go_wp2_with fail
  refine hnr.out.mono ?_
  rintro e W1 ⟨g, a1, c1, rfl, hR, hg, hb1⟩
  have HR1 := Lib.hid hR
  have Hg := Lib.hid hg
  have HB1 := Lib.hid hb1
  clear hR hg hb1
  go_wp2_with fail
  refine (hrb.out W1 HB1.out).mono ?_
  rintro e W2 ⟨vb, rfl, hob, hb2⟩
  have HR2 := Lib.hid (HR1.out.below hb2)
  have HB2 := Lib.hid (keepBelow hb2 HB1.out)
  have hgW : g < W1.heap.size := HR1.out.1.lt
  have hnoneb : vb.ownBlock = none → vb = .slice none 0 0 ∧ T = 0 := by
    intro e
    obtain ⟨hl', (⟨e', h0⟩ | ⟨k, cap, cur, rfl, _⟩)⟩ := hob
    · exact ⟨e', h0⟩
    · cases e
  have hbb : ∀ k, vb.ownBlock = some k → W1.heap.size ≤ k := fun k hk => by
    obtain ⟨_, (⟨e', h0⟩ | ⟨k', cap, cur, rfl, hk', _⟩)⟩ := hob
    · rw [e'] at hk; cases hk
    · simp [Value.ownBlock] at hk; omega
  obtain ⟨ab, cb, rfl, hTc, _, hV⟩ := Vals.of_own hob
  have hab : ∀ x, ab = some x → x.block ≠ g := fun x hx => by
    subst hx
    have := hbb x.block (by
      obtain ⟨_, (⟨e', h0⟩ | ⟨k', cap, cur, e', hk', _⟩)⟩ := hob
      · cases e'
      · injection e' with e1 e2 e3; injection e1 with e1; subst e1; rfl)
    omega
  have HV : Hid (∀ i, i < T → ∃ b off, ab = some ⟨b, off, none⟩ ∧ b < W2.heap.size ∧ b ≠ g ∧ W2.cell? ⟨b, off + i, none⟩ = some (.bool (bitOf l i == 1))) := fun i hi => by
    have hlen : (bools (bitsFrom l 0 T)).length = T := by simp [bools, bitsFrom_length]
    obtain ⟨b, off, rfl, hbl, hcell⟩ := hV.2 (by omega)
    refine ⟨b, off, rfl, hbl, hab _ rfl, ?_⟩
    rw [hcell i (by omega)]
    simp [bools, bitsFrom_get l 0 T i hi]
  have Hnone := Lib.hid hnoneb
  clear hob hb2 hbb hV hab hnoneb hnr hrb
  go_wp2_with fail
  go_loopw [7, 8] (fun q i W => ∃ i' p : Nat, i' ≤ L ∧ i = .int .i64 (i' : Int) ∧ q = .int .i64 (p : Int) ∧ p ≤ T ∧ Hid (Rd W g a1 c1 l p) ∧ Hid (Only (fun k => k = g) W2 W)) (fun _ i _ => L - (intOf i).toNat)
  case atStart => exact ⟨0, 0, Nat.zero_le _, rfl, rfl, Nat.zero_le _, HR2.out, Only.refl _ _⟩
  case round =>
    obtain ⟨i, p, hi, rfl, rfl, hpT, hRd, hO⟩ := hrel
    have HB : Hid (Below w.heap.size w wr) := hO.out.belowOf HB2.out (fun b e => by have := Hg.out; omega) HB2.out.size
    by_cases hlt : i < L
    · obtain ⟨b, off, rfl, hbl, e0, e1, e2, hV, hc1, hc2⟩ := HA.out i hlt
      replace e0 := (HB.out.cell (p := ⟨b, off + i * 3, none⟩) hbl).trans e0
      replace e2 := (HB.out.cell (p := ⟨b, off + i * 3 + 2, none⟩) hbl).trans e2
      have hk0 : (0 : Int) ≤ (i : Int) := by omega
      have hk1 : (i : Int) < (L : Int) := by omega
      generalize hdo : (f i).1 = do_ at *
      generalize hcc : (f i).2.2 = cc at *
      clear e1 hdo hcc hbl hV
      by_cases h2 : do_ = 2
      · subst h2
        obtain ⟨k, hk⟩ : ∃ k, k = (8 - p % 8) % 8 := ⟨_, rfl⟩
        have hal := Lib.hid (ralign_any g a1 c1 l p k wr hRd.out (by omega) hk)
        have hki : ((8 : Int) - (p : Int) % 8) % 8 = (k : Int) := by omega
        have hki2 : -((p : Int) % 8) % 8 = (k : Int) := by omega
        obtain ⟨q, hq⟩ : ∃ q, q = p + k := ⟨_, rfl⟩
        have hqi : (p : Int) + (k : Int) = (q : Int) := by omega
        have hqT : q ≤ T := by have := HT.out; omega
        have hk8 : k < 8 := by omega
        have Hq := Lib.hid hq
        have HO := Lib.hid hO.out
        clear hk hq hRd hO HB
        go_wp2_with fail
        refine hal.out.mono ?_
        rintro e X ⟨rfl, hRx, hOx⟩
        rw [← Hq.out] at hRx
        have HRX := Lib.hid hRx
        have HOX : Hid (Only (fun k => k = g) W2 X) := HO.out.trans hOx (fun _ _ h => h)
        clear hRx hOx hal
        have hat := Lib.hid (at_any g a1 c1 l q X HRX.out)
        have hlf := left_any g a1 c1 l q X HRX.out (by have := Hn0.out; omega) (by have := HT.out; omega)
        have hzT : 8 * l.length - q = T - q := by have := HT.out; omega
        rw [hzT] at hlf
        obtain ⟨z, hz⟩ : ∃ z, z = T - q := ⟨_, rfl⟩
        rw [← hz] at hlf
        have hzi : (T : Int) - (q : Int) = (z : Int) := by omega
        have Hlf := Lib.hid hlf
        have hzl : z ≤ 2400 := by omega
        have HqT : Hid (q ≤ T) := hqT
        clear hlf hz hzT
        go_wp2_with (first | (go_at_call 13; refine (code_any _ _).mono ?_; rintro e w' ⟨rfl, rfl⟩))
        ((with_reducible refine hat.out.mono ?_))
        rintro e Xa ⟨rfl, rfl⟩
        go_wp2_with fail
        ((with_reducible refine Hlf.out.mono ?_))
        rintro e Xb ⟨rfl, hbx⟩
        have HRb := Lib.hid (HRX.out.below hbx)
        have HOb : Hid (Only (fun k => k = g) W2 Xb) := HOX.out.trans (Only.of_below hbx (fun k => k = g)) (fun _ _ h => h)
        clear hbx
        go_wp2_with fail
        go_roundw
        case rel => exact ⟨i + 1, q, hlt, by go_num, rfl, HqT.out, HRb.out, HOb.out⟩
        case measure => simp [intOf] <;> omega

      · have hd2 : (do_ == 2) = false := by simpa using h2
        clear h2
        by_cases hbad : cc < 0 ∨ 32 < cc
        · have hbb := Lib.hid (rbits_bad g cc wr hbad)
          have HRX := Lib.hid hRd.out
          have HOX := Lib.hid hO.out
          clear hRd hO
          by_cases hneg : cc < 0
          · clear hbad
            go_wp2_with fail
            refine hbb.out.mono ?_
            rintro e Xz ⟨rfl, rfl⟩
            have hat := Lib.hid (at_any g a1 c1 l p wr HRX.out)
            have hlf := left_any g a1 c1 l p wr HRX.out (by have := Hn0.out; omega) (by have := HT.out; omega)
            have hzT : 8 * l.length - p = T - p := by have := HT.out; omega
            rw [hzT] at hlf
            obtain ⟨z, hz⟩ : ∃ z, z = T - p := ⟨_, rfl⟩
            rw [← hz] at hlf
            have hzi : (T : Int) - (p : Int) = (z : Int) := by omega
            have Hlf := Lib.hid hlf
            have hzl : z ≤ 2400 := by omega
            have HqT : Hid (p ≤ T) := hpT
            clear hlf hz hzT
            go_wp2_with (first | (go_at_call 13; refine (code_any _ _).mono ?_; rintro e w' ⟨rfl, rfl⟩))
            ((with_reducible refine hat.out.mono ?_))
            rintro e Xa ⟨rfl, rfl⟩
            go_wp2_with fail
            ((with_reducible refine Hlf.out.mono ?_))
            rintro e Xb ⟨rfl, hbx⟩
            have HRb := Lib.hid (HRX.out.below hbx)
            have HOb : Hid (Only (fun k => k = g) W2 Xb) := HOX.out.trans (Only.of_below hbx (fun k => k = g)) (fun _ _ h => h)
            clear hbx
            go_wp2_with fail
            go_roundw
            case rel => exact ⟨i + 1, p, hlt, by go_num, rfl, HqT.out, HRb.out, HOb.out⟩
            case measure => simp [intOf] <;> omega

          · have h32 : 32 < cc := by omega
            clear hbad
            go_wp2_with fail
            refine hbb.out.mono ?_
            rintro e Xz ⟨rfl, rfl⟩
            have hat := Lib.hid (at_any g a1 c1 l p wr HRX.out)
            have hlf := left_any g a1 c1 l p wr HRX.out (by have := Hn0.out; omega) (by have := HT.out; omega)
            have hzT : 8 * l.length - p = T - p := by have := HT.out; omega
            rw [hzT] at hlf
            obtain ⟨z, hz⟩ : ∃ z, z = T - p := ⟨_, rfl⟩
            rw [← hz] at hlf
            have hzi : (T : Int) - (p : Int) = (z : Int) := by omega
            have Hlf := Lib.hid hlf
            have hzl : z ≤ 2400 := by omega
            have HqT : Hid (p ≤ T) := hpT
            clear hlf hz hzT
            go_wp2_with (first | (go_at_call 13; refine (code_any _ _).mono ?_; rintro e w' ⟨rfl, rfl⟩))
            ((with_reducible refine hat.out.mono ?_))
            rintro e Xa ⟨rfl, rfl⟩
            go_wp2_with fail
            ((with_reducible refine Hlf.out.mono ?_))
            rintro e Xb ⟨rfl, hbx⟩
            have HRb := Lib.hid (HRX.out.below hbx)
            have HOb : Hid (Only (fun k => k = g) W2 Xb) := HOX.out.trans (Only.of_below hbx (fun k => k = g)) (fun _ _ h => h)
            clear hbx
            go_wp2_with fail
            go_roundw
            case rel => exact ⟨i + 1, p, hlt, by go_num, rfl, HqT.out, HRb.out, HOb.out⟩
            case measure => simp [intOf] <;> omega

        · obtain ⟨m, hm⟩ : ∃ m : Nat, cc = (m : Int) := ⟨cc.toNat, by omega⟩
          subst hm
          have hm32 : m ≤ 32 := by omega
          clear hbad hc1 hc2
          by_cases hsh : T - p < m
          · have hbs := Lib.hid (rbits_short g a1 c1 l p m wr hRd.out (by have := Hn0.out; omega) hm32 (by have := HT.out; omega) (by have := HT.out; omega))
            have hshi : (T : Int) - (p : Int) < (m : Int) := by omega
            clear hsh
            go_wp2_with fail
            refine hbs.out.mono ?_
            rintro e X ⟨rfl, hbx0⟩
            have HRX := Lib.hid (hRd.out.below hbx0)
            have HOX : Hid (Only (fun k => k = g) W2 X) := hO.out.trans (Only.of_below hbx0 (fun k => k = g)) (fun _ _ h => h)
            clear hbx0 hRd hO HB hbs
            have hat := Lib.hid (at_any g a1 c1 l p X HRX.out)
            have hlf := left_any g a1 c1 l p X HRX.out (by have := Hn0.out; omega) (by have := HT.out; omega)
            have hzT : 8 * l.length - p = T - p := by have := HT.out; omega
            rw [hzT] at hlf
            obtain ⟨z, hz⟩ : ∃ z, z = T - p := ⟨_, rfl⟩
            rw [← hz] at hlf
            have hzi : (T : Int) - (p : Int) = (z : Int) := by omega
            have Hlf := Lib.hid hlf
            have hzl : z ≤ 2400 := by omega
            have HqT : Hid (p ≤ T) := hpT
            clear hlf hz hzT
            go_wp2_with (first | (go_at_call 13; refine (code_any _ _).mono ?_; rintro e w' ⟨rfl, rfl⟩))
            ((with_reducible refine hat.out.mono ?_))
            rintro e Xa ⟨rfl, rfl⟩
            go_wp2_with fail
            ((with_reducible refine Hlf.out.mono ?_))
            rintro e Xb ⟨rfl, hbx⟩
            have HRb := Lib.hid (HRX.out.below hbx)
            have HOb : Hid (Only (fun k => k = g) W2 Xb) := HOX.out.trans (Only.of_below hbx (fun k => k = g)) (fun _ _ h => h)
            clear hbx
            go_wp2_with fail
            go_roundw
            case rel => exact ⟨i + 1, p, hlt, by go_num, rfl, HqT.out, HRb.out, HOb.out⟩
            case measure => simp [intOf] <;> omega

          · have hbi := Lib.hid (bits_any g a1 c1 l p m wr hRd.out (by have := Hn0.out; omega) Hd.out hm32 (by have := HT.out; omega))
            have hpm : p + m ≤ T := by omega
            have hshi : ¬ ((T : Int) - (p : Int) < (m : Int)) := by omega
            clear hsh
            go_wp2_with fail
            refine hbi.out.mono ?_
            rintro e X ⟨rfl, hRx, hOx⟩
            have HRX := Lib.hid hRx
            have HOX : Hid (Only (fun k => k = g) W2 X) := hO.out.trans hOx (fun _ _ h => h)
            clear hRx hOx hbi hRd hO HB
            obtain ⟨q, hq⟩ : ∃ q, q = p + m := ⟨_, rfl⟩
            have hqi : (p : Int) + (m : Int) = (q : Int) := by omega
            have hqT : q ≤ T := by omega
            have hqm : q - p = m := by omega
            replace HRX : Hid (Rd X g a1 c1 l q) := by rw [hq]; exact HRX.out
            have Hnum : Hid (∀ a' c' Y, Vals Y Y.heap.size 1 a' m (bools (bitsFrom l p m)) → Calls Try.prog 12 #[.slice a' m c'] Y fun e w' => e = .returned (.int .u32 ((valOf l p m : Nat) : Int)) ∧ Y = w') := fun a' c' Y hY => by
              have := refNumber_any (bitsFrom l p m) a' c' Y (by rw [bitsFrom_length]; exact hY) (by rw [bitsFrom_length]; exact hm32)
              rw [bitsFrom_length, num_bits] at this
              exact this
            have HVX : Hid (0 < m → ∃ b2 off2, Option.map (fun x => x.add p) ab = some ⟨b2, off2, none⟩ ∧ b2 < X.heap.size ∧ ∀ i, i < m → X.cell? ⟨b2, off2 + i, none⟩ = some (.bool (bitOf l (p + i) == 1))) := fun hm0 => by
              obtain ⟨b2, off2, hab, _, _, _⟩ := HV.out p (by omega)
              subst hab
              have hall : ∀ i, i < m → b2 < W2.heap.size ∧ b2 ≠ g ∧ W2.cell? ⟨b2, off2 + (p + i), none⟩ = some (.bool (bitOf l (p + i) == 1)) := fun i hi => by
                obtain ⟨b3, off3, e3, h3, h4, h5⟩ := HV.out (p + i) (by omega)
                injection e3 with e3
                injection e3 with e4 e5
                subst e4 e5
                exact ⟨h3, h4, h5⟩
              obtain ⟨hb2, _, _⟩ := hall 0 hm0
              refine ⟨b2, off2 + p, by simp [add_none], Nat.lt_of_lt_of_le hb2 HOX.out.size, fun i hi => ?_⟩
              obtain ⟨h3, h4, h5⟩ := hall i hi
              rw [Nat.add_assoc, ← h5]
              exact HOX.out.cell h3 h4
            have hlenb : (bools (bitsFrom l p m)).length = m * 1 := by simp [bools, bitsFrom_length]
            have hVals : Hid (Vals X X.heap.size 1 (Option.map (fun x => x.add p) ab) m (bools (bitsFrom l p m))) := by
              refine ⟨hlenb, fun hpos => ?_⟩
              obtain ⟨b2, off2, e2, h3, h4⟩ := HVX.out (by omega)
              refine ⟨b2, off2, e2, h3, fun i hi => ?_⟩
              rw [h4 i (by omega)]
              simp [bools, bitsFrom_get l p m i (by omega)]
            have hVals0 : Hid (cb = p → Vals X X.heap.size 1 ab m (bools (bitsFrom l p m))) := fun e => by
              have : m = 0 := by omega
              subst this
              exact ⟨hlenb, fun h => by omega⟩
            clear hq hlenb HVX
            by_cases hcp : cb = p
            · have hv0 := Lib.hid (hVals0.out hcp)
              clear hVals hVals0
              subst hcp
              go_wp2_with fail
              ((with_reducible refine (Hnum.out _ _ _ hv0.out).mono ?_))
              rintro e Xn ⟨rfl, rfl⟩
              have hat := Lib.hid (at_any g a1 c1 l q X HRX.out)
              have hlf := left_any g a1 c1 l q X HRX.out (by have := Hn0.out; omega) (by have := HT.out; omega)
              have hzT : 8 * l.length - q = T - q := by have := HT.out; omega
              rw [hzT] at hlf
              obtain ⟨z, hz⟩ : ∃ z, z = T - q := ⟨_, rfl⟩
              rw [← hz] at hlf
              have hzi : (T : Int) - (q : Int) = (z : Int) := by omega
              have Hlf := Lib.hid hlf
              have hzl : z ≤ 2400 := by omega
              have HqT : Hid (q ≤ T) := hqT
              clear hlf hz hzT
              go_wp2_with (first | (go_at_call 13; refine (code_any _ _).mono ?_; rintro e w' ⟨rfl, rfl⟩))
              ((with_reducible refine hat.out.mono ?_))
              rintro e Xa ⟨rfl, rfl⟩
              go_wp2_with fail
              ((with_reducible refine Hlf.out.mono ?_))
              rintro e Xb ⟨rfl, hbx⟩
              have HRb := Lib.hid (HRX.out.below hbx)
              have HOb : Hid (Only (fun k => k = g) W2 Xb) := HOX.out.trans (Only.of_below hbx (fun k => k = g)) (fun _ _ h => h)
              clear hbx
              go_wp2_with fail
              go_roundw
              case rel => exact ⟨i + 1, q, hlt, by go_num, rfl, HqT.out, HRb.out, HOb.out⟩
              case measure => simp [intOf] <;> omega

            · clear hVals0
              go_wp2_with fail
              ((with_reducible refine (Hnum.out _ _ _ hVals.out).mono ?_))
              rintro e Xn ⟨rfl, rfl⟩
              have hat := Lib.hid (at_any g a1 c1 l q X HRX.out)
              have hlf := left_any g a1 c1 l q X HRX.out (by have := Hn0.out; omega) (by have := HT.out; omega)
              have hzT : 8 * l.length - q = T - q := by have := HT.out; omega
              rw [hzT] at hlf
              obtain ⟨z, hz⟩ : ∃ z, z = T - q := ⟨_, rfl⟩
              rw [← hz] at hlf
              have hzi : (T : Int) - (q : Int) = (z : Int) := by omega
              have Hlf := Lib.hid hlf
              have hzl : z ≤ 2400 := by omega
              have HqT : Hid (q ≤ T) := hqT
              clear hlf hz hzT
              go_wp2_with (first | (go_at_call 13; refine (code_any _ _).mono ?_; rintro e w' ⟨rfl, rfl⟩))
              ((with_reducible refine hat.out.mono ?_))
              rintro e Xa ⟨rfl, rfl⟩
              go_wp2_with fail
              ((with_reducible refine Hlf.out.mono ?_))
              rintro e Xb ⟨rfl, hbx⟩
              have HRb := Lib.hid (HRX.out.below hbx)
              have HOb : Hid (Only (fun k => k = g) W2 Xb) := HOX.out.trans (Only.of_below hbx (fun k => k = g)) (fun _ _ h => h)
              clear hbx
              go_wp2_with fail
              go_roundw
              case rel => exact ⟨i + 1, q, hlt, by go_num, rfl, HqT.out, HRb.out, HOb.out⟩
              case measure => simp [intOf] <;> omega
    · obtain rfl : i = L := by omega
      have HBw := Lib.hid HB.out
      clear hRd hO HB
      go_wp2_with fail
      refine (live_any _).mono ?_
      rintro e Z ⟨rfl, hbz⟩
      go_wp2_with fail
      go_ret
      exact ⟨rfl, keepBelow hbz HBw.out⟩

theorem bitioReads_row (l : List Nat) (a0 : Option Addr) (c0 : Nat) (u : Value) (w : World) (hx : ∀ x ∈ l, x < 256) (hlc : l.length ≤ c0) (hcm : c0 ≤ maxLen) (hn : Nums .u8 w w.heap.size a0 l) (hz : a0 = none → c0 = 0)
    (h : ∃ (a : Option Addr) (L c : Nat) (f : Nat → Int × Nat × Int), u = .slice a L c ∧ L ≤ c ∧ c ≤ maxLen ∧ (a = none → c = 0) ∧ Acts w w.heap.size a L f) :
    Calls Try.prog 3 #[.slice a0 l.length c0, u] w fun e w' => e = .returned (.bool true) ∧ Below w.heap.size w w' := by
  obtain ⟨a, L, c, f, rfl, hLc, hcm2, _, hA⟩ := h
  by_cases hl : l.length ≤ 300
  · by_cases hL : L ≤ 200
    · exact bitioReads_walk w a0 c0 l hn hx hlc (fun e => ⟨hz e, by have := hz e; exact List.eq_nil_of_length_eq_zero (by omega)⟩) hl a L c f hA hLc hL
    · have h1 : decide (300 < (l.length : Int)) = false := by simp; omega
      have h2 : decide (200 < (L : Int)) = true := by simp; omega
      have h3 : ¬ 300 < l.length := by omega
      have h4 : 200 < L := by omega
      clear hA hL hl hLc hcm hcm2 hx hlc hn hz
      generalize l.length = n0 at *
      go_enter Try.func3, Try.ntmps3
      go_wp2_with fail
      refine (live_any _).mono ?_
      rintro e Z ⟨rfl, hbz⟩
      go_wp2_with fail
      go_ret
      exact ⟨rfl, hbz⟩
  · have h1 : decide (300 < (l.length : Int)) = true := by simp; omega
    have h3 : 300 < l.length := by omega
    clear hA hl hLc hcm hcm2 hx hlc hn hz
    generalize l.length = n0 at *
    go_enter Try.func3, Try.ntmps3
    go_wp2_with fail
    refine (live_any _).mono ?_
    rintro e Z ⟨rfl, hbz⟩
    go_wp2_with fail
    go_ret
    exact ⟨rfl, hbz⟩
end Go.Proofs.Ytgglhpoofldkpaa
