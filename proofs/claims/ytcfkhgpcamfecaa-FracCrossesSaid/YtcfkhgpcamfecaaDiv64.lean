/- bits.Div64, for all words. -/
import Derived.Test.YtcfkhgpcamfecaaWide
import Derived.Test.YtcfkhgpcamfecaaLead64
import Derived.Test.YtcfkhgpcamfecaaDivMath
import Derived.Laws.BitsAllLaws
import Derived.Laws.BitsLemmas
import Derived.Outline
import Derived.Deep.DeepCutAuto
import Derived.Deep.CutBlock
namespace Go.Proofs.Ytcfkhgpcamfecaa
open Go.RowKit Big
set_option linter.unusedVariables false
set_option maxRecDepth 100000

theorem mask_low (x : Nat) (hx : x < 18446744073709551616) : bits .and .u64 (x : Int) 4294967295 = ((x % 4294967296 : Nat) : Int) := by
  have h : x &&& 4294967295 = x % 4294967296 := Nat.and_two_pow_sub_one_eq_mod x 32
  rw [show (4294967295 : Int) = ((4294967295 : Nat) : Int) from rfl, u64_and_nat x 4294967295 hx (by omega), h]
theorem or_disjoint (a b s : Nat) (hb : b < 2 ^ s) (h : a * 2 ^ s + b < 18446744073709551616) : bits .or .u64 ((a * 2 ^ s : Nat) : Int) (b : Int) = ((a * 2 ^ s + b : Nat) : Int) := by
  have e := Nat.two_pow_add_eq_or_of_lt hb a
  rw [u64_or_nat _ _ (by omega) (by omega), Nat.mul_comm a, ← e]
theorem wrap_mod (x : Int) : IntKind.u64.wrap x = x % 18446744073709551616 := by
  simp [IntKind.wrap, IntKind.bits, IntKind.signed]
theorem wrap_nat (x : Nat) : IntKind.u64.wrap (x : Int) = ((x % 18446744073709551616 : Nat) : Int) := by
  simp [IntKind.wrap, IntKind.bits, IntKind.signed]

set_option maxHeartbeats 4000000 in
theorem div64_high (hi lo y : Nat) (w : World) (hy0 : 0 < hi) (hy : hi < y) (hl : lo < 18446744073709551616) (hyl : y < 18446744073709551616) :
    Calls Try.prog 49 #[.int .u64 (hi : Int), .int .u64 (lo : Int), .int .u64 (y : Int)] w
      fun e w' => e = .returned (.tuple #[.int .u64 (((hi * 18446744073709551616 + lo) / y : Nat) : Int), .int .u64 (((hi * 18446744073709551616 + lo) % y : Nat) : Int)]) ∧ Below w.heap.size w w' := by
  obtain ⟨s, hs, h63, h64, hlz⟩ := lead_any y (by omega) hyl
  have Hlz := Lib.hid hlz
  have h1 : ((y : Int) == 0) = false := by simp; omega
  have h2 : ¬ ((y : Int) ≤ (hi : Int)) := by omega
  have h3 : ((hi : Int) == 0) = false := by simp; omega
  have hparts := Div.shift_parts hi lo s (by omega)
  have hhigh := Div.high_lt hi lo y s (by omega) hl hy
  have hlow := Div.low_lt lo s (by omega) hl
  obtain ⟨hq, hr⟩ := Div.unshift (hi * 18446744073709551616 + lo) y s
  rw [← hparts] at hq hr
  have hA4 : Hid (bits .or .u64 (IntKind.u64.wrap ((hi : Int) * 2 ^ s)) ((lo : Int) / 2 ^ (64 - s)) = ((hi * 2 ^ s + lo / 2 ^ (64 - s) : Nat) : Int)) := by
    show _ = _
    rw [show ((hi : Int) * 2 ^ s) = ((hi * 2 ^ s : Nat) : Int) by simp, wrap_nat, Nat.mod_eq_of_lt (Nat.lt_of_le_of_lt (Nat.le_add_right _ _) (Nat.lt_trans hhigh h64)), show ((lo : Int) / 2 ^ (64 - s)) = ((lo / 2 ^ (64 - s) : Nat) : Int) by simp]
    exact or_disjoint hi _ s hlow (Nat.lt_trans hhigh h64)
  have hA1 : Hid (IntKind.u64.wrap ((y : Int) * 2 ^ s) = ((y * 2 ^ s : Nat) : Int)) := by
    show _ = _
    rw [show ((y : Int) * 2 ^ s) = ((y * 2 ^ s : Nat) : Int) by simp, wrap_nat, Nat.mod_eq_of_lt (by omega)]
  have hA5 : Hid (IntKind.u64.wrap ((lo : Int) * 2 ^ s) = ((lo * 2 ^ s % 18446744073709551616 : Nat) : Int)) := by
    show _ = _
    rw [show ((lo : Int) * 2 ^ s) = ((lo * 2 ^ s : Nat) : Int) by simp, wrap_nat]
  have hvl := Nat.mod_lt (lo * 2 ^ s) (show 0 < 18446744073709551616 by omega)
  generalize hi * 2 ^ s + lo / 2 ^ (64 - s) = u at *
  generalize y * 2 ^ s = Y at *
  generalize lo * 2 ^ s % 18446744073709551616 = v at *
  rw [← hq, ← hr]
  obtain ⟨y1, hy1⟩ : ∃ y1, y1 = Y / 4294967296 := ⟨_, rfl⟩
  obtain ⟨y00, hy00⟩ : ∃ y00, y00 = Y % 4294967296 := ⟨_, rfl⟩
  obtain ⟨d1, hd1⟩ : ∃ d1, d1 = v / 4294967296 := ⟨_, rfl⟩
  obtain ⟨d0, hd0⟩ : ∃ d0, d0 = v % 4294967296 := ⟨_, rfl⟩
  have HA2 : Hid ((Y : Int) / 4294967296 = (y1 : Int)) := by show _ = _; omega
  have HA3 : Hid (bits .and .u64 (Y : Int) 4294967295 = (y00 : Int)) := by show _ = _; rw [mask_low Y h64, hy00]
  have HA6 : Hid ((v : Int) / 4294967296 = (d1 : Int)) := by show _ = _; omega
  have HA7 : Hid (bits .and .u64 (v : Int) 4294967295 = (d0 : Int)) := by show _ = _; rw [mask_low v hvl, hd0]
  have hYe : Hid (Y = y1 * 4294967296 + y00) := by show _ = _; omega
  have hve : Hid (v = d1 * 4294967296 + d0) := by show _ = _; omega
  have hy1a : Hid (2147483648 ≤ y1) := by show _ ≤ _; omega
  have hy1b : y1 < 4294967296 := by omega
  have hy0b : y00 < 4294967296 := by omega
  have hd1b : d1 < 4294967296 := by omega
  have hd0b : d0 < 4294967296 := by omega
  have HU := Lib.hid hhigh
  have hub : u < 18446744073709551616 := by omega
  have Hpos : Hid (0 < y1) := by show 0 < _; omega
  clear hlz h63 hparts hhigh hlow hq hr hy1 hy00 hd1 hd0 hvl
  go_enter Try.func49, Try.ntmps49
  go_wp2_with fail
  refine (Hlz.out _).mono ?_
  rintro e W1 ⟨rfl, rfl⟩
  go_upto_region 15 with (fail)
  rw [hA4.out, hA1.out, hA5.out, HA2.out, HA3.out, HA6.out, HA7.out]
  clear hA1 hA4 hA5 Hlz h1 h2 h3
  have hpos := Hpos.out
  have hB1 : Hid (IntKind.u64.wrap ((u : Int) / (y1 : Int)) = ((u / y1 : Nat) : Int)) := by
    show _ = _
    have h1 : u / y1 ≤ u := Nat.div_le_self _ _
    rw [show ((u : Int) / (y1 : Int)) = ((u / y1 : Nat) : Int) by simp, wrap_nat, Nat.mod_eq_of_lt (by omega)]
  have hB2 : Hid (IntKind.u64.wrap ((u : Int) - IntKind.u64.wrap (((u / y1 : Nat) : Int) * (y1 : Int))) = ((u % y1 : Nat) : Int)) := by
    show _ = _
    have e := Nat.div_add_mod u y1
    rw [← Int.natCast_mul, Nat.mul_comm, wrap_nat, Nat.mod_eq_of_lt (by omega), show (u : Int) - ((y1 * (u / y1) : Nat) : Int) = ((u % y1 : Nat) : Int) by omega, wrap_nat, Nat.mod_eq_of_lt (by omega)]
  have hinv := Lib.hid (Div.start hy1a.out hy1b hy0b (by rw [← hYe.out]; exact HU.out) hd1b)
  go_upto_block 0 with (fail)
  rw [hB1.out, hB2.out]
  clear hB1 hB2
  generalize u / y1 = q0 at *
  generalize u % y1 = r0 at *
  obtain ⟨Q1, hQ1⟩ : ∃ Q1, Q1 = (u * 4294967296 + d1) / Y := ⟨_, rfl⟩
  have HQ1 := Lib.hid hQ1
  have HAU := HU
  have hQ1l : Q1 < 4294967296 := by rw [hQ1, hYe.out]; exact Div.true_lt (by rw [← hYe.out]; exact HU.out) hd1b
  clear hQ1
  go_cut [15, 16] from 67 to 85 (fun q r W => q = .int .u64 (Q1 : Int) ∧ W = W1)
  case first =>
    go_wp2_with fail
    go_loop [15, 16] (fun x z => ∃ q r : Nat, x = .int .u64 (q : Int) ∧ z = .int .u64 (r : Int) ∧ Hid (Div.Inv u d1 y1 y00 q r)) (fun x _ => (intOf x).toNat)
    case atStart => exact ⟨_, _, rfl, rfl, hinv⟩
    case round =>
      obtain ⟨q, r, rfl, rfl, hi⟩ := hrel
      have hr := hi.out.rest
      have hq := hi.out.small
      have Hdn : Hid (4294967296 ≤ q ∨ 4294967296 * r + d1 < q * y00 → 0 < q) := fun h => (Div.down hi.out (by rw [← hYe.out]; exact HAU.out) hd1b h).1
      have Hbr : Hid ((4294967296 ≤ q ∨ 4294967296 * r + d1 < q * y00) → 4294967296 ≤ r + y1 → ((q : Int) - 1) = (Q1 : Int)) := fun h h2 => by
        have h3 := Div.broke hi.out (by rw [← hYe.out]; exact HAU.out) hd1b hy0b h h2
        have h4 := Hdn.out h
        rw [← hYe.out, ← HQ1.out] at h3
        omega
      have Hst : Hid ((4294967296 ≤ q ∨ 4294967296 * r + d1 < q * y00) → r + y1 < 4294967296 → Div.Inv u d1 y1 y00 (q - 1) (r + y1)) := fun h h2 => Div.step hi.out (by rw [← hYe.out]; exact HAU.out) hd1b h h2
      have Hdo : Hid (q * y00 ≤ 4294967296 * r + d1 → (q : Int) = (Q1 : Int)) := fun h => by
        have h3 := Div.done hi.out.eq hi.out.up (by omega) h
        rw [← hYe.out, ← HQ1.out] at h3
        rw [h3]
      obtain ⟨P, hP⟩ : ∃ P, P = q * y00 := ⟨_, rfl⟩
      rw [← hP] at Hdn Hbr Hst Hdo
      by_cases hge : 4294967296 ≤ q
      · have h0 := Hdn.out (.inl hge)
        have Hbr2 := Lib.hid (Hbr.out (.inl hge))
        have Hst2 := Lib.hid (Hst.out (.inl hge))
        have Hge := Lib.hid hge
        have hgi : decide ((4294967296 : Int) ≤ (q : Int)) = true := by simp; omega
        clear Hdn Hbr Hst Hdo hP hi hinv hge
        by_cases hb : 4294967296 ≤ r + y1
        · have hbi : decide ((4294967296 : Int) ≤ (r : Int) + (y1 : Int)) = true := by simp; omega
          have hE := Lib.hid (Hbr2.out hb)
          clear Hbr2 Hst2 hb
          go_wp2_with fail
          go_meet
          case rel => exact ⟨by rw [hE.out], rfl⟩
        · have hbi : decide ((4294967296 : Int) ≤ (r : Int) + (y1 : Int)) = false := by simp; omega
          have hI := Lib.hid (Hst2.out (by omega))
          clear Hbr2 Hst2 hb
          go_wp2_with fail
          go_round
          case rel => exact ⟨q - 1, r + y1, congrArg (Value.int .u64) (by omega), congrArg (Value.int .u64) (by omega), hI.out⟩
          case measure => simp [intOf] <;> omega
      · have hPl : P < 18446744073709551616 := by
          have h5 : q * y00 ≤ 4294967295 * 4294967295 := Nat.mul_le_mul (by omega) (by omega)
          rw [hP]
          omega
        have hPw : IntKind.u64.wrap ((q : Int) * (y00 : Int)) = (P : Int) := by
          rw [← Int.natCast_mul, ← hP]
          exact IntWalk.u64_in _ ⟨by omega, by omega⟩
        have hgi : decide ((4294967296 : Int) ≤ (q : Int)) = false := by simp; omega
        by_cases hgt : 4294967296 * r + d1 < P
        · have h0 := Hdn.out (.inr hgt)
          have Hbr2 := Lib.hid (Hbr.out (.inr hgt))
          have Hst2 := Lib.hid (Hst.out (.inr hgt))
          have hgti : decide (4294967296 * (r : Int) + (d1 : Int) < (P : Int)) = true := by simp; omega
          clear Hdn Hbr Hst Hdo hP hi hinv hge hgt
          by_cases hb : 4294967296 ≤ r + y1
          · have hbi : decide ((4294967296 : Int) ≤ (r : Int) + (y1 : Int)) = true := by simp; omega
            have hE := Lib.hid (Hbr2.out hb)
            clear Hbr2 Hst2 hb
            go_wp2_with fail
            go_meet
            case rel => exact ⟨by rw [hE.out], rfl⟩
          · have hbi : decide ((4294967296 : Int) ≤ (r : Int) + (y1 : Int)) = false := by simp; omega
            have hI := Lib.hid (Hst2.out (by omega))
            clear Hbr2 Hst2 hb
            go_wp2_with fail
            go_round
            case rel => exact ⟨q - 1, r + y1, congrArg (Value.int .u64) (by omega), congrArg (Value.int .u64) (by omega), hI.out⟩
            case measure => simp [intOf] <;> omega
        · have hE := Lib.hid (Hdo.out (by omega))
          have hgti : decide (4294967296 * (r : Int) + (d1 : Int) < (P : Int)) = false := by simp; omega
          clear Hdn Hbr Hst Hdo hP hi hinv hge hgt
          go_wp2_with fail
          go_meet
          case rel => exact ⟨by rw [hE.out], rfl⟩
  case rest =>
    obtain ⟨rfl, rfl⟩ := hcut
    obtain ⟨u2, hu2⟩ : ∃ u2, u2 = (u * 4294967296 + d1) % Y := ⟨_, rfl⟩
    have hu2Y : u2 < Y := by rw [hu2]; exact Nat.mod_lt _ (by have := hYe.out; have := Hpos.out; omega)
    have hC1 : Hid (IntKind.u64.wrap (IntKind.u64.wrap (IntKind.u64.wrap ((u : Int) * 4294967296) + (d1 : Int)) - IntKind.u64.wrap ((Q1 : Int) * (Y : Int))) = (u2 : Int)) := by
      show _ = _
      rw [wrap_mod, wrap_mod, wrap_mod, wrap_mod, hu2]
      exact Div.wrap_rest u d1 Q1 Y h64 HQ1.out (by have := hYe.out; have := Hpos.out; omega)
    have HBU := Lib.hid hu2Y
    have Hu2 := Lib.hid hu2
    have hu2b : u2 < 18446744073709551616 := by omega
    have hB1 : Hid (IntKind.u64.wrap ((u2 : Int) / (y1 : Int)) = ((u2 / y1 : Nat) : Int)) := by
      show _ = _
      have h1 : u2 / y1 ≤ u2 := Nat.div_le_self _ _
      rw [show ((u2 : Int) / (y1 : Int)) = ((u2 / y1 : Nat) : Int) by simp, wrap_nat, Nat.mod_eq_of_lt (by omega)]
    have hB2 : Hid (IntKind.u64.wrap ((u2 : Int) - IntKind.u64.wrap (((u2 / y1 : Nat) : Int) * (y1 : Int))) = ((u2 % y1 : Nat) : Int)) := by
      show _ = _
      have e := Nat.div_add_mod u2 y1
      rw [← Int.natCast_mul, Nat.mul_comm, wrap_nat, Nat.mod_eq_of_lt (by omega), show (u2 : Int) - ((y1 * (u2 / y1) : Nat) : Int) = ((u2 % y1 : Nat) : Int) by omega, wrap_nat, Nat.mod_eq_of_lt (by omega)]
    have hinv2 := Lib.hid (Div.start hy1a.out hy1b hy0b (by rw [← hYe.out]; exact HBU.out) hd0b)
    clear hu2 hu2Y hinv
    go_upto_region 22 with (fail)
    rw [hC1.out]
    clear hC1
    go_upto_block 2 with (fail)
    rw [hB1.out, hB2.out]
    clear hB1 hB2
    generalize u2 / y1 = q1 at *
    generalize u2 % y1 = r1 at *
    obtain ⟨Q2, hQ2⟩ : ∃ Q2, Q2 = (u2 * 4294967296 + d0) / Y := ⟨_, rfl⟩
    have HQ2 := Lib.hid hQ2
    have hQ2l : Q2 < 4294967296 := by rw [hQ2, hYe.out]; exact Div.true_lt (by rw [← hYe.out]; exact HBU.out) hd0b
    have hC2 : Hid (IntKind.u64.wrap (IntKind.u64.wrap (IntKind.u64.wrap ((u2 : Int) * 4294967296) + (d0 : Int)) - IntKind.u64.wrap ((Q2 : Int) * (Y : Int))) = (((u2 * 4294967296 + d0) % Y : Nat) : Int)) := by
      show _ = _
      rw [wrap_mod, wrap_mod, wrap_mod, wrap_mod]
      exact Div.wrap_rest u2 d0 Q2 Y h64 hQ2 (by have := hYe.out; have := Hpos.out; omega)
    clear hQ2
    go_cut [18, 16] from 102 to 120 (fun q r W => q = .int .u64 (Q2 : Int) ∧ W = wc)
    case first =>
      go_wp2_with fail
      go_loop [18, 16] (fun x z => ∃ q r : Nat, x = .int .u64 (q : Int) ∧ z = .int .u64 (r : Int) ∧ Hid (Div.Inv u2 d0 y1 y00 q r)) (fun x _ => (intOf x).toNat)
      case atStart => exact ⟨_, _, rfl, rfl, hinv2⟩
      case round =>
        obtain ⟨q, r, rfl, rfl, hi⟩ := hrel
        have hr := hi.out.rest
        have hq := hi.out.small
        have Hdn : Hid (4294967296 ≤ q ∨ 4294967296 * r + d0 < q * y00 → 0 < q) := fun h => (Div.down hi.out (by rw [← hYe.out]; exact HBU.out) hd0b h).1
        have Hbr : Hid ((4294967296 ≤ q ∨ 4294967296 * r + d0 < q * y00) → 4294967296 ≤ r + y1 → ((q : Int) - 1) = (Q2 : Int)) := fun h h2 => by
          have h3 := Div.broke hi.out (by rw [← hYe.out]; exact HBU.out) hd0b hy0b h h2
          have h4 := Hdn.out h
          rw [← hYe.out, ← HQ2.out] at h3
          omega
        have Hst : Hid ((4294967296 ≤ q ∨ 4294967296 * r + d0 < q * y00) → r + y1 < 4294967296 → Div.Inv u2 d0 y1 y00 (q - 1) (r + y1)) := fun h h2 => Div.step hi.out (by rw [← hYe.out]; exact HBU.out) hd0b h h2
        have Hdo : Hid (q * y00 ≤ 4294967296 * r + d0 → (q : Int) = (Q2 : Int)) := fun h => by
          have h3 := Div.done hi.out.eq hi.out.up (by omega) h
          rw [← hYe.out, ← HQ2.out] at h3
          rw [h3]
        obtain ⟨P, hP⟩ : ∃ P, P = q * y00 := ⟨_, rfl⟩
        rw [← hP] at Hdn Hbr Hst Hdo
        by_cases hge : 4294967296 ≤ q
        · have h0 := Hdn.out (.inl hge)
          have Hbr2 := Lib.hid (Hbr.out (.inl hge))
          have Hst2 := Lib.hid (Hst.out (.inl hge))
          have Hge := Lib.hid hge
          have hgi : decide ((4294967296 : Int) ≤ (q : Int)) = true := by simp; omega
          clear Hdn Hbr Hst Hdo hP hi hinv2 hge
          by_cases hb : 4294967296 ≤ r + y1
          · have hbi : decide ((4294967296 : Int) ≤ (r : Int) + (y1 : Int)) = true := by simp; omega
            have hE := Lib.hid (Hbr2.out hb)
            clear Hbr2 Hst2 hb
            go_wp2_with fail
            go_meet
            case rel => exact ⟨by rw [hE.out], rfl⟩
          · have hbi : decide ((4294967296 : Int) ≤ (r : Int) + (y1 : Int)) = false := by simp; omega
            have hI := Lib.hid (Hst2.out (by omega))
            clear Hbr2 Hst2 hb
            go_wp2_with fail
            go_round
            case rel => exact ⟨q - 1, r + y1, congrArg (Value.int .u64) (by omega), congrArg (Value.int .u64) (by omega), hI.out⟩
            case measure => simp [intOf] <;> omega
        · have hPl : P < 18446744073709551616 := by
            have h5 : q * y00 ≤ 4294967295 * 4294967295 := Nat.mul_le_mul (by omega) (by omega)
            rw [hP]
            omega
          have hPw : IntKind.u64.wrap ((q : Int) * (y00 : Int)) = (P : Int) := by
            rw [← Int.natCast_mul, ← hP]
            exact IntWalk.u64_in _ ⟨by omega, by omega⟩
          have hgi : decide ((4294967296 : Int) ≤ (q : Int)) = false := by simp; omega
          by_cases hgt : 4294967296 * r + d0 < P
          · have h0 := Hdn.out (.inr hgt)
            have Hbr2 := Lib.hid (Hbr.out (.inr hgt))
            have Hst2 := Lib.hid (Hst.out (.inr hgt))
            have hgti : decide (4294967296 * (r : Int) + (d0 : Int) < (P : Int)) = true := by simp; omega
            clear Hdn Hbr Hst Hdo hP hi hinv2 hge hgt
            by_cases hb : 4294967296 ≤ r + y1
            · have hbi : decide ((4294967296 : Int) ≤ (r : Int) + (y1 : Int)) = true := by simp; omega
              have hE := Lib.hid (Hbr2.out hb)
              clear Hbr2 Hst2 hb
              go_wp2_with fail
              go_meet
              case rel => exact ⟨by rw [hE.out], rfl⟩
            · have hbi : decide ((4294967296 : Int) ≤ (r : Int) + (y1 : Int)) = false := by simp; omega
              have hI := Lib.hid (Hst2.out (by omega))
              clear Hbr2 Hst2 hb
              go_wp2_with fail
              go_round
              case rel => exact ⟨q - 1, r + y1, congrArg (Value.int .u64) (by omega), congrArg (Value.int .u64) (by omega), hI.out⟩
              case measure => simp [intOf] <;> omega
          · have hE := Lib.hid (Hdo.out (by omega))
            have hgti : decide (4294967296 * (r : Int) + (d0 : Int) < (P : Int)) = false := by simp; omega
            clear Hdn Hbr Hst Hdo hP hi hinv2 hge hgt
            go_wp2_with fail
            go_meet
            case rel => exact ⟨by rw [hE.out], rfl⟩
    case rest =>
      obtain ⟨rfl, rfl⟩ := hcut
      obtain ⟨ht1, ht2⟩ := Div.two_digits u d1 d0 Y (by have := hYe.out; have := Hpos.out; omega)
      rw [← HQ1.out, ← Hu2.out, ← HQ2.out, show u * 18446744073709551616 + d1 * 4294967296 + d0 = u * 18446744073709551616 + v by rw [hve.out, Nat.add_assoc]] at ht1
      rw [← Hu2.out, show u * 18446744073709551616 + d1 * 4294967296 + d0 = u * 18446744073709551616 + v by rw [hve.out, Nat.add_assoc]] at ht2
      have HT1 := Lib.hid ht1
      have HT2 := Lib.hid ht2
      clear ht1 ht2 hinv2
      go_wp2_with fail
      rw [hC2.out]
      have hE1 : Hid (((Q1 : Int) * 4294967296 + (Q2 : Int)) = (((u * 18446744073709551616 + v) / Y : Nat) : Int)) := by
        show _ = _
        rw [← HT1.out]
        simp
      have hE2 : Hid ((((u2 * 4294967296 + d0) % Y : Nat) : Int) / 2 ^ s = (((u * 18446744073709551616 + v) % Y / 2 ^ s : Nat) : Int)) := by
        show _ = _
        rw [← HT2.out]
        simp
      go_ret2
      exact ⟨ret_ints hE1.out hE2.out, Below.refl _ _⟩

theorem div64_any (hi lo y : Nat) (w : World) (hy : hi < y) (hl : lo < 18446744073709551616) (hyl : y < 18446744073709551616) :
    Calls Try.prog 49 #[.int .u64 (hi : Int), .int .u64 (lo : Int), .int .u64 (y : Int)] w
      fun e w' => e = .returned (.tuple #[.int .u64 (((hi * 18446744073709551616 + lo) / y : Nat) : Int), .int .u64 (((hi * 18446744073709551616 + lo) % y : Nat) : Int)]) ∧ Below w.heap.size w w' := by
  rcases Nat.eq_zero_or_pos hi with h0 | h0
  · subst h0
    have := div64_low lo y w hl hyl hy
    simpa using this
  · exact div64_high hi lo y w h0 hy hl hyl
end Go.Proofs.Ytcfkhgpcamfecaa
