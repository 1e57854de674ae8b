/- Walks over layer 8: comparisons. -/
import Derived.Test.YtdifojeghplpeaaDoorVal1
import Derived.Lib.Walk
namespace Go.Proofs.YtdifojeghplpeaaDoor
open Go.RowKit
set_option linter.unusedVariables false
set_option maxRecDepth 100000

def cmpI (a b : Int) : Int := if a < b then -1 else if b < a then 1 else 0
def cmpS (s t : ByteArray) : Int := Lib.compareBytes s.data.toList t.data.toList
def or3 (a b c : Int) : Int := if a ≠ 0 then a else if b ≠ 0 then b else c
theorem isNaN_int (a : Int) (w : World) : Calls Tryd.prog 47 #[.int .i64 a] w fun e w' => e = .returned (.bool false) ∧ w = w' := by
  go_enter Tryd.func47, Tryd.ntmps47
  go_wp2_with fail
  go_ret
  exact ⟨rfl, rfl⟩
theorem isNaN_u64 (a : Nat) (w : World) : Calls Tryd.prog 49 #[.int .u64 (a : Int)] w fun e w' => e = .returned (.bool false) ∧ w = w' := by
  go_enter Tryd.func49, Tryd.ntmps49
  go_wp2_with fail
  go_ret
  exact ⟨rfl, rfl⟩
theorem cmp_int (a b : Int) (w : World) : Calls Tryd.prog 34 #[.int .i64 a, .int .i64 b] w fun e w' => e = .returned (.int .i64 (cmpI a b)) ∧ w = w' := by
  have HA := Lib.hid fun W => isNaN_int a W
  have HB := Lib.hid fun W => isNaN_int b W
  unfold cmpI
  by_cases h1 : a < b
  · rw [if_pos h1]
    go_enter Tryd.func34, Tryd.ntmps34
    go_wp2_with fail
    refine (HA.out _).mono ?_
    rintro e X ⟨rfl, rfl⟩
    go_wp2_with fail
    refine (HB.out _).mono ?_
    rintro e X ⟨rfl, rfl⟩
    go_wp2_with fail
    go_ret
    exact ⟨rfl, rfl⟩
  · rw [if_neg h1]
    by_cases h2 : b < a
    · rw [if_pos h2]
      go_enter Tryd.func34, Tryd.ntmps34
      go_wp2_with fail
      refine (HA.out _).mono ?_
      rintro e X ⟨rfl, rfl⟩
      go_wp2_with fail
      refine (HB.out _).mono ?_
      rintro e X ⟨rfl, rfl⟩
      go_wp2_with fail
      go_ret
      exact ⟨rfl, rfl⟩
    · rw [if_neg h2]
      go_enter Tryd.func34, Tryd.ntmps34
      go_wp2_with fail
      refine (HA.out _).mono ?_
      rintro e X ⟨rfl, rfl⟩
      go_wp2_with fail
      refine (HB.out _).mono ?_
      rintro e X ⟨rfl, rfl⟩
      go_wp2_with fail
      go_ret
      exact ⟨rfl, rfl⟩
theorem cmp_u64 (a b : Nat) (w : World) : Calls Tryd.prog 36 #[.int .u64 (a : Int), .int .u64 (b : Int)] w fun e w' => e = .returned (.int .i64 (cmpI a b)) ∧ w = w' := by
  have HA := Lib.hid fun W => isNaN_u64 a W
  have HB := Lib.hid fun W => isNaN_u64 b W
  unfold cmpI
  by_cases h1 : (a : Int) < b
  · rw [if_pos h1]
    have g1 : decide (a < b) = true := decide_eq_true (by omega)
    have g2 : a < b := by omega
    go_enter Tryd.func36, Tryd.ntmps36
    go_wp2_with fail
    refine (HA.out _).mono ?_
    rintro e X ⟨rfl, rfl⟩
    go_wp2_with fail
    refine (HB.out _).mono ?_
    rintro e X ⟨rfl, rfl⟩
    go_wp2_with fail
    go_ret
    exact ⟨rfl, rfl⟩
  · rw [if_neg h1]
    by_cases h2 : (b : Int) < a
    · rw [if_pos h2]
      have g1 : ¬ a < b := by omega
      have g2 : b < a := by omega
      go_enter Tryd.func36, Tryd.ntmps36
      go_wp2_with fail
      refine (HA.out _).mono ?_
      rintro e X ⟨rfl, rfl⟩
      go_wp2_with fail
      refine (HB.out _).mono ?_
      rintro e X ⟨rfl, rfl⟩
      go_wp2_with fail
      go_ret
      exact ⟨rfl, rfl⟩
    · rw [if_neg h2]
      have g1 : ¬ a < b := by omega
      have g2 : ¬ b < a := by omega
      go_enter Tryd.func36, Tryd.ntmps36
      go_wp2_with fail
      refine (HA.out _).mono ?_
      rintro e X ⟨rfl, rfl⟩
      go_wp2_with fail
      refine (HB.out _).mono ?_
      rintro e X ⟨rfl, rfl⟩
      go_wp2_with fail
      go_ret
      exact ⟨rfl, rfl⟩
theorem cmpString_any (a b : ByteArray) (w : World) : Calls Tryd.prog 48 #[.string a, .string b] w fun e w' => e = .returned (.int .i64 (cmpS a b)) ∧ w = w' := by
  go_enter Tryd.func48, Tryd.ntmps48
  go_wp2
  rw [run_callFunc_extern Tryd.func54 (by kernel_rfl) (by kernel_rfl) (by kernel_rfl) (e := Extern.BytealgCompare.compare) (by kernel_rfl), Lib.run_compareString]
  simp only [Result.andThen]
  rw [Oper.upon_value]
  go_wp2
  go_ret
  exact ⟨rfl, rfl⟩
theorem strCompare_any (a b : ByteArray) (w : World) : Calls Tryd.prog 35 #[.string a, .string b] w fun e w' => e = .returned (.int .i64 (cmpS a b)) ∧ w = w' := by
  have HA := Lib.hid fun W => cmpString_any a b W
  go_enter Tryd.func35, Tryd.ntmps35
  go_wp2_with fail
  refine (HA.out _).mono ?_
  rintro e X ⟨rfl, rfl⟩
  go_wp2_with fail
  go_ret
  exact ⟨rfl, rfl⟩
set_option maxHeartbeats 4000000 in
theorem or_any (a b c : Int) (g : Nat) (w : World) (h0 : w.cell? ⟨g, 0, none⟩ = some (.int .i64 a)) (h1 : w.cell? ⟨g, 1, none⟩ = some (.int .i64 b)) (h2 : w.cell? ⟨g, 2, none⟩ = some (.int .i64 c)) :
    Calls Tryd.prog 33 #[.slice (some ⟨g, 0, none⟩) 3 3] w fun e w' => e = .returned (.int .i64 (or3 a b c)) ∧ w = w' := by
  have HR := Lib.hid (show ∀ z, z = or3 a b c → z = or3 a b c from fun _ h => h)
  go_enter Tryd.func33, Tryd.ntmps33
  go_wp2_with fail
  go_loop [8] (fun i => ∃ k : Nat, i = .int .i64 (k : Int) ∧ k ≤ 3 ∧ Hid ((1 ≤ k → a = 0) ∧ (2 ≤ k → b = 0) ∧ (3 ≤ k → c = 0))) (fun i => 3 - (intOf i).toNat)
  case atStart => exact ⟨0, rfl, by omega, fun h => by omega, fun h => by omega, fun h => by omega⟩
  case round =>
    obtain ⟨k, rfl, hk, HZ⟩ := hrel
    rcases k with _ | _ | _ | _ | k
    · by_cases hz : a = 0
      · subst hz
        go_wp2_with fail
        go_round
        case rel => exact ⟨1, rfl, by omega, fun _ => (by trivial), fun h => by omega, fun h => by omega⟩
        case measure => simp [intOf]
      · have hz2 : (a == 0) = false := by simpa using hz
        have HE : Hid (or3 a b c = a) := by unfold Hid or3; rw [if_pos hz]
        go_wp2_with fail
        go_ret
        exact ⟨by rw [HE.out]; rfl, rfl⟩
    · have ha := HZ.out.1 (by omega)
      by_cases hz : b = 0
      · subst hz
        go_wp2_with fail
        go_round
        case rel => exact ⟨2, rfl, by omega, fun _ => ha, fun _ => (by trivial), fun h => by omega⟩
        case measure => simp [intOf]
      · have hz2 : (b == 0) = false := by simpa using hz
        have HE : Hid (or3 a b c = b) := by unfold Hid or3; rw [if_neg (by simp [ha]), if_pos hz]
        clear ha
        go_wp2_with fail
        go_ret
        exact ⟨by rw [HE.out]; rfl, rfl⟩
    · have ha := HZ.out.1 (by omega)
      have hb := HZ.out.2.1 (by omega)
      have HE : Hid (or3 a b c = c) := by unfold Hid or3; rw [if_neg (by simp [ha]), if_neg (by simp [hb])]
      by_cases hz : c = 0
      · subst hz
        have Ha := Lib.hid ha
        have Hb := Lib.hid hb
        clear ha hb
        go_wp2_with fail
        go_round
        case rel => exact ⟨3, rfl, by omega, fun _ => Ha.out, fun _ => Hb.out, fun _ => (by trivial)⟩
        case measure => simp [intOf]
      · have hz2 : (c == 0) = false := by simpa using hz
        clear ha hb
        go_wp2_with fail
        go_ret
        exact ⟨by rw [HE.out]; rfl, rfl⟩
    · have ha := HZ.out.1 (by omega)
      have hb := HZ.out.2.1 (by omega)
      have hc := HZ.out.2.2 (by omega)
      have HE : Hid (or3 a b c = 0) := by unfold Hid or3; rw [if_neg (by simp [ha]), if_neg (by simp [hb]), hc]
      clear ha hb hc h0 h1 h2
      go_wp2_with fail
      go_ret
      exact ⟨by rw [HE.out]; rfl, rfl⟩
    · omega
/-- Is a less, byte by byte? -/
def lessB (s t : ByteArray) : Bool := decide (cmpS s t < 0)
end Go.Proofs.YtdifojeghplpeaaDoor
