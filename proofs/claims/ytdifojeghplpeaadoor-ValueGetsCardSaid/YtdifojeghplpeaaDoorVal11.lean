/- Layer 8: known, fromField. -/
import Derived.Test.YtdifojeghplpeaaDoorVal10
import Derived.IntWalk
namespace Go.Proofs.YtdifojeghplpeaaDoor
open Go.RowKit Var
set_option linter.unusedVariables false
set_option maxRecDepth 100000

theorem known_any (k : Int) (w : World) : Calls Tryd.prog 43 #[.int .i64 k] w fun e w' => e = .returned (.bool (decide (1 ≤ k ∧ k ≤ 7))) ∧ w = w' := by
  by_cases h1 : 1 ≤ k
  · by_cases h7 : k ≤ 7
    · have e : decide (1 ≤ k ∧ k ≤ 7) = true := decide_eq_true ⟨h1, h7⟩
      have d1 : decide (1 ≤ k) = true := decide_eq_true h1
      have d7 : decide (k ≤ 7) = true := decide_eq_true h7
      rw [e]
      clear e
      go_enter Tryd.func43, Tryd.ntmps43
      go_wp2_with fail
      go_ret
      exact ⟨rfl, rfl⟩
    · have e : decide (1 ≤ k ∧ k ≤ 7) = false := decide_eq_false (by omega)
      have d1 : decide (1 ≤ k) = true := decide_eq_true h1
      have d7 : decide (k ≤ 7) = false := decide_eq_false h7
      rw [e]
      clear e
      go_enter Tryd.func43, Tryd.ntmps43
      go_wp2_with fail
      go_ret
      exact ⟨rfl, rfl⟩
  · have e : decide (1 ≤ k ∧ k ≤ 7) = false := decide_eq_false (by omega)
    have d1 : decide (1 ≤ k) = false := decide_eq_false h1
    rw [e]
    clear e
    go_enter Tryd.func43, Tryd.ntmps43
    go_wp2_with fail
    go_ret
    exact ⟨rfl, rfl⟩
theorem zag_in (x : Nat) (h : x < 18446744073709551616) : -9223372036854775808 ≤ zag x ∧ zag x < 9223372036854775808 := by unfold zag; split <;> omega
/-- The value of a field. -/
def fromV (num : Int) (x : Nat) (d : List Nat) : V3 := (num, if num = 1 then strOf d else ⟨#[]⟩, if num = 6 then (if zag x < 0 then (zag x + 18446744073709551616).toNat else (zag x).toNat) else x)
set_option maxHeartbeats 4000000 in
theorem fromField_any (num kind : Int) (x : Nat) (a : Option Addr) (c : Nat) (d : List Nat) (w : World) (hx : x < 18446744073709551616) (hN : Nums .u8 w w.heap.size a d) (hd : ∀ y ∈ d, y < 256) :
    Calls Tryd.prog 30 #[.agg #[.int .i64 num, .int .i64 kind, .int .u64 (x : Int), .slice a d.length c]] w fun e w' => e = .returned (vv (fromV num x d)) ∧ Below w.heap.size w w' := by
  have HN := Lib.hid hN
  have HD := Lib.hid hd
  obtain ⟨L, hL⟩ : ∃ z, z = d.length := ⟨_, rfl⟩
  have HL := Lib.hid hL
  rw [← hL]
  unfold vv fromV
  simp only
  clear hN hd hL
  by_cases h1 : num = 1
  · subst h1
    rw [if_pos rfl, if_neg (show ¬ (1 : Int) = 6 by omega)]
    have hB : Below w.heap.size w (((w.alloc (.cells #[.int .i64 1, .int .i64 kind, .int .u64 (x : Int), .slice a L c] 43)).alloc (.cells #[.int .i64 0, .string ⟨#[]⟩, .int .u64 0] 24)).alloc (.cells #[.int .i64 1, .string ⟨#[]⟩, .int .u64 (x : Int)] 24)) := (((Below.refl _ _).alloc (Nat.le_refl _) _).alloc (by simp) _).alloc (by simp; omega) _
    have hst : (convert 26 9 (.slice a L c)).run Tryd.prog (((w.alloc (.cells #[.int .i64 1, .int .i64 kind, .int .u64 (x : Int), .slice a L c] 43)).alloc (.cells #[.int .i64 0, .string ⟨#[]⟩, .int .u64 0] 24)).alloc (.cells #[.int .i64 1, .string ⟨#[]⟩, .int .u64 (x : Int)] 24)) = .ok (.string (strOf d)) (((w.alloc (.cells #[.int .i64 1, .int .i64 kind, .int .u64 (x : Int), .slice a L c] 43)).alloc (.cells #[.int .i64 0, .string ⟨#[]⟩, .int .u64 0] 24)).alloc (.cells #[.int .i64 1, .string ⟨#[]⟩, .int .u64 (x : Int)] 24)) := by
      rw [HL.out]
      exact str_of_nums _ w.heap.size 26 9 5 a c d Tryd.underlying26 Tryd.underlying5 Tryd.underlying9 (HN.out.below (by rw [← HL.out]; exact hB)) HD.out
    have HB := Lib.hid hB
    clear hB
    go_enter Tryd.func30, Tryd.ntmps30
    go_wp2_with fail
    exact bodyPost_ret (v := .agg #[.int .i64 1, .string (strOf d), .int .u64 (x : Int)]) (by simp [results, Tryd.results30, asAddr, go_sem]) rfl ⟨by simp, by go_grown⟩
  · have d1 : (num == 1) = false := by simpa using h1
    rw [if_neg h1]
    by_cases h6 : num = 6
    · subst h6
      rw [if_pos rfl]
      obtain ⟨z, hz⟩ : ∃ z, z = zag x := ⟨_, rfl⟩
      have HZ := Lib.hid fun W => zag_any x W hx
      rw [← hz] at HZ ⊢
      obtain ⟨m, hm⟩ : ∃ m, m = (if z < 0 then (z + 18446744073709551616).toNat else z.toNat) := ⟨_, rfl⟩
      have hzr := zag_in x hx
      rw [← hz] at hzr
      have hwz : IntKind.u64.wrap z = (m : Int) := by
        rw [hm]
        show z % 18446744073709551616 = _
        split <;> omega
      rw [← hm]
      clear hz hm hzr
      go_enter Tryd.func30, Tryd.ntmps30
      go_wp2_with fail
      refine (HZ.out _).mono ?_
      rintro e Z ⟨rfl, rfl⟩
      go_wp2_with fail
      exact bodyPost_ret (v := .agg #[.int .i64 6, .string ⟨#[]⟩, .int .u64 (m : Int)]) (by simp [results, Tryd.results30, asAddr, go_sem]) rfl ⟨by simp, by go_grown⟩
    · have d6 : (num == 6) = false := by simpa using h6
      rw [if_neg h6]
      go_enter Tryd.func30, Tryd.ntmps30
      go_wp2_with fail
      exact bodyPost_ret (v := .agg #[.int .i64 num, .string ⟨#[]⟩, .int .u64 (x : Int)]) (by simp [results, Tryd.results30, asAddr, go_sem]) rfl ⟨by simp, by go_grown⟩
end Go.Proofs.YtdifojeghplpeaaDoor
