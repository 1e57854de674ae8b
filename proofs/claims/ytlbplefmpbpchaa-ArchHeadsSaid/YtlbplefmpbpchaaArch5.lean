/- Layer 13: the reference's number, signed. -/
import Derived.Test.YtlbplefmpbpchaaArch1
import Derived.Test.YtlbplefmpbpchaaArchMath
namespace Go.Proofs.Ytlbplefmpbpchaa
open Go.RowKit
set_option linter.unusedVariables false
set_option maxRecDepth 100000

theorem nums_at {w : World} {B b off : Nat} {l : List Nat} (h : Nums .u8 w B (some ⟨b, off, none⟩) l) {i : Nat} (hi : i < l.length) : w.cell? ⟨b, off + i, none⟩ = some (.int .u8 ((l.getD i 0 : Nat) : Int)) := by
  obtain ⟨b', off', e, _, hc⟩ := h (by omega)
  injection e with e
  injection e with e1 e2
  subst e1 e2
  exact hc i hi
set_option maxHeartbeats 4000000 in
theorem rnumber_any (l : List Nat) (b off cap at_ n : Nat) (w : World) (hl : ∀ x ∈ l, x < 256) (hlen : l.length ≤ 100000000) (hn : n ≤ 8) (ha : at_ + n ≤ l.length)
    (hc : ∀ i, i < l.length → w.cell? ⟨b, off + i, none⟩ = some (.int .u8 ((l.getD i 0 : Nat) : Int))) :
    Calls Try.prog 13 #[.slice (some ⟨b, off, none⟩) l.length cap, .int .i64 (at_ : Int), .int .i64 (n : Int)] w fun e w' => e = .returned (.int .u64 (lowV ((l.drop at_).take n) : Int)) ∧ w = w' := by
  have HC := Lib.hid hc
  have Hl := Lib.hid hl
  obtain ⟨V, hV⟩ : ∃ V, V = lowV ((l.drop at_).take n) := ⟨_, rfl⟩
  rw [← hV]
  have HV := Lib.hid hV
  clear hc hl hV
  go_enter Try.func13, Try.ntmps13
  go_wp2_with fail
  obtain ⟨w0, rfl⟩ : ∃ w0, w0 = w := ⟨_, rfl⟩
  go_loopw [7, 8] (fun x7 x8 X => ∃ k i v : Nat, i = at_ + k ∧ k ≤ n ∧ x8 = .int .i64 ((i : Int) - 1) ∧ x7 = .int .u64 (v : Int) ∧ Hid (v = lowV ((l.drop i).take (n - k))) ∧ w0 = X) (fun x7 x8 _ => (intOf x8 + 1).toNat)
  case atStart => exact ⟨n, at_ + n, 0, rfl, Nat.le_refl _, congrArg (Value.int .i64) (by omega), rfl, by show _ = _; rw [Nat.sub_self, List.take_zero]; rfl, rfl⟩
  case round =>
    obtain ⟨k, i, v, hi, hk, rfl, rfl, hF, rfl⟩ := hrel
    by_cases h0 : 0 < k
    · have d1 : decide ((at_ : Int) ≤ (i : Int) - 1) = true := decide_eq_true (by omega)
      obtain ⟨j, hj⟩ : ∃ j, i = j + 1 := ⟨i - 1, by omega⟩
      have hjl : j < l.length := by omega
      obtain ⟨c, hcv⟩ : ∃ c, c = l.getD j 0 := ⟨_, rfl⟩
      have hcell := HC.out j hjl
      rw [← hcv] at hcell
      have hc256 : c < 256 := by rw [hcv]; exact getD_lt Hl.out j
      have hF2 : Hid (256 * v + c = lowV ((l.drop j).take (n - (k - 1)))) := by
        show _ = _
        rw [show n - (k - 1) = (n - k) + 1 by omega, lowV_top hjl, ← hcv, hF.out, hj]
        omega
      have hvl : 256 * v + c < 18446744073709551616 := by
        have h1 := lowV_lt ((l.drop j).take (n - (k - 1))) (fun x hx => Hl.out x (List.mem_of_mem_drop (List.mem_of_mem_take hx)))
        rw [← hF2.out] at h1
        have h2 : ((l.drop j).take (n - (k - 1))).length ≤ 8 := by rw [List.length_take]; omega
        have h3 : 256 ^ ((l.drop j).take (n - (k - 1))).length ≤ 256 ^ 8 := Nat.pow_le_pow_right (by decide) h2
        have h4 : (256 : Nat) ^ 8 = 18446744073709551616 := by decide
        omega
      subst hj
      have hcast : (((j + 1 : Nat) : Int) - 1) = (j : Int) := by omega
      rw [hcast] at d1 ⊢
      have hk0 : (0 : Int) ≤ (j : Int) := by omega
      have hk1 : (j : Int) < (l.length : Int) := by omega
      clear hcv hF
      go_wp2_with fail
      exact ⟨⟨k - 1, j, 256 * v + c, by omega, by omega, rfl, congrArg (Value.int .u64) (by omega), hF2, trivial⟩, by simp [intOf]⟩
    · have d1 : decide ((at_ : Int) ≤ (i : Int) - 1) = false := decide_eq_false (by omega)
      have hvV : Hid (v = V) := by show _ = _; rw [hF.out, HV.out, show k = 0 by omega, Nat.sub_zero, hi, show k = 0 by omega, Nat.add_zero]
      clear hF
      go_wp2_with fail
      go_ret
      exact ⟨by rw [← hvV.out]; rfl, rfl⟩
set_option maxHeartbeats 4000000 in
theorem rsigned_any (l : List Nat) (b off cap at_ : Nat) (w : World) (hl : ∀ x ∈ l, x < 256) (hlen : l.length ≤ 100000000) (ha : at_ + 4 ≤ l.length)
    (hc : ∀ i, i < l.length → w.cell? ⟨b, off + i, none⟩ = some (.int .u8 ((l.getD i 0 : Nat) : Int))) :
    Calls Try.prog 14 #[.slice (some ⟨b, off, none⟩) l.length cap, .int .i64 (at_ : Int)] w fun e w' => e = .returned (.int .i64 (if 2147483648 ≤ lowV ((l.drop at_).take 4) then (lowV ((l.drop at_).take 4) : Int) - 4294967296 else (lowV ((l.drop at_).take 4) : Int))) ∧ w = w' := by
  have HN := Lib.hid (rnumber_any l b off cap at_ 4 w hl hlen (by omega) ha hc)
  have hlt := lowV_lt ((l.drop at_).take 4) (fun x hx => hl x (List.mem_of_mem_drop (List.mem_of_mem_take hx)))
  have h2 : ((l.drop at_).take 4).length ≤ 4 := by rw [List.length_take]; omega
  have h3 : 256 ^ ((l.drop at_).take 4).length ≤ 256 ^ 4 := Nat.pow_le_pow_right (by decide) h2
  have h4 : (256 : Nat) ^ 4 = 4294967296 := by decide
  obtain ⟨V, hV⟩ : ∃ V, V = lowV ((l.drop at_).take 4) := ⟨_, rfl⟩
  rw [← hV] at HN hlt ⊢
  have hVb : V < 4294967296 := by omega
  clear hV hlt h2 h3 h4 hc hl
  by_cases hb : 2147483648 ≤ V
  · have d1 : decide (2147483648 ≤ (V : Int)) = true := decide_eq_true (by omega)
    rw [if_pos hb]
    go_enter Try.func14, Try.ntmps14
    go_wp2_with fail
    refine HN.out.mono ?_
    rintro e X ⟨rfl, rfl⟩
    go_wp2_with fail
    go_ret
    exact ⟨rfl, rfl⟩
  · have d1 : decide (2147483648 ≤ (V : Int)) = false := decide_eq_false (by omega)
    rw [if_neg hb]
    go_enter Try.func14, Try.ntmps14
    go_wp2_with fail
    refine HN.out.mono ?_
    rintro e X ⟨rfl, rfl⟩
    go_wp2_with fail
    go_ret
    exact ⟨rfl, rfl⟩
end Go.Proofs.Ytlbplefmpbpchaa
