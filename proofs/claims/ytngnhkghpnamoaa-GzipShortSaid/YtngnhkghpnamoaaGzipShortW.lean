/- GzipShortW -/
import Derived.Test.YtngnhkghpnamoaaGzL
namespace Go.Proofs.Ytngnhkghpnamoaa
open Go.RowKit Huff Bit
set_option linter.unusedVariables false
set_option maxRecDepth 100000

set_option maxHeartbeats 8000000 in
theorem gzipShort_walk (l : List Nat) (a0 : Option Addr) (c0 : Nat) (cut : Nat) (w : World)
    (hld : ∀ x ∈ l, x < 256) (hlc : l.length ≤ c0) (hcm : c0 ≤ maxLen) (hN : Nums .u8 w w.heap.size a0 l) (hcut : cut < 65536) :
    Calls Try.prog 4 #[.slice a0 l.length c0, .int .u16 (cut : Int)] w fun e w' => e = .returned (.bool true) ∧ Below w.heap.size w w' := by
  have HL := Lib.hid live06_any
  have Hcode := Lib.hid code06_any
  by_cases h300 : 300 < l.length
  · obtain ⟨L, hL⟩ : ∃ L, l.length = L := ⟨_, rfl⟩
    rw [hL] at h300 ⊢
    have d1 : decide ((300 : Int) < (L : Int)) = true := decide_eq_true (by omega)
    have d2 : decide (300 < L) = true := decide_eq_true h300
    clear hld hlc hcm hN hcut hL h300
    go_enter Try.func4, Try.ntmps4
    go_wp2_with fail
    refine (HL.out _).mono ?_
    rintro e Y ⟨rfl, hB⟩
    have HB := Lib.hid hB
    clear hB
    go_wp2_with fail
    go_ret
    exact ⟨rfl, HB.out⟩
  · have hb : Bytes255 l := bytes255_of (fun x hx => Nat.le_of_lt_succ (hld x hx))
    have HW := Lib.hid (wrap_any a0 c0 l w hb (by omega) hld hN)
    obtain ⟨Z, hZ⟩ : ∃ Z, (gzB hb).length = Z := ⟨_, rfl⟩
    have hZ1 := gzB_length hb
    obtain ⟨k, hk⟩ : ∃ k, k = cut % Z := ⟨_, rfl⟩
    have hkz : k < Z := by rw [hk]; exact Nat.mod_lt _ (by omega)
    have hfl := fixed_length hb (by omega)
    have hm := mem_short hb (by omega) 1000 (by omega) k (by omega)
    have htl : ((gzB hb).take k).length = k := by rw [List.length_take]; omega
    have HU : Hid (∀ (b off c : Nat) (W : World), Nums .u8 W W.heap.size (some ⟨b, off, none⟩) (gzB hb) → Z ≤ c → c ≤ maxLen → Calls Try.prog 7 #[.slice (some ⟨b, off, none⟩) k c, .int .i64 1000] W (UnwErr W 2)) := by
      intro b off c W h1 h2 h3
      have := unwrap_err b off c 1000 2 ((gzB hb).take k) W (h1.takeI k) (by omega) (by omega) h3 (by omega) (fun x hx => gzB_lt hb x (List.mem_of_mem_take hx)) (fun h => take_plain hb (by omega)) (by omega) hm (by omega) (by omega)
      rw [htl] at this
      exact this
    obtain ⟨L, hL⟩ : ∃ L, l.length = L := ⟨_, rfl⟩
    unfold WrapPost at HW
    rw [hZ] at HW
    rw [hL] at HW h300 ⊢
    have d1 : decide ((300 : Int) < (L : Int)) = false := decide_eq_false (by omega)
    have d2 : decide (300 < L) = false := decide_eq_false h300
    have w1 : IntKind.i64.wrap ((cut : Int).tmod (Z : Int)) = (k : Int) := by
      rw [Int.tmod_eq_emod_of_nonneg (by omega), hk, ← Int.natCast_emod]
      exact IntWalk.i64_in _ ⟨by omega, by have := Nat.mod_lt cut (show 0 < Z by omega); omega⟩
    have w2 : (cut : Int) % (Z : Int) = (k : Int) := by rw [hk, ← Int.natCast_emod]
    have w3 : IntKind.i64.wrap (cut : Int) = (cut : Int) := IntWalk.i64_in _ ⟨by omega, by omega⟩
    have u0 : ((Z : Int) == 0) = false := by simp; omega
    have u1 : ¬ ((Z : Int) = 0) := by omega
    have u2 : ¬ (Z = 0) := by omega
    have k0 : (0 : Int) ≤ (k : Int) := by omega
    have k2 : (k : Int) ≤ (Z : Int) := by omega
    have w5 : IntKind.i64.wrap (k : Int) = (k : Int) := IntWalk.i64_in _ ⟨by omega, by omega⟩
    have w6 : wrap64 (k : Int) = (k : Int) := IntWalk.wrap64_in _ ⟨by omega, by omega⟩
    clear hld hlc hcm hN hcut hL h300 hZ hZ1 hk hfl hm htl
    go_enter Try.func4, Try.ntmps4
    go_wp2_with fail
    refine HW.out.mono ?_
    rintro e W1 ⟨b, off, c, rfl, hN1, h1, h2, hB⟩
    have HB1 := Lib.hid hB
    have HUc := Lib.hid (HU.out b off c W1 hN1 h1 h2)
    have k1 : (k : Int) ≤ (c : Int) := by omega
    have k3 : k ≤ c := by omega
    clear hB hN1 h1 h2 HU HW
    go_wp2_with fail
    refine (Hcode.out _ _).mono ?_
    rintro e Y ⟨rfl, rfl⟩
    go_wp2_with fail
    refine HUc.out.mono ?_
    rintro e W2 ⟨rfl, hB⟩
    have HB2 := Lib.hid (keepBelow hB HB1.out)
    clear hB HUc
    go_wp2_with fail
    refine (Hcode.out _ _).mono ?_
    rintro e Y ⟨rfl, rfl⟩
    go_wp2_with fail
    refine (HL.out _).mono ?_
    rintro e Y ⟨rfl, hB⟩
    have HB := Lib.hid (keepBelow hB HB2.out)
    clear hB
    go_wp2_with fail
    go_ret
    exact ⟨rfl, HB.out⟩
end Go.Proofs.Ytngnhkghpnamoaa
