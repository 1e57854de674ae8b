/- The statement InflateShort: the law's walk. -/
import Derived.Test.YtfbfflgffibjbaaInfL
namespace Go.Proofs.Ytfbfflgffibjbaa
open Go.RowKit Huff Bit
set_option linter.unusedVariables false
set_option maxRecDepth 100000

theorem dataZ_2000 (bs : List Nat) : dataZ bs 2000 = inflM bs 2000 := rfl
set_option maxHeartbeats 8000000 in
theorem inflateShort_walk (l : List Nat) (a0 : Option Addr) (c0 : Nat) (cut : Nat) (w : World)
    (hld : ∀ x ∈ l, x < 256) (hlc : l.length ≤ c0) (hcm : c0 ≤ maxLen) (hN : Nums .u8 w w.heap.size a0 l) (hz : a0 = none → c0 = 0) (hcut : cut < 65536) :
    Calls Try.prog 5 #[.slice a0 l.length c0, .int .u16 (cut : Int)] w fun e w' => e = .returned (.bool true) ∧ Below w.heap.size w w' := by
  have HL := Lib.hid live04_any
  have Hcode := Lib.hid code04_any
  obtain ⟨L, hL⟩ : ∃ L, l.length = L := ⟨_, rfl⟩
  have HLe := Lib.hid hL
  by_cases h200 : 200 < L
  · rw [hL]
    have d1 : decide ((200 : Int) < (L : Int)) = true := decide_eq_true (by omega)
    have d2 : decide (200 < L) = true := decide_eq_true h200
    clear hld hlc hcm hN hz hcut hL h200
    go_enter Try.func5, Try.ntmps5
    go_wp2_with fail
    refine (HL.out _).mono ?_
    rintro e Y ⟨rfl, hB⟩
    have HB := Lib.hid hB
    clear hB
    go_wp2_with fail
    go_ret
    exact ⟨rfl, HB.out⟩
  · have d1 : decide ((200 : Int) < (L : Int)) = false := decide_eq_false (by omega)
    have d2 : decide (200 < L) = false := decide_eq_false h200
    have Hd := infl_any a0 c0 l 2000 w hN (fun e => ⟨hz e, List.eq_nil_of_length_eq_zero (by have := hz e; omega)⟩) (by omega) hld
    rw [dataZ_2000] at Hd
    rw [hL] at Hd ⊢
    rcases infl_cases l 2000 with ⟨E, hE, hR⟩ | ⟨o, u, hR, hu1, hu2, hback⟩
    · rw [hR] at Hd
      have Hd := Lib.hid Hd
      have e1 : ((E : Int) != 0) = true := by simp; omega
      clear hld hlc hcm hN hz hcut hL h200 hR hE
      go_enter Try.func5, Try.ntmps5
      go_wp2_with fail
      refine Hd.out.mono ?_
      rintro e W1 ⟨a2, c2, rfl, _, _, _, _, hB⟩
      have HB1 := Lib.hid hB
      clear hB
      go_wp2_with fail
      refine (Hcode.out _ _).mono ?_
      rintro e Y ⟨rfl, rfl⟩
      go_wp2_with fail
      refine (Hcode.out _ _).mono ?_
      rintro e Y ⟨rfl, rfl⟩
      go_wp2_with fail
      refine (HL.out _).mono ?_
      rintro e Y ⟨rfl, hB⟩
      have HB := Lib.hid (keepBelow hB HB1.out)
      clear hB
      go_wp2_with fail
      go_ret
      exact ⟨rfl, HB.out⟩
    · rw [hR] at Hd
      have Hd := Lib.hid Hd
      obtain ⟨b, off, rfl, hb, hc⟩ := hN (by omega)
      obtain ⟨k, hk⟩ : ∃ k, k = cut % u := ⟨_, rfl⟩
      have hku : k < u := by rw [hk]; exact Nat.mod_lt _ (by omega)
      have hshort := (hback (l.take k) (fun i h1 h2 => by rw [List.length_take] at h2; simp [List.getElem?_take, show i < k by omega])).2 (by rw [List.length_take]; omega)
      have Hd2 := Lib.hid fun W (hB : Below w.heap.size w W) => by
        have := infl_any (some ⟨b, off, none⟩) c0 (l.take k) 2000 W (((hN.take k).below hB).more hB.size) (fun e => by cases e) (by rw [List.length_take]; omega) (fun x hx => hld x (List.mem_of_mem_take hx))
        rw [dataZ_2000, hshort, List.length_take, Nat.min_eq_left (by omega)] at this
        exact this
      have e1 : decide ((u : Int) < 1) = false := decide_eq_false (by omega)
      have e2 : decide ((L : Int) < (u : Int)) = false := decide_eq_false (by omega)
      have e3 : decide (u < 1) = false := decide_eq_false (by omega)
      have e4 : decide (L < u) = false := decide_eq_false (by omega)
      have w1 : IntKind.i64.wrap ((cut : Int).tmod (u : Int)) = (k : Int) := by
        rw [Int.tmod_eq_emod_of_nonneg (by omega), hk, ← Int.natCast_emod]
        exact IntWalk.i64_in _ ⟨by omega, by have := Nat.mod_lt cut (show 0 < u by omega); omega⟩
      have w2 : (cut : Int) % (u : Int) = (k : Int) := by rw [hk, ← Int.natCast_emod]
      have w3 : IntKind.i64.wrap (cut : Int) = (cut : Int) := IntWalk.i64_in _ ⟨by omega, by omega⟩
      have u0 : ((u : Int) == 0) = false := by simp; omega
      have u1 : ¬ ((u : Int) = 0) := by omega
      have k0 : (0 : Int) ≤ (k : Int) := by omega
      have k1 : (k : Int) ≤ (c0 : Int) := by omega
      have k2 : (k : Int) ≤ (L : Int) := by omega
      have w5 : IntKind.i64.wrap (k : Int) = (k : Int) := IntWalk.i64_in _ ⟨by omega, by omega⟩
      have w6 : wrap64 (k : Int) = (k : Int) := IntWalk.wrap64_in _ ⟨by omega, by omega⟩
      clear hld hlc hcm hN hz hcut hL h200 hR hc hb hshort hback hk hku
      go_enter Try.func5, Try.ntmps5
      go_wp2_with fail
      refine Hd.out.mono ?_
      rintro e W1 ⟨a2, c2, rfl, _, _, _, _, hB⟩
      have HB1 := Lib.hid hB
      clear hB
      go_wp2_with fail
      refine (Hcode.out _ _).mono ?_
      rintro e Y ⟨rfl, rfl⟩
      go_wp2_with fail
      refine (Hd2.out _ HB1.out).mono ?_
      rintro e W2 ⟨a3, c3, rfl, _, _, _, _, hB⟩
      have HB2 := Lib.hid (keepBelow hB HB1.out)
      clear hB
      go_wp2_with fail
      refine (Hcode.out _ _).mono ?_
      rintro e Y ⟨rfl, rfl⟩
      go_wp2_with fail
      refine (HL.out _).mono ?_
      rintro e Y ⟨rfl, hB⟩
      have HB := Lib.hid (keepBelow hB HB2.out)
      clear hB
      go_wp2_with fail
      go_ret
      exact ⟨rfl, HB.out⟩
end Go.Proofs.Ytfbfflgffibjbaa
