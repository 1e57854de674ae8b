/- Layer 5: DeflateParses, the law's walk. -/
import Derived.Test.YtmheafadahdbfaaPar5
import Derived.Test.YtmheafadahdbfaaPar6
namespace Go.Proofs.Ytmheafadahdbfaa
open Go.RowKit
set_option linter.unusedVariables false
set_option maxRecDepth 100000

theorem find_both (a : Option Addr) (c : Nat) (l : List Nat) (z : Int) (w : World) (hN : Nums .u8 w w.heap.size a l) (hl : l.length ≤ 100000) :
    ∃ E : Nat × Nat, (∀ X, Below w.heap.size w X → Calls Try.prog 15 #[.slice a l.length c, .int .i64 z] X (DFindPost X E)) ∧ (∀ X, Below w.heap.size w X → Calls Try.prog 16 #[.slice a l.length c, .int .i64 z] X (DFindPost X E)) := by
  by_cases h : z < 0 ∨ (l.length : Int) < z
  · exact ⟨(0, 0), fun X _ => dfind_out a c l z X (by omega) h, fun X _ => rfind_out a c l z X (by omega) h⟩
  · obtain ⟨k, rfl⟩ : ∃ k : Nat, z = (k : Int) := ⟨z.toNat, by omega⟩
    exact ⟨findE l k, fun X hX => dfind_any a c l k X ((hN.below hX).more hX.size) (by omega) (by omega), fun X hX => rfind_any a c l k X ((hN.below hX).more hX.size) (by omega) (by omega)⟩
set_option maxHeartbeats 8000000 in
theorem deflateParses_walk (l : List Nat) (a0 : Option Addr) (c0 : Nat) (z : Int) (w : World)
    (hld : ∀ x ∈ l, x < 256) (hlc : l.length ≤ c0) (hcm : c0 ≤ maxLen) (hN : Nums .u8 w w.heap.size a0 l) (hz : -9223372036854775808 ≤ z ∧ z < 9223372036854775808) :
    Calls Try.prog 4 #[.slice a0 l.length c0, .int .i64 z] w fun e w' => e = .returned (.bool true) ∧ Below w.heap.size w w' := by
  have HL := Lib.hid live_any
  have hb : Bytes255 l := bytes255_of fun x hx => by have := hld x hx; omega
  obtain ⟨L, hL⟩ : ∃ L, L = l.length := ⟨_, rfl⟩
  have hm : maxLen ≤ 9223372036854775807 := by decide
  by_cases hbig : 400 < L
  · have d1 : decide (400 < (L : Int)) = true := decide_eq_true (by omega)
    have hL2 : L ≤ 9223372036854775807 := by omega
    rw [← hL]
    clear hN hlc hcm hld hL hbig hz hm
    go_enter Try.func4, Try.ntmps4
    go_wp2_with fail
    refine (HL.out _).mono ?_
    rintro e Y ⟨rfl, hB⟩
    have HB := Lib.hid hB
    clear hB
    go_wp2_with fail
    go_ret
    exact ⟨rfl, HB.out⟩
  · have d1 : decide (400 < (L : Int)) = false := decide_eq_false (by omega)
    have hL400 : L ≤ 400 := by omega
    obtain ⟨⟨r1, r2⟩, hf1, hf2⟩ := find_both a0 c0 l z w hN (by omega)
    have HP1 := Lib.hid (Go.callsIn_wide.1 (parse_go a0 c0 l w hb hN (by omega)))
    have HP2 := Lib.hid fun X (hX : Below w.heap.size w X) => rparse_any a0 c0 l X hb ((hN.below hX).more hX.size) (by omega)
    have HF1 := Lib.hid hf1
    have HF2 := Lib.hid hf2
    have Hn : Hid ((parseE hb).length ≤ 400) := by have := parseFrom_length (h := hb) l.length 0; show _ ≤ _; unfold parseE; omega
    rw [← hL] at HP1 HP2 HF1 HF2
    rw [← hL]
    clear hN hlc hcm hld hL hbig hz hm hf1 hf2
    obtain ⟨ms, hms⟩ : ∃ ms, p2s (parseE hb) = ms := ⟨_, rfl⟩
    unfold ParsePost at HP1 HP2
    rw [hms] at HP1 HP2
    have Hn : Hid (ms.length ≤ 400) := by show _ ≤ _; rw [← hms, p2s_length]; exact Hn.out
    clear hms
    go_enter Try.func4, Try.ntmps4
    go_wp2_with fail
    refine HP1.out.mono ?_
    rintro e X1 ⟨v1, rfl, hR1, hB1⟩
    have HR1 := Lib.hid hR1
    have HB1 := Lib.hid hB1
    clear hR1 hB1 HP1
    go_wp2_with fail
    refine (HP2.out X1 HB1.out).mono ?_
    rintro e X2 ⟨v2, rfl, hR2, hB2⟩
    obtain ⟨a2, c2, rfl, hc2, hc2m, hA2⟩ := hR2
    obtain ⟨a1, c1, rfl, hc1, hc1m, hA1⟩ := HR1.out.below hB2
    have HA1 := Lib.hid hA1
    have HA2 := Lib.hid hA2
    have HB2 : Hid (Below w.heap.size w X2) := HB1.out.trans (hB2.mono HB1.out.size)
    obtain ⟨N, hNe⟩ : ∃ N, N = ms.length := ⟨_, rfl⟩
    have HN := Lib.hid hNe
    have hN400 : N ≤ 400 := by rw [hNe]; exact Hn.out
    rw [← hNe]
    clear hA1 hA2 hB2 hNe hc1 hc2 hc1m hc2m HR1 HB1 HP2 Hn
    have e0 : ((N : Int) != (N : Int)) = false := by simp
    go_wp2_with fail
    go_loopw [7] (fun i W => ∃ (k m : Nat), i = .int .i64 (k : Int) ∧ k ≤ N ∧ W = X2.drewN m) (fun i _ => N - (intOf i).toNat)
    case atStart => exact ⟨0, 0, rfl, Nat.zero_le _, rfl⟩
    case round =>
      obtain ⟨k, m, rfl, hk, rfl⟩ := hrel
      by_cases hlt : k < N
      · have d2 : decide ((k : Int) < (N : Int)) = true := decide_eq_true (by omega)
        have d2b : decide (k < N) = true := decide_eq_true hlt
        have i0 : (0 : Int) ≤ (k : Int) := by omega
        have i1 : (k : Int) < (N : Int) := by omega
        have hks : k < ms.length := by rw [← HN.out]; exact hlt
        obtain ⟨b, off, rfl, hbw, p0, p1⟩ := HA1.out.at k hks
        obtain ⟨b', off', rfl, hbw', q0, q1⟩ := HA2.out.at k hks
        obtain ⟨⟨x, y⟩, hxy⟩ : ∃ q, ms[k]'hks = q := ⟨_, rfl⟩
        rw [hxy] at p0 p1 q0 q1
        simp only at p0 p1 q0 q1
        have t1 : (x != x) = false := by simp
        have t2 : (y != y) = false := by simp
        clear hxy
        go_wp2_with fail
        go_quiet (fail)
        go_wp2_with fail
        go_roundw
        case rel => exact ⟨k + 1, _, by go_num, hlt, by first | rfl | exact drewN_two _ _ _⟩
        case measure => simp [intOf]; omega
      · have d2 : decide ((k : Int) < (N : Int)) = false := decide_eq_false (by omega)
        have d2b : decide (k < N) = false := decide_eq_false hlt
        have HBd : Hid (Below w.heap.size w (X2.drewN m)) := below_drawn HB2.out m
        clear hlt
        go_wp2_with fail
        refine (HF1.out _ HBd.out).mono ?_
        rintro e X3 ⟨rfl, hB3⟩
        have HB3 : Hid (Below w.heap.size w X3) := HBd.out.trans (hB3.mono HBd.out.size)
        clear hB3
        go_wp2_with fail
        refine (HF2.out _ HB3.out).mono ?_
        rintro e X4 ⟨rfl, hB4⟩
        have HB4 : Hid (Below w.heap.size w X4) := HB3.out.trans (hB4.mono HB3.out.size)
        clear hB4
        simp only [mcs]
        have t1 : ((r1 : Int) == (r1 : Int)) = true := by simp
        have t2 : ((r2 : Int) == (r2 : Int)) = true := by simp
        go_wp2_with fail
        refine (HL.out _).mono ?_
        rintro e Y ⟨rfl, hB⟩
        have HY : Hid (Below w.heap.size w Y) := ((HB4.out.alloc HB4.out.size _).alloc (by have := HB4.out.size; simp; omega) _).trans (hB.mono (by have := HB4.out.size; simp; omega))
        clear hB
        go_wp2_with fail
        go_ret
        exact ⟨rfl, HY.out⟩
end Go.Proofs.Ytmheafadahdbfaa
