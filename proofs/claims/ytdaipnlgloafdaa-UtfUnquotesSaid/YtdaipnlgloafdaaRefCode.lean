/- Walks over layer 15: the reference's code. -/
import Derived.Test.YtdaipnlgloafdaaRefFour
import Derived.Test.YtdaipnlgloafdaaUnqTurn
namespace Go.Proofs.Ytdaipnlgloafdaa
open Go.RowKit Utf
set_option linter.unusedVariables false
set_option maxRecDepth 100000

theorem u0 : ((⟨#[92, 117]⟩ : ByteArray)[0]'(by decide)).toNat = 92 := rfl
theorem u1 : ((⟨#[92, 117]⟩ : ByteArray)[1]'(by decide)).toNat = 117 := rfl

set_option maxHeartbeats 4000000 in
theorem refCode_any (b : ByteArray) (k : Nat) (w : World) (hk : k ≤ b.size) (hs : b.size ≤ 100000000) (P : Int × Nat × Int) (hP : pointE (bs b) k = P) :
    Calls Try.prog 20 #[.string b, .int .i64 (k : Int)] w fun e w' => e = .returned (.tuple #[.int .i64 P.1, .int .i64 (P.2.1 : Int), .int .i64 P.2.2]) ∧ Below w.heap.size w w' := by
  have hlen := bs_length b
  have hx0 := u0
  have hx1 := u1
  unfold pointE at hP
  have hlt := fourE_lt (bs b) 4 k 0 1 (by omega) (by omega)
  obtain ⟨F, hF⟩ : ∃ F, fourE (bs b) 4 k 0 = F := ⟨_, rfl⟩
  have hf := Lib.hid fun W => four_any b k W (by omega) (by omega) F hF
  rw [hF] at hP hlt
  obtain ⟨n, e⟩ := F
  simp only at hP hlt
  by_cases b1 : e = 0
  · subst b1
    rw [if_pos rfl] at hP
    obtain ⟨n0, n1⟩ := hlt rfl
    have n2 : n < 65536 := by simpa using n1
    clear hlt n1 hF
    have w4 : IntKind.i64.wrap ((k : Int) + 4) = (k : Int) + 4 := IntWalk.i64_in _ ⟨by omega, by omega⟩
    have w5 : IntKind.i64.wrap ((k : Int) + 5) = (k : Int) + 5 := IntWalk.i64_in _ ⟨by omega, by omega⟩
    have w6 : IntKind.i64.wrap ((k : Int) + 6) = (k : Int) + 6 := IntWalk.i64_in _ ⟨by omega, by omega⟩
    have w7 : IntKind.i64.wrap ((k : Int) + 10) = (k : Int) + 10 := IntWalk.i64_in _ ⟨by omega, by omega⟩
    by_cases b2 : 56320 ≤ n ∧ n ≤ 57343
    · rw [if_pos b2] at hP
      subst hP
      have q1 : decide (56320 ≤ n) = true := decide_eq_true b2.1
      have q2 : decide (n < 57344) = true := decide_eq_true (by omega)
      clear b2
      go_enter Try.func20, Try.ntmps20
      go_wp2_with fail
      refine (hf.out _).mono ?_
      rintro e1 W ⟨rfl, rfl⟩
      go_wp2_with fail
      go_ret3
      exact ⟨rfl, Below.refl _ _⟩
    · rw [if_neg b2] at hP
      by_cases c2 : 55296 ≤ n ∧ n < 56320
      · rw [if_pos c2] at hP
        clear w4 w5 w6
        obtain ⟨j, hj⟩ : ∃ j : Nat, j = k + 4 := ⟨_, rfl⟩
        obtain ⟨i, hi⟩ : ∃ i : Nat, i = k + 5 := ⟨_, rfl⟩
        obtain ⟨m, hm⟩ : ∃ m : Nat, m = k + 6 := ⟨_, rfl⟩
        have w4 : IntKind.i64.wrap ((k : Int) + 4) = (j : Int) := by rw [IntWalk.i64_in _ ⟨by omega, by omega⟩]; omega
        have w5 : IntKind.i64.wrap ((k : Int) + 5) = (i : Int) := by rw [IntWalk.i64_in _ ⟨by omega, by omega⟩]; omega
        have w6 : IntKind.i64.wrap ((k : Int) + 6) = (m : Int) := by rw [IntWalk.i64_in _ ⟨by omega, by omega⟩]; omega
        have q1 : decide (56320 ≤ n) = false := decide_eq_false (by omega)
        have q3 : decide (n < 55296) = false := decide_eq_false (by omega)
        have q4 : decide (57344 ≤ n) = false := decide_eq_false (by omega)
        obtain ⟨Q, hQ⟩ : ∃ Q, lowE (bs b) (k + 4) = Q := ⟨_, rfl⟩
        rw [hQ] at hP
        unfold lowE at hQ
        rw [← hj, show j + 1 = i by omega, show j + 2 = m by omega] at hQ
        by_cases a1 : j < b.size
        · rw [if_pos (by omega)] at hQ
          have g1 := bs_get b j a1
          have n1 : decide ((b.size : Int) ≤ (j : Int)) = false := decide_eq_false (by omega)
          generalize (bs b).getD j 0 = c at *
          have hc8 : c < 256 := by rw [← g1]; exact UInt8.toNat_lt _
          by_cases a2 : c = 92
          · subst a2
            rw [if_pos rfl] at hQ
            by_cases a3 : i < b.size
            · rw [if_pos (by omega)] at hQ
              have g2 := bs_get b i a3
              have n2 : decide ((b.size : Int) ≤ (i : Int)) = false := decide_eq_false (by omega)
              generalize (bs b).getD i 0 = d at *
              by_cases a4 : d = 117
              · subst a4
                rw [if_pos rfl] at hQ
                obtain ⟨G, hG⟩ : ∃ G, fourE (bs b) 4 m 0 = G := ⟨_, rfl⟩
                rw [hG] at hQ
                have hf2 := Lib.hid fun W => four_any b m W (by omega) (by omega) G hG
                have hlt2 := fourE_lt (bs b) 4 m 0 1 (by omega) (by omega)
                rw [hG] at hlt2
                obtain ⟨x, e⟩ := G
                simp only [lowD] at hQ
                have wa : IntKind.i64.wrap (n - 55296) = n - 55296 := IntWalk.i64_in _ ⟨by omega, by omega⟩
                have wb : IntKind.i64.wrap (1024 * (n - 55296)) = 1024 * (n - 55296) := IntWalk.i64_in _ ⟨by omega, by omega⟩
                have wc : IntKind.i64.wrap (65536 + 1024 * (n - 55296)) = 65536 + 1024 * (n - 55296) := IntWalk.i64_in _ ⟨by omega, by omega⟩
                by_cases e2 : e = 0
                · subst e2
                  rw [if_pos rfl] at hQ
                  obtain ⟨x0, x1⟩ := hlt2 rfl
                  have x2 : x < 65536 := by simpa using x1
                  clear x1 hG
                  by_cases x3 : x < 56320
                  · rw [if_pos (.inl x3)] at hQ
                    subst hQ
                    rw [if_neg (by decide)] at hP
                    subst hP
                    have q5 : decide (x < 56320) = true := decide_eq_true x3
                    clear hj hi hm b2 c2 x3
                    go_enter Try.func20, Try.ntmps20
                    go_wp2_with fail
                    refine (hf.out _).mono ?_
                    rintro e1 W ⟨rfl, rfl⟩
                    go_wp2_with fail
                    refine wp_loop_rounds 3 ?_
                    rw [rounds_succ]
                    go_wp2_with fail
                    go_quiet (fail)
                    go_wp2_with fail
                    rw [rounds_succ]
                    go_wp2_with fail
                    go_quiet (fail)
                    go_wp2_with fail
                    rw [rounds_succ]
                    go_wp2_with fail
                    refine (hf2.out _).mono ?_
                    rintro e1 W ⟨rfl, rfl⟩
                    go_wp2_with fail
                    go_ret3
                    exact ⟨rfl, by first | exact below_drawn (Below.refl _ _) _ | exact below_drawn (below_drawn (Below.refl _ _) _) _⟩
                  · by_cases x4 : 57343 < x
                    · rw [if_pos (.inr x4)] at hQ
                      subst hQ
                      rw [if_neg (by decide)] at hP
                      subst hP
                      have q5 : decide (x < 56320) = false := decide_eq_false x3
                      have q6 : decide (57344 ≤ x) = true := decide_eq_true (by omega)
                      clear hj hi hm b2 c2 x3 x4
                      go_enter Try.func20, Try.ntmps20
                      go_wp2_with fail
                      refine (hf.out _).mono ?_
                      rintro e1 W ⟨rfl, rfl⟩
                      go_wp2_with fail
                      refine wp_loop_rounds 3 ?_
                      rw [rounds_succ]
                      go_wp2_with fail
                      go_quiet (fail)
                      go_wp2_with fail
                      rw [rounds_succ]
                      go_wp2_with fail
                      go_quiet (fail)
                      go_wp2_with fail
                      rw [rounds_succ]
                      go_wp2_with fail
                      refine (hf2.out _).mono ?_
                      rintro e1 W ⟨rfl, rfl⟩
                      go_wp2_with fail
                      go_ret3
                      exact ⟨rfl, by first | exact below_drawn (Below.refl _ _) _ | exact below_drawn (below_drawn (Below.refl _ _) _) _⟩
                    · rw [if_neg (by omega)] at hQ
                      subst hQ
                      rw [if_pos rfl] at hP
                      subst hP
                      have q5 : decide (x < 56320) = false := decide_eq_false x3
                      have q6 : decide (57344 ≤ x) = false := decide_eq_false (by omega)
                      have wd : IntKind.i64.wrap (65536 + 1024 * (n - 55296) + x) = 65536 + 1024 * (n - 55296) + x := IntWalk.i64_in _ ⟨by omega, by omega⟩
                      have we : IntKind.i64.wrap (65536 + 1024 * (n - 55296) + x - 56320) = 65536 + 1024 * (n - 55296) + (x - 56320) := by rw [IntWalk.i64_in _ ⟨by omega, by omega⟩]; omega
                      clear hj hi hm b2 c2 x3 x4
                      go_enter Try.func20, Try.ntmps20
                      go_wp2_with fail
                      refine (hf.out _).mono ?_
                      rintro e1 W ⟨rfl, rfl⟩
                      go_wp2_with fail
                      refine wp_loop_rounds 3 ?_
                      rw [rounds_succ]
                      go_wp2_with fail
                      go_quiet (fail)
                      go_wp2_with fail
                      rw [rounds_succ]
                      go_wp2_with fail
                      go_quiet (fail)
                      go_wp2_with fail
                      rw [rounds_succ]
                      go_wp2_with fail
                      refine (hf2.out _).mono ?_
                      rintro e1 W ⟨rfl, rfl⟩
                      go_wp2_with fail
                      go_ret3
                      exact ⟨rfl, by first | exact below_drawn (Below.refl _ _) _ | exact below_drawn (below_drawn (Below.refl _ _) _) _⟩
                · rw [if_neg e2] at hQ
                  subst hQ
                  rw [if_neg e2] at hP
                  subst hP
                  have q5 : (e == 0) = false := beq_eq_false_iff_ne.mpr e2
                  clear hj hi hm b2 c2 e2 hlt2
                  go_enter Try.func20, Try.ntmps20
                  go_wp2_with fail
                  refine (hf.out _).mono ?_
                  rintro e1 W ⟨rfl, rfl⟩
                  go_wp2_with fail
                  refine wp_loop_rounds 3 ?_
                  rw [rounds_succ]
                  go_wp2_with fail
                  go_quiet (fail)
                  go_wp2_with fail
                  rw [rounds_succ]
                  go_wp2_with fail
                  go_quiet (fail)
                  go_wp2_with fail
                  rw [rounds_succ]
                  go_wp2_with fail
                  refine (hf2.out _).mono ?_
                  rintro e1 W ⟨rfl, rfl⟩
                  go_wp2_with fail
                  go_ret3
                  exact ⟨rfl, by first | exact below_drawn (Below.refl _ _) _ | exact below_drawn (below_drawn (Below.refl _ _) _) _⟩
              · rw [if_neg a4] at hQ
                subst hQ
                rw [if_neg (by decide)] at hP
                subst hP
                have q5 : ((d : Int) == 117) = false := beq_eq_false_iff_ne.mpr (by omega)
                clear hj hi hm b2 c2 a4
                go_enter Try.func20, Try.ntmps20
                go_wp2_with fail
                refine (hf.out _).mono ?_
                rintro e1 W ⟨rfl, rfl⟩
                go_wp2_with fail
                refine wp_loop_rounds 3 ?_
                rw [rounds_succ]
                go_wp2_with fail
                go_quiet (fail)
                go_wp2_with fail
                rw [rounds_succ]
                go_wp2_with fail
                go_quiet (fail)
                go_wp2_with fail
                go_ret3
                exact ⟨rfl, by first | exact below_drawn (Below.refl _ _) _ | exact below_drawn (below_drawn (Below.refl _ _) _) _⟩
            · rw [if_neg (by omega)] at hQ
              subst hQ
              rw [if_neg (by decide)] at hP
              subst hP
              have n2 : decide ((b.size : Int) ≤ (i : Int)) = true := decide_eq_true (by omega)
              clear hj hi hm b2 c2
              go_enter Try.func20, Try.ntmps20
              go_wp2_with fail
              refine (hf.out _).mono ?_
              rintro e1 W ⟨rfl, rfl⟩
              go_wp2_with fail
              refine wp_loop_rounds 3 ?_
              rw [rounds_succ]
              go_wp2_with fail
              go_quiet (fail)
              go_wp2_with fail
              rw [rounds_succ]
              go_wp2_with fail
              go_ret3
              exact ⟨rfl, below_drawn (Below.refl _ _) _⟩
          · rw [if_neg a2] at hQ
            subst hQ
            rw [if_neg (by decide)] at hP
            subst hP
            have q5 : ((c : Int) == 92) = false := beq_eq_false_iff_ne.mpr (by omega)
            clear hj hi hm b2 c2 a2
            go_enter Try.func20, Try.ntmps20
            go_wp2_with fail
            refine (hf.out _).mono ?_
            rintro e1 W ⟨rfl, rfl⟩
            go_wp2_with fail
            refine wp_loop_rounds 3 ?_
            rw [rounds_succ]
            go_wp2_with fail
            go_quiet (fail)
            go_wp2_with fail
            go_ret3
            exact ⟨rfl, below_drawn (Below.refl _ _) _⟩
        · rw [if_neg (by omega)] at hQ
          subst hQ
          rw [if_neg (by decide)] at hP
          subst hP
          have n1 : decide ((b.size : Int) ≤ (j : Int)) = true := decide_eq_true (by omega)
          clear hj hi hm b2 c2
          go_enter Try.func20, Try.ntmps20
          go_wp2_with fail
          refine (hf.out _).mono ?_
          rintro e1 W ⟨rfl, rfl⟩
          go_wp2_with fail
          refine wp_loop_rounds 3 ?_
          rw [rounds_succ]
          go_wp2_with fail
          go_ret3
          exact ⟨rfl, Below.refl _ _⟩
      · rw [if_neg c2] at hP
        subst hP
        by_cases d1 : n < 55296
        · have q1 : decide (56320 ≤ n) = false := decide_eq_false (by omega)
          have q2 : decide (n < 55296) = true := decide_eq_true d1
          clear b2 c2 d1
          go_enter Try.func20, Try.ntmps20
          go_wp2_with fail
          refine (hf.out _).mono ?_
          rintro e1 W ⟨rfl, rfl⟩
          go_wp2_with fail
          go_ret3
          exact ⟨rfl, Below.refl _ _⟩
        · have q1 : decide (56320 ≤ n) = true := decide_eq_true (by omega)
          have q2 : decide (n < 57344) = false := decide_eq_false (by omega)
          have q3 : decide (n < 55296) = false := decide_eq_false d1
          have q4 : decide (57344 ≤ n) = true := decide_eq_true (by omega)
          clear b2 c2 d1
          go_enter Try.func20, Try.ntmps20
          go_wp2_with fail
          refine (hf.out _).mono ?_
          rintro e1 W ⟨rfl, rfl⟩
          go_wp2_with fail
          go_ret3
          exact ⟨rfl, Below.refl _ _⟩
  · rw [if_neg b1] at hP
    subst hP
    have q1 : (e == 0) = false := beq_eq_false_iff_ne.mpr b1
    clear b1 hlt hF
    go_enter Try.func20, Try.ntmps20
    go_wp2_with fail
    refine (hf.out _).mono ?_
    rintro e1 W ⟨rfl, rfl⟩
    go_wp2_with fail
    go_ret3
    exact ⟨rfl, Below.refl _ _⟩
end Go.Proofs.Ytdaipnlgloafdaa
