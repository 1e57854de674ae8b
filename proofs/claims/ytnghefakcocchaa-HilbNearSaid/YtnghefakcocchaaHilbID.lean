/- Walks over layer 11: ID. -/
import Derived.Test.YtnghefakcocchaaHilbTurn
namespace Go.Proofs.Ytnghefakcocchaa
open Go.RowKit Hilb
set_option linter.unusedVariables false

theorem idn_congr : ∀ (n : Nat) {x x' y y' : Nat}, x % 2 ^ n = x' % 2 ^ n → y % 2 ^ n = y' % 2 ^ n → idn n x y = idn n x' y'
  | 0, _, _, _, _, _, _ => rfl
  | n + 1, x, x', y, y', hx, hy => by
    have split : ∀ {u v : Nat}, u % 2 ^ (n + 1) = v % 2 ^ (n + 1) → u / 2 ^ n % 2 = v / 2 ^ n % 2 ∧ u % 2 ^ n = v % 2 ^ n := by
      intro u v h
      rw [Nat.pow_succ, Nat.mod_mul, Nat.mod_mul] at h
      have h1 := Nat.mod_lt u (p2 n)
      have h2 := Nat.mod_lt v (p2 n)
      have h3 : (u % 2 ^ n + 2 ^ n * (u / 2 ^ n % 2)) / 2 ^ n = (v % 2 ^ n + 2 ^ n * (v / 2 ^ n % 2)) / 2 ^ n := by rw [h]
      rw [Nat.add_mul_div_left _ _ (p2 n), Nat.add_mul_div_left _ _ (p2 n), Nat.div_eq_of_lt h1, Nat.div_eq_of_lt h2] at h3
      have h4 : u / 2 ^ n % 2 = v / 2 ^ n % 2 := by omega
      rw [h4] at h
      exact ⟨h4, by omega⟩
    simp only [idn]
    rw [(split hx).1, (split hy).1, trn_congr (split hx).2 (split hy).2]

/-- One round of the program's loop. -/
theorem idn_step (n x y : Nat) : idn (n + 1) x y = 4 ^ n * qd (x / 2 ^ n % 2) (y / 2 ^ n % 2) + idn n (trnU (2 ^ n) x y (x / 2 ^ n % 2) (y / 2 ^ n % 2)).1 (trnU (2 ^ n) x y (x / 2 ^ n % 2) (y / 2 ^ n % 2)).2 := by
  have h := trnU_mod (p2 n) x y (x / 2 ^ n % 2) (y / 2 ^ n % 2)
  have ht := trn_lt (p2 n) x y (x / 2 ^ n % 2) (y / 2 ^ n % 2)
  simp only [idn]
  congr 1
  exact idn_congr n (by rw [h.1, Nat.mod_eq_of_lt ht.1]) (by rw [h.2, Nat.mod_eq_of_lt ht.2])

theorem sq4 (n : Nat) : 2 ^ n * 2 ^ n = 4 ^ n := by
  rw [← Nat.pow_add, ← Nat.two_mul, Nat.pow_mul]
theorem fst_idn_lt (z x y : Nat) (hz : z ≤ 30) : fst z + idn z x y < 4611686018427387904 := by
  have h1 := idn_lt z x y
  have h2 : fst (z + 1) ≤ fst 31 := fst_mono (by omega)
  have h3 : fst 31 < 4611686018427387904 := by decide +kernel
  rw [fst_succ] at h2
  omega

theorem shl1w (k p : Nat) (h : k ≤ 30) (hp : p = 2 ^ k) : wrap64 ((2 : Int) ^ k) = (p : Int) := by
  have := p2_30 k h
  have e : (2 : Int) ^ k = ((2 ^ k : Nat) : Int) := by rw [Int.natCast_pow]; rfl
  rw [e, hp]
  clear e hp
  generalize 2 ^ k = m at *
  exact IntWalk.wrap64_in _ ⟨by omega, by omega⟩
theorem bit_s (x n s : Nat) (w : World) (hx : x < 1073741824) (hn : n ≤ 30) (hs : s = 2 ^ n) :
    Calls Try.prog 18 #[.int .i64 (x : Int), .int .i64 (s : Int)] w fun e w' => e = .returned (.int .i64 (x / s % 2 : Nat)) ∧ w = w' := by
  rw [hs]
  exact bit_any x n _ w hx hn rfl

theorem id_arith (D Q q : Nat) (B : Int) (hB : B = (q : Int)) (h : D + Q * q < 4611686018427387904) :
    IntKind.u64.wrap ((D : Int) + IntKind.u64.wrap (wrap64 ((Q : Int) * B))) = ((D + Q * q : Nat) : Int) := by
  subst hB
  rw [← Int.natCast_mul]
  generalize Q * q = p at *
  rw [IntWalk.wrap64_in (p : Int) ⟨by omega, by omega⟩, u64_wrap p (by omega), ← Int.natCast_add, u64_wrap _ (by omega)]

set_option maxHeartbeats 2000000 in
theorem id_yes (z x y : Nat) (w : World) (hz : z ≤ 30) (hx : x < 2 ^ z) (hy : y < 2 ^ z) :
    Calls Try.prog 7 #[.agg #[.int .i64 (z : Int), .int .i64 (x : Int), .int .i64 (y : Int)]] w
      fun e w' => e = .returned (.tuple #[.int .u64 (fst z + idn z x y : Nat), .int .i64 0]) ∧ Below w.heap.size w w' := by
  have hr := fun W => Lib.hid (right_yes z x y W hz hx hy)
  have hf := fun W => Lib.hid (first_nat z W (by omega))
  have hx30 := p2_30 z hz
  have Hr := Lib.hid hr; clear hr
  have Hf := Lib.hid hf; clear hf
  have Htot := Lib.hid (fst_idn_lt z x y hz)
  have HX : Hid (x < 2 ^ z ∧ y < 2 ^ z) := ⟨hx, hy⟩
  have hX : x < 1073741824 := by omega
  have hY : y < 1073741824 := by omega
  clear hx hy hx30
  go_enter Try.func7, Try.ntmps7
  go_wp2_with fail
  refine ((Hr.out _).out).mono ?_
  rintro e w1 ⟨rfl, hb1⟩
  obtain ⟨hA, hb, hlt⟩ := one_kept hb1
  clear hb1
  have a0 : w1.cell? ⟨w.heap.size, 0, none⟩ = some (.int .i64 (z : Int)) := hA.cell 0
  have a1 : w1.cell? ⟨w.heap.size, 1, none⟩ = some (.int .i64 (x : Int)) := hA.cell 1
  have a2 : w1.cell? ⟨w.heap.size, 2, none⟩ = some (.int .i64 (y : Int)) := hA.cell 2
  go_wp2_with fail
  refine ((Hf.out _).out).mono ?_
  rintro e w2 ⟨rfl, rfl⟩
  go_wp2
  go_quiet (fail)
  go_wp2
  go_loopw [4, 5, 6, 23] (fun d u v i W => ∃ k D U V m : Nat, k ≤ z ∧ D + idn (z - k) U V = fst z + idn z x y ∧ U < 1073741824 ∧ V < 1073741824 ∧ d = .int .u64 D ∧ u = .int .i64 U ∧ v = .int .i64 V ∧ i = .int .i64 k ∧ W = w1.drewN m) (fun _ _ _ i _ => z - (intOf i).toNat)
  case atStart => exact ⟨0, fst z, x, y, _, by omega, by simp, hX, hY, rfl, rfl, rfl, rfl, rfl⟩
  case round =>
    obtain ⟨k, D, U, V, m, hk, hD, hU, hV, rfl, rfl, rfl, rfl, rfl⟩ := hrel
    by_cases hlt : k < z
    · obtain ⟨n, hn⟩ : ∃ n, n = z - 1 - k := ⟨_, rfl⟩
      have hzk : z - k = n + 1 := by omega
      have hzk2 : Hid (z - (k + 1) = n) := by unfold Hid; omega
      have hn30 : n ≤ 30 := by omega
      rw [hzk, idn_step] at hD
      obtain ⟨s, hs⟩ : ∃ s, s = 2 ^ n := ⟨_, rfl⟩
      have hs0 : 0 < s := by rw [hs]; exact p2 n
      have hs1 : s ≤ 1073741824 := by rw [hs]; exact p2_30 n hn30
      have hbU := fun W => Lib.hid (bit_s U n s W hU hn30 hs)
      have hbV := fun W => Lib.hid (bit_s V n s W hV hn30 hs)
      have ha2 : U / s % 2 < 2 := Nat.mod_lt _ (by omega)
      have hb2 : V / s % 2 < 2 := Nat.mod_lt _ (by omega)
      have hsh : wrap64 ((2 : Int) ^ (z - 1 - k)) = (s : Int) := by
        rw [← hn]; exact shl1w n s hn30 hs
      have hss : ((s : Int) * (s : Int)) = ((4 ^ n : Nat) : Int) := by
        rw [hs, ← sq4]; simp
      rw [← hs] at hD
      generalize U / s % 2 = a at *
      generalize V / s % 2 = b at *
      have ht := fun W => Lib.hid (turn_any U V s a b W hU hV hs0 hs1 ha2 hb2)
      have htl := trnU_lt hs0 hs1 U V a b hU hV
      have hT := Htot.out
      rw [← hD] at hT
      have hQ62 : 4 ^ n < 4611686018427387904 := by
        have h1 := p4_31 n (by omega)
        have h2 : 4 ^ 30 < 4611686018427387904 := by decide
        have h3 : 4 ^ n ≤ 4 ^ 30 := Nat.pow_le_pow_right (by omega) hn30
        omega
      generalize hQ : 4 ^ n = Q at *
      generalize hR : idn n (trnU s U V a b).1 (trnU s U V a b).2 = R at *
      have HR := Lib.hid hR; clear hR
      obtain ⟨q, hq⟩ : ∃ q, q = qd a b := ⟨_, rfl⟩
      rw [← hq] at hT hD
      have Hq := Lib.hid hq; clear hq
      have ha3 : a = 0 ∨ a = 1 := by omega
      have hb3 : b = 0 ∨ b = 1 := by omega
      have HbU := Lib.hid hbU; have HbV := Lib.hid hbV; have Ht := Lib.hid ht; have HD := Lib.hid hD
      clear hbU hbV ht hn hzk hs hQ ha2 hb2 hD
      have HT := Lib.hid hT; clear hT
      have Htl := Lib.hid htl; clear htl
      rcases ha3 with rfl | rfl <;> rcases hb3 with rfl | rfl
      all_goals
        go_wp2_with (first
          | (go_at_call 18; (with_reducible refine ((HbU.out _).out).mono ?_); rintro e w' ⟨rfl, rfl⟩)
          | (go_at_call 18; (with_reducible refine ((HbV.out _).out).mono ?_); rintro e w' ⟨rfl, rfl⟩)
          | (go_at_call 19; (refine ((Ht.out _).out).mono ?_); rintro e w' ⟨rfl, m2, rfl⟩))
        go_roundw
        case rel =>
          refine ⟨k + 1, D + Q * q, _, _, m + m2, by omega, ?_, Htl.out.1, Htl.out.2, congrArg (Value.int .u64) (id_arith D Q q _ ?_ ?_), rfl, rfl, by go_num, rfl⟩
          · rw [hzk2.out, HR.out, Nat.add_assoc]; exact HD.out
          · rw [Hq.out]; decide
          · have := HT.out; omega
        case measure => simp [intOf]; omega
    · have hkz : k = z := by omega
      have HD := Lib.hid hD; clear hD
      subst hkz
      go_wp2
      go_ret2
      have h := HD.out
      rw [Nat.sub_self] at h
      exact ⟨ret_ints (by rw [← h]; simp [idn]) rfl, below_drewN hb _⟩
end Go.Proofs.Ytnghefakcocchaa
