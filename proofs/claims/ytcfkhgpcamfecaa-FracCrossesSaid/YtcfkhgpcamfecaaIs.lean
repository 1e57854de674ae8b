/- Layer 23's reference: Is; the law's out; what Cross answers, either way round. -/
import Derived.Test.YtcfkhgpcamfecaaCrossMath
import Derived.Test.YtcfkhgpcamfecaaRatOf
import Derived.Test.YtcfkhgpcamfecaaFracLive
namespace Go.Proofs.Ytcfkhgpcamfecaa
open Go.RowKit Big
set_option linter.unusedVariables false
set_option maxRecDepth 100000

theorem lout_any (q : Int) (w : World) : Calls Try.prog 39 #[.int .i64 q] w fun e w' => e = .returned (.bool (!okQ q)) ∧ w = w' := by
  by_cases h1 : -4503599627370496 ≤ q
  · have b1 : decide (q < -4503599627370496) = false := by simp; omega
    by_cases h2 : q ≤ 4503599627370496
    · rw [show okQ q = true by simp [okQ, h1, h2]]
      have b2 : decide (4503599627370496 < q) = false := by simp; omega
      clear h1 h2
      go_enter Try.func39, Try.ntmps39
      go_wp2_with fail
      go_ret
      exact ⟨rfl, rfl⟩
    · rw [show okQ q = false by simp [okQ, h1, h2]]
      have b2 : decide (4503599627370496 < q) = true := by simp; omega
      clear h1 h2
      go_enter Try.func39, Try.ntmps39
      go_wp2_with fail
      go_ret
      exact ⟨rfl, rfl⟩
  · rw [show okQ q = false by simp [okQ, h1]]
    have b1 : decide (q < -4503599627370496) = true := by simp; omega
    clear h1
    go_enter Try.func39, Try.ntmps39
    go_wp2_with fail
    go_ret
    exact ⟨rfl, rfl⟩

/-- The boxes of Is. -/
def IsSt (w W : World) (g : Nat) (q r dd : Int) (a b c d : Value) (N D : Int) : Prop :=
  Whole W g 46 #[.int .i64 q, .int .u64 r, .int .u64 dd] ∧ Whole W (g + 1) 56 #[a, b, c, d] ∧ IsRat W W.heap.size (.agg #[a, b, c, d]) N D 24 ∧ Below w.heap.size w W
section
variable {w W W' : World} {g : Nat} {q r dd : Int} {a b c d : Value} {N D : Int}
theorem IsSt.keep (H : IsSt w W g q r dd a b c d N D) (hb : Below W.heap.size W W') : IsSt w W' g q r dd a b c d N D :=
  ⟨H.1.below hb H.1.lt, H.2.1.below hb H.2.1.lt, (H.2.2.1.keep hb).more hb.size (Nat.le_refl _), below_then H.2.2.2 hb H.2.2.2.size⟩
theorem IsSt.cells (H : IsSt w W g q r dd a b c d N D) : W.cell? ⟨g, 0, none⟩ = some (.int .i64 q) ∧ W.cell? ⟨g, 1, none⟩ = some (.int .u64 r) ∧ W.cell? ⟨g, 2, none⟩ = some (.int .u64 dd) ∧
    W.cell? ⟨g + 1, 0, none⟩ = some a ∧ W.cell? ⟨g + 1, 1, none⟩ = some b ∧ W.cell? ⟨g + 1, 2, none⟩ = some c ∧ W.cell? ⟨g + 1, 3, none⟩ = some d :=
  ⟨H.1.cell 0, H.1.cell 1, H.1.cell 2, H.2.1.cell 0, H.2.1.cell 1, H.2.1.cell 2, H.2.1.cell 3⟩
theorem IsSt.rat (H : IsSt w W g q r dd a b c d N D) : IsRat W W.heap.size (.agg #[a, b, c, d]) N D 24 := H.2.2.1
end
theorem IsSt.new (w : World) (q r dd : Int) {a b c d : Value} {N D : Int} (h : IsRat w w.heap.size (.agg #[a, b, c, d]) N D 24) :
    IsSt w ((w.alloc (.cells #[.int .i64 q, .int .u64 r, .int .u64 dd] 46)).alloc (.cells #[a, b, c, d] 56)) w.heap.size q r dd a b c d N D := by
  have hb : Below w.heap.size w ((w.alloc (.cells #[.int .i64 q, .int .u64 r, .int .u64 dd] 46)).alloc (.cells #[a, b, c, d] 56)) := ((Below.refl _ _).alloc (Nat.le_refl _) _).alloc (by simp) _
  refine ⟨(Whole.new w _ _).alloc _, ?_, (h.keep hb).more hb.size (Nat.le_refl _), hb⟩
  have := Whole.new (w.alloc (.cells #[.int .i64 q, .int .u64 r, .int .u64 dd] 46)) 56 #[a, b, c, d]
  simpa using this

set_option maxHeartbeats 4000000 in
theorem is_true (q : Int) (r d : Nat) (v : Value) (N D : Int) (w : World) (hq : -9223372036854775808 ≤ q ∧ q < 9223372036854775808) (hr : r < 18446744073709551616) (hd : d < 18446744073709551616) (hv : IsRat w w.heap.size v N D 24) (hk : okF q r d = true)
    (he : (q * (d : Int) + (r : Int)) * D - N * (d : Int) = 0) :
    Calls Try.prog 40 #[.agg #[.int .i64 q, .int .u64 (r : Int), .int .u64 (d : Int)], v] w fun e w' => e = .returned (.bool true) ∧ Below w.heap.size w w' := by
  obtain ⟨a, b, c, e1, rfl, hv1, hv2⟩ := hv
  have hst := IsSt.new w q (r : Int) (d : Int) (⟨a, b, c, e1, rfl, hv1, hv2⟩ : IsRat w w.heap.size (.agg #[a, b, c, e1]) N D 24)
  have h1 := Lib.hid fun W => rright_any q r d W hr hd
  have h2 := Lib.hid fun W => ratOf_any q r d W hq hr hd
  rw [hk] at h1
  have hs : signI ((q * (d : Int) + (r : Int)) * D - N * (d : Int)) = 0 := by rw [he]; rfl
  have HSG := Lib.hid hs
  obtain ⟨W0, hW0⟩ : ∃ W0, W0 = ((w.alloc (.cells #[.int .i64 q, .int .u64 (r : Int), .int .u64 (d : Int)] 46)).alloc (.cells #[a, b, c, e1] 56)) := ⟨_, rfl⟩
  obtain ⟨g, hg⟩ : ∃ g, g = w.heap.size := ⟨_, rfl⟩
  have HW0 := Lib.hid hW0
  have Hg := Lib.hid hg
  clear hW0 hg hv1 hv2 hk he hq hr hd hs
  go_enter Try.func40, Try.ntmps40
  go_wp2_with fail
  rw [← HW0.out, ← Hg.out] at hst ⊢
  have H0 := Lib.hid (hst.keep (Below.refl _ _).drew)
  clear hst HW0 Hg
  have Ho := Lib.hid fun X x (hx : IsRat X X.heap.size x (q * (d : Int) + (r : Int)) (d : Int) 10) (H : IsSt w X g q (r : Int) (d : Int) a b c e1 N D) => order_any x (.agg #[a, b, c, e1]) _ _ _ _ 10 24 X hx H.rat (by omega) (by omega)
  rw [HSG.out] at Ho
  clear HSG
  go_region_held3 (fun W => W.cell? ⟨g, 0, none⟩ = some (.int .i64 q) ∧ W.cell? ⟨g, 1, none⟩ = some (.int .u64 (r : Int)) ∧ W.cell? ⟨g, 2, none⟩ = some (.int .u64 (d : Int)) ∧
      W.cell? ⟨g + 1, 0, none⟩ = some a ∧ W.cell? ⟨g + 1, 1, none⟩ = some b ∧ W.cell? ⟨g + 1, 2, none⟩ = some c ∧ W.cell? ⟨g + 1, 3, none⟩ = some e1)
    (first | exact H0.out.cells | exact H1.out.cells | exact H2.out.cells | exact H3.out.cells)
    (first
      | (go_at_call 27; refine (h1.out _).mono ?_; rintro e X1 ⟨rfl, hx1⟩; (have H1 := Lib.hid (H0.out.keep hx1)); clear hx1)
      | (go_at_call 34; refine (h2.out _).mono ?_; rintro e X2 ⟨z2, rfl, hz2, hx2⟩; (have H2 := Lib.hid (H1.out.keep hx2)); (have HZ := Lib.hid hz2); clear hx2 hz2)
      | (go_at_call 35; (with_reducible refine (Ho.out _ _ HZ.out H2.out).mono ?_); rintro e X3 ⟨rfl, hx3⟩; (have H3 := Lib.hid (H2.out.keep hx3)); clear hx3))
  go_wp2_with fail
  go_ret
  exact ⟨rfl, H3.out.2.2.2⟩

theorem crossS_sym (a b e f c : Int) : crossS e f a b c = crossS a b e f c := by
  unfold crossS
  rcases Int.lt_trichotomy a e with h | h | h
  · rw [if_pos h, if_neg (by omega)]
  · subst h
    rw [if_neg (by omega), if_neg (by omega), crossR, crossR, if_pos (Or.inl rfl), if_pos (Or.inl rfl)]
  · rw [if_neg (by omega), if_pos h]
theorem crossV_sym (a b e f c : Int) (up : Bool) : crossV e f a b c up = crossV a b e f c up := by
  unfold crossV
  have h : okAll e f a b c = okAll a b e f c := by
    cases h1 : okAll a b e f c
    · cases h2 : okAll e f a b c
      · rfl
      · rw [(okAll_turn h2).2] at h1; exact h1
    · exact (okAll_turn h1).2
  rw [h, crossS_sym a b, crossS_sym b a]
/-- Where nothing crosses. -/
theorem cross_none (a b e f c : Int) (h : a = e ∨ (c < a ∧ c < e) ∨ (a < c ∧ e < c)) : crossS a b e f c = .tuple #[.agg #[.int .i64 0, .int .u64 0, .int .u64 0], .int .i64 6] := by
  unfold crossS crossR
  split
  · rw [if_pos (by omega)]
  · rw [if_pos (by omega)]
/-- Where the line crosses, in either order of its points. -/
theorem cross_some (a b e f c : Int) (hall : okAll a b e f c = true) (h : ¬ (a = e ∨ (c < a ∧ c < e) ∨ (a < c ∧ e < c))) :
    ∃ (Q : Int) (R D : Nat), crossS a b e f c = .tuple #[.agg #[.int .i64 Q, .int .u64 (R : Int), .int .u64 (D : Int)], .int .i64 0] ∧ okF Q R D = true ∧
      (∀ N' D' : Int, (1 * (e - a) < 0 → N' = -((c - a) * (f - b) * 1) ∧ D' = -(1 * (e - a))) → (¬ 1 * (e - a) < 0 → N' = (c - a) * (f - b) * 1 ∧ D' = 1 * (e - a)) → (Q * (D : Int) + (R : Int)) * (1 * D') - (b * D' + N' * 1) * (D : Int) = 0) ∧
      (c = a → Q = b ∧ R = 0 ∧ D = 1) ∧ R < 18446744073709551616 ∧ D < 18446744073709551616 := by
  rcases Int.lt_trichotomy a e with h1 | h1 | h1
  · obtain ⟨Q, R, D, e1, e2, e3, e4, _, e6, e7⟩ := cross_yes a b e f c hall h1 (by omega) (by omega)
    refine ⟨Q, R, D, by rw [crossS, if_neg (by omega)]; exact e1, e2, ?_, e4, e6, e7⟩
    intro N' D' _ hp
    obtain ⟨rfl, rfl⟩ := hp (by omega)
    simp only [Int.mul_one, Int.one_mul]
    rw [e3]
    omega
  · exact absurd (.inl h1) h
  · obtain ⟨Q, R, D, e1, e2, e3, _, e5, e6, e7⟩ := cross_yes e f a b c (okAll_turn hall).2 h1 (by omega) (by omega)
    refine ⟨Q, R, D, by rw [crossS, if_pos h1]; exact e1, e2, ?_, e5, e6, e7⟩
    intro N' D' hn _
    obtain ⟨rfl, rfl⟩ := hn (by omega)
    simp only [Int.mul_one, Int.one_mul]
    rw [show -(e - a) = a - e by omega, e3]
    have k : f * (a - e) + (c - e) * (b - f) = b * (a - e) + -((c - a) * (f - b)) := by
      simp only [Int.mul_sub, Int.sub_mul]
      rw [Int.mul_comm c b, Int.mul_comm e b, Int.mul_comm c f, Int.mul_comm e f, Int.mul_comm a f, Int.mul_comm a b]
      omega
    rw [k]
    omega
theorem neq_frac (a b c : Int) (W : World) :
    (binOp .neq 46 (.agg #[.int .i64 a, .int .u64 b, .int .u64 c]) (.agg #[.int .i64 a, .int .u64 b, .int .u64 c])).run Try.prog W = .ok (.bool false) W := by go_simp
end Go.Proofs.Ytcfkhgpcamfecaa
