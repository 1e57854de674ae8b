/- Walks over layer 27: side, between; winding, plainly. -/
import Derived.Test.YtlmnmilefggmpaaWind4
namespace Go.Proofs.Ytlmnmilefggmpaa
open Go.RowKit
set_option linter.unusedVariables false
set_option maxRecDepth 100000

def sd (a b p : P2) : Int := (b.1 - a.1) * (p.2 - a.2) - (p.1 - a.1) * (b.2 - a.2)
def btw (a b n : Int) : Bool := decide (min a b ≤ n ∧ n ≤ max a b)
theorem mul_in22 {x y : Int} (hx : -4194304 ≤ x ∧ x ≤ 4194304) (hy : -4194304 ≤ y ∧ y ≤ 4194304) : -17592186044416 ≤ x * y ∧ x * y ≤ 17592186044416 := by
  have := mul_in (A := 4194304) (B := 4194304) (x := x) (y := y) hx hy
  exact this
theorem btw_mul (a b n : Int) : btw a b n = decide ((n - a) * (n - b) ≤ 0) := by
  unfold btw
  rw [Bool.eq_iff_iff, decide_eq_true_iff, decide_eq_true_iff]
  by_cases h1 : n < a
  · by_cases h2 : n < b
    · have : 0 < (n - a) * (n - b) := Int.mul_pos_of_neg_of_neg (by omega) (by omega)
      constructor
      · intro h; omega
      · intro h; omega
    · have : (n - a) * (n - b) ≤ 0 := Int.mul_nonpos_of_nonpos_of_nonneg (by omega) (by omega)
      constructor
      · intro _; exact this
      · intro _; omega
  · by_cases h2 : n < b
    · have : (n - a) * (n - b) ≤ 0 := Int.mul_nonpos_of_nonneg_of_nonpos (by omega) (by omega)
      constructor
      · intro _; exact this
      · intro _; omega
    · by_cases h3 : n = a
      · subst h3
        constructor
        · intro _; simp
        · intro _; omega
      · by_cases h4 : n = b
        · subst h4
          constructor
          · intro _; simp
          · intro _; omega
        · have : 0 < (n - a) * (n - b) := Int.mul_pos (by omega) (by omega)
          constructor
          · intro h; omega
          · intro h; omega
theorem sd_cr (a b p : P2) : cr a b + cr b p + cr p a = sd a b p := by
  unfold cr sd
  simp only [Int.sub_mul, Int.mul_sub]
  have e1 : b.1 * a.2 = a.2 * b.1 := Int.mul_comm _ _
  have e2 : p.1 * b.2 = b.2 * p.1 := Int.mul_comm _ _
  have e3 : a.1 * p.2 = p.2 * a.1 := Int.mul_comm _ _
  omega
theorem area3 (a b p : P2) : area [a, b, p] = sd a b p := by
  rw [← sd_cr]
  unfold area
  show sg _ 3 = _
  simp only [sg, List.length_cons, List.length_nil]
  show 0 + cr a b + cr b p + cr p a = _
  omega
/-- What an edge adds. -/
def stp (a b p : P2) : Int := (if a.2 ≤ p.2 ∧ p.2 < b.2 ∧ 0 < sd a b p then 1 else 0) - (if b.2 ≤ p.2 ∧ p.2 < a.2 ∧ sd a b p < 0 then 1 else 0)
theorem stp_in (a b p : P2) : -1 ≤ stp a b p ∧ stp a b p ≤ 1 := by
  unfold stp
  constructor <;> split <;> split <;> omega
theorem stp_out (a b p : P2) (h1 : a.1 < p.1) (h2 : b.1 < p.1) : stp a b p = 0 := by
  unfold stp
  rw [if_neg, if_neg]
  · rfl
  · rintro ⟨h3, h4, h5⟩
    unfold sd at h5
    -- p.2 < a.2, b.2 ≤ p.2
    have k1 : 0 < (p.1 - a.1) * (a.2 - b.2) := Int.mul_pos (by omega) (by omega)
    have k2 : (p.1 - a.1) * (b.2 - a.2) = -((p.1 - a.1) * (a.2 - b.2)) := by rw [← Int.mul_neg]; congr 1; omega
    have k3 : (b.1 - a.1) * (p.2 - a.2) = -((b.1 - a.1) * (a.2 - p.2)) := by rw [← Int.mul_neg]; congr 1; omega
    rw [k2, k3] at h5
    by_cases hb : b.1 ≤ a.1
    · have k4 : (b.1 - a.1) * (a.2 - p.2) ≤ 0 := Int.mul_nonpos_of_nonpos_of_nonneg (by omega) (by omega)
      omega
    · have k4 : (b.1 - a.1) * (a.2 - p.2) ≤ (b.1 - a.1) * (a.2 - b.2) := Int.mul_le_mul_of_nonneg_left (by omega) (by omega)
      have k5 : (b.1 - a.1) * (a.2 - b.2) ≤ (p.1 - a.1) * (a.2 - b.2) := Int.mul_le_mul_of_nonneg_right (by omega) (by omega)
      omega
  · rintro ⟨h3, h4, h5⟩
    unfold sd at h5
    have k1 : 0 < (p.1 - a.1) * (b.2 - a.2) := Int.mul_pos (by omega) (by omega)
    by_cases hb : b.1 ≤ a.1
    · have k4 : (b.1 - a.1) * (p.2 - a.2) ≤ 0 := Int.mul_nonpos_of_nonpos_of_nonneg (by omega) (by omega)
      omega
    · have k4 : (b.1 - a.1) * (p.2 - a.2) ≤ (b.1 - a.1) * (b.2 - a.2) := Int.mul_le_mul_of_nonneg_left (by omega) (by omega)
      have k5 : (b.1 - a.1) * (b.2 - a.2) ≤ (p.1 - a.1) * (b.2 - a.2) := Int.mul_le_mul_of_nonneg_right (by omega) (by omega)
      omega
/-- Does an edge go through p? -/
def onE (a b p : P2) : Bool := decide (sd a b p = 0) && btw a.1 b.1 p.1 && btw a.2 b.2 p.2
def onTo (l : List P2) (p : P2) (k : Nat) : Bool := (List.range k).any fun j => onE (pt l j) (pt l ((j + 1) % l.length)) p
def windTo (l : List P2) (p : P2) (k : Nat) : Int := sg (fun j => stp (pt l j) (pt l ((j + 1) % l.length)) p) k
theorem onTo_succ (l : List P2) (p : P2) (k : Nat) : onTo l p (k + 1) = (onTo l p k || onE (pt l k) (pt l ((k + 1) % l.length)) p) := by
  unfold onTo
  rw [List.range_succ, List.any_append]
  simp
theorem onTo_mono {l : List P2} {p : P2} {k m : Nat} (h : onTo l p k = true) (hk : k ≤ m) : onTo l p m = true := by
  unfold onTo at h ⊢
  rw [List.any_eq_true] at h ⊢
  obtain ⟨j, hj, h2⟩ := h
  exact ⟨j, List.mem_range.2 (by have := List.mem_range.1 hj; omega), h2⟩
theorem windTo_in (l : List P2) (p : P2) : ∀ k : Nat, -(k : Int) ≤ windTo l p k ∧ windTo l p k ≤ k
  | 0 => by simp [windTo, sg]
  | k + 1 => by
    have h1 := windTo_in l p k
    have h2 := stp_in (pt l k) (pt l ((k + 1) % l.length)) p
    show _ ≤ windTo l p k + stp (pt l k) (pt l ((k + 1) % l.length)) p ∧ windTo l p k + stp (pt l k) (pt l ((k + 1) % l.length)) p ≤ _
    omega
theorem windTo_out (l : List P2) (p : P2) (h : ∀ j (hj : j < l.length), (l[j]).1 < p.1) : ∀ k, k ≤ l.length → windTo l p k = 0
  | 0, _ => rfl
  | k + 1, hk => by
    have h1 := windTo_out l p h k (by omega)
    have g : ∀ j, j < l.length → (pt l j).1 < p.1 := fun j hj => by
      unfold pt; rw [List.getElem?_eq_getElem hj]; exact h j hj
    have h2 := stp_out (pt l k) (pt l ((k + 1) % l.length)) p (g _ (by omega)) (g _ (Nat.mod_lt _ (by omega)))
    show windTo l p k + stp (pt l k) (pt l ((k + 1) % l.length)) p = 0
    omega
/-- The winding number, and whether it is told. -/
def aro (l : List P2) (p : P2) : Int × Bool := if okP p = true ∧ okR l = true then (if onTo l p l.length = true then (0, false) else (windTo l p l.length, true)) else (0, false)
theorem aro_out (l : List P2) (p : P2) (h : ∀ j (hj : j < l.length), (l[j]).1 < p.1) : (aro l p).1 = 0 := by
  unfold aro
  split
  · split
    · rfl
    · exact windTo_out l p h _ (Nat.le_refl _)
  · rfl
theorem between_any (a b n : Int) (w : World) : Calls Try.prog 21 #[.int .i64 a, .int .i64 b, .int .i64 n] w fun e w' => e = .returned (.bool (btw a b n)) ∧ w = w' := by
  rcases Int.lt_trichotomy a b with h | h | h
  · have e : btw a b n = decide (a ≤ n ∧ n ≤ b) := by unfold btw; rw [Int.min_def, Int.max_def, if_pos (by omega), if_pos (by omega)]
    rw [e]
    clear e
    have d0 : ¬ b < a := by omega
    by_cases h1 : a ≤ n
    · by_cases h2 : n ≤ b
      · rw [decide_eq_true ⟨h1, h2⟩]
        have d1 : decide (a ≤ n) = true := decide_eq_true h1
        have d2 : decide (n ≤ b) = true := decide_eq_true h2
        go_enter Try.func21, Try.ntmps21
        go_wp2_with fail
        go_ret
        exact ⟨rfl, rfl⟩
      · rw [decide_eq_false (fun h => h2 h.2)]
        have d1 : decide (a ≤ n) = true := decide_eq_true h1
        have d2 : decide (n ≤ b) = false := decide_eq_false h2
        go_enter Try.func21, Try.ntmps21
        go_wp2_with fail
        go_ret
        exact ⟨rfl, rfl⟩
    · rw [decide_eq_false (fun h => h1 h.1)]
      have d1 : decide (a ≤ n) = false := decide_eq_false h1
      go_enter Try.func21, Try.ntmps21
      go_wp2_with fail
      go_ret
      exact ⟨rfl, rfl⟩
  · subst h
    have e : btw a a n = decide (a ≤ n ∧ n ≤ a) := by unfold btw; rw [Int.min_def, Int.max_def, if_pos (by omega)]
    rw [e]
    clear e
    by_cases h1 : a ≤ n
    · by_cases h2 : n ≤ a
      · rw [decide_eq_true ⟨h1, h2⟩]
        have d1 : decide (a ≤ n) = true := decide_eq_true h1
        have d2 : decide (n ≤ a) = true := decide_eq_true h2
        go_enter Try.func21, Try.ntmps21
        go_wp2_with fail
        go_ret
        exact ⟨rfl, rfl⟩
      · rw [decide_eq_false (fun h => h2 h.2)]
        have d1 : decide (a ≤ n) = true := decide_eq_true h1
        have d2 : decide (n ≤ a) = false := decide_eq_false h2
        go_enter Try.func21, Try.ntmps21
        go_wp2_with fail
        go_ret
        exact ⟨rfl, rfl⟩
    · rw [decide_eq_false (fun h => h1 h.1)]
      have d1 : decide (a ≤ n) = false := decide_eq_false h1
      go_enter Try.func21, Try.ntmps21
      go_wp2_with fail
      go_ret
      exact ⟨rfl, rfl⟩
  · have e : btw a b n = decide (b ≤ n ∧ n ≤ a) := by unfold btw; rw [Int.min_def, Int.max_def, if_neg (by omega), if_neg (by omega)]
    rw [e]
    clear e
    have d0 : ¬ a < b := by omega
    by_cases h1 : b ≤ n
    · by_cases h2 : n ≤ a
      · rw [decide_eq_true ⟨h1, h2⟩]
        have d1 : decide (b ≤ n) = true := decide_eq_true h1
        have d2 : decide (n ≤ a) = true := decide_eq_true h2
        go_enter Try.func21, Try.ntmps21
        go_wp2_with fail
        go_ret
        exact ⟨rfl, rfl⟩
      · rw [decide_eq_false (fun h => h2 h.2)]
        have d1 : decide (b ≤ n) = true := decide_eq_true h1
        have d2 : decide (n ≤ a) = false := decide_eq_false h2
        go_enter Try.func21, Try.ntmps21
        go_wp2_with fail
        go_ret
        exact ⟨rfl, rfl⟩
    · rw [decide_eq_false (fun h => h1 h.1)]
      have d1 : decide (b ≤ n) = false := decide_eq_false h1
      go_enter Try.func21, Try.ntmps21
      go_wp2_with fail
      go_ret
      exact ⟨rfl, rfl⟩
theorem side_any (a b p : P2) (w : World) (ha : okP a = true) (hb : okP b = true) (hp : okP p = true) :
    Calls Try.prog 20 #[.agg #[.int .i64 a.1, .int .i64 a.2], .agg #[.int .i64 b.1, .int .i64 b.2], .agg #[.int .i64 p.1, .int .i64 p.2]] w fun e w' => e = .returned (.int .i64 (sgn (sd a b p))) ∧ Below w.heap.size w w' := by
  have h1 := okP_of ha
  have h2 := okP_of hb
  have h3 := okP_of hp
  obtain ⟨S, hS⟩ : ∃ S, sd a b p = S := ⟨_, rfl⟩
  rw [hS]
  have Hc := Lib.hid fun W => sign_any S W
  unfold sd at hS
  obtain ⟨ax, ay⟩ := a
  obtain ⟨bx, by'⟩ := b
  obtain ⟨px, py⟩ := p
  simp only at h1 h2 h3 hS ⊢
  obtain ⟨x1, e1⟩ : ∃ x, bx - ax = x := ⟨_, rfl⟩
  obtain ⟨y1, e2⟩ : ∃ x, py - ay = x := ⟨_, rfl⟩
  obtain ⟨x2, e3⟩ : ∃ x, px - ax = x := ⟨_, rfl⟩
  obtain ⟨y2, e4⟩ : ∃ x, by' - ay = x := ⟨_, rfl⟩
  rw [e1, e2, e3, e4] at hS
  have m1 := mul_in22 (x := x1) (y := y1) (by omega) (by omega)
  have m2 := mul_in22 (x := x2) (y := y2) (by omega) (by omega)
  obtain ⟨A, hA⟩ : ∃ x, x1 * y1 = x := ⟨_, rfl⟩
  obtain ⟨B, hB⟩ : ∃ x, x2 * y2 = x := ⟨_, rfl⟩
  rw [hA, hB] at hS
  rw [hA] at m1
  rw [hB] at m2
  have w1 : wrap64 (bx - ax) = x1 := by rw [e1]; exact IntWalk.wrap64_in _ ⟨by omega, by omega⟩
  have w2 : wrap64 (py - ay) = y1 := by rw [e2]; exact IntWalk.wrap64_in _ ⟨by omega, by omega⟩
  have w3 : wrap64 (px - ax) = x2 := by rw [e3]; exact IntWalk.wrap64_in _ ⟨by omega, by omega⟩
  have w4 : wrap64 (by' - ay) = y2 := by rw [e4]; exact IntWalk.wrap64_in _ ⟨by omega, by omega⟩
  have w5 : wrap64 (x1 * y1) = A := by rw [hA]; exact IntWalk.wrap64_in _ ⟨by omega, by omega⟩
  have w6 : wrap64 (x2 * y2) = B := by rw [hB]; exact IntWalk.wrap64_in _ ⟨by omega, by omega⟩
  have w7 : wrap64 (A - B) = S := by rw [hS]; exact IntWalk.wrap64_in _ ⟨by omega, by omega⟩
  clear h1 h2 h3 hS e1 e2 e3 e4 m1 m2 hA hB ha hb hp
  go_enter Try.func20, Try.ntmps20
  go_wp2_with fail
  refine (Hc.out _).mono ?_
  rintro e X ⟨rfl, rfl⟩
  go_wp2_with fail
  go_ret
  exact ⟨rfl, (((Below.refl _ _).alloc (Nat.le_refl _) _).alloc (by simp) _).alloc (by simp; omega) _⟩
end Go.Proofs.Ytlmnmilefggmpaa
