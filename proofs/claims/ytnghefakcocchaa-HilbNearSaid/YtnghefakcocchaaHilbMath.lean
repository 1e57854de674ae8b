/- Plain mathematics of the Hilbert curve: numbers alone. -/
namespace Go.Proofs.Ytnghefakcocchaa.Hilb

/-- Which quarter along the curve has the bits a of X and b of Y. -/
def qd (a b : Nat) : Nat := if a = 1 then (if b = 1 then 2 else 3) else (if b = 1 then 1 else 0)
def qa (k : Nat) : Nat := k / 2
def qb (k : Nat) : Nat := (k % 2 + k / 2) % 2
/-- The curve laid within a quarter of side s. -/
def trn (s x y a b : Nat) : Nat × Nat :=
  if b = 1 then (x % s, y % s) else if a = 1 then (s - 1 - y % s, s - 1 - x % s) else (y % s, x % s)
/-- The number of a point among 4^n. -/
def idn : Nat → Nat → Nat → Nat
  | 0, _, _ => 0
  | n + 1, x, y => 4 ^ n * qd (x / 2 ^ n % 2) (y / 2 ^ n % 2) + idn n (trn (2 ^ n) x y (x / 2 ^ n % 2) (y / 2 ^ n % 2)).1 (trn (2 ^ n) x y (x / 2 ^ n % 2) (y / 2 ^ n % 2)).2
/-- The point with a number. -/
def pln : Nat → Nat → Nat × Nat
  | 0, _ => (0, 0)
  | n + 1, d =>
    let k := d / 4 ^ n % 4
    let t := trn (2 ^ n) (pln n d).1 (pln n d).2 (qa k) (qb k)
    (t.1 + 2 ^ n * qa k, t.2 + 2 ^ n * qb k)
def fst : Nat → Nat
  | 0 => 0
  | n + 1 => fst n + 4 ^ n

theorem p2 (n : Nat) : 0 < 2 ^ n := Nat.two_pow_pos n
theorem p4 (n : Nat) : 0 < 4 ^ n := Nat.pow_pos (by omega)

theorem qd_lt (a b : Nat) : qd a b < 4 := by unfold qd; split <;> split <;> omega
theorem qa_lt {k : Nat} (h : k < 4) : qa k < 2 := by unfold qa; omega
theorem qb_lt (k : Nat) : qb k < 2 := by unfold qb; omega
theorem qd_q {k : Nat} (h : k < 4) : qd (qa k) (qb k) = k := by
  have : k = 0 ∨ k = 1 ∨ k = 2 ∨ k = 3 := by omega
  rcases this with rfl | rfl | rfl | rfl <;> rfl
theorem q_qd {a b : Nat} (ha : a < 2) (hb : b < 2) : qa (qd a b) = a ∧ qb (qd a b) = b := by
  have h1 : a = 0 ∨ a = 1 := by omega
  have h2 : b = 0 ∨ b = 1 := by omega
  rcases h1 with rfl | rfl <;> rcases h2 with rfl | rfl <;> exact ⟨rfl, rfl⟩

theorem trn_lt {s : Nat} (hs : 0 < s) (x y a b : Nat) : (trn s x y a b).1 < s ∧ (trn s x y a b).2 < s := by
  have h1 := Nat.mod_lt x hs
  have h2 := Nat.mod_lt y hs
  unfold trn
  split
  · exact ⟨h1, h2⟩
  · split
    · exact ⟨by simp only; omega, by simp only; omega⟩
    · exact ⟨h2, h1⟩
theorem trn_mod (s x y a b : Nat) : trn s (x % s) (y % s) a b = trn s x y a b := by
  unfold trn; simp only [Nat.mod_mod]
theorem trn_congr {s x x' y y' : Nat} (hx : x % s = x' % s) (hy : y % s = y' % s) (a b : Nat) : trn s x y a b = trn s x' y' a b := by
  rw [← trn_mod s x y, ← trn_mod s x' y', hx, hy]
theorem trn_inv {s x y : Nat} (hx : x < s) (hy : y < s) (a b : Nat) : trn s (trn s x y a b).1 (trn s x y a b).2 a b = (x, y) := by
  have e1 := Nat.mod_eq_of_lt hx
  have e2 := Nat.mod_eq_of_lt hy
  unfold trn
  by_cases hb : b = 1
  · simp only [hb, if_true, e1, e2]
  · by_cases ha : a = 1
    · simp only [hb, ha, if_false, if_true, e1, e2]
      rw [Nat.mod_eq_of_lt (show s - 1 - x < s by omega), Nat.mod_eq_of_lt (show s - 1 - y < s by omega)]
      congr 1 <;> omega
    · simp only [hb, ha, if_false, e1, e2]

theorem pln_lt : ∀ (n d : Nat), (pln n d).1 < 2 ^ n ∧ (pln n d).2 < 2 ^ n
  | 0, d => by simp [pln]
  | n + 1, d => by
    have h := trn_lt (p2 n) (pln n d).1 (pln n d).2 (qa (d / 4 ^ n % 4)) (qb (d / 4 ^ n % 4))
    have ha := qa_lt (Nat.mod_lt (d / 4 ^ n) (show 0 < 4 by omega))
    have hb := qb_lt (d / 4 ^ n % 4)
    simp only [pln]
    rw [Nat.pow_succ]
    have h1 : 2 ^ n * qa (d / 4 ^ n % 4) ≤ 2 ^ n * 1 := Nat.mul_le_mul_left _ (by omega)
    have h2 : 2 ^ n * qb (d / 4 ^ n % 4) ≤ 2 ^ n * 1 := Nat.mul_le_mul_left _ (by omega)
    omega
theorem idn_lt : ∀ (n x y : Nat), idn n x y < 4 ^ n
  | 0, _, _ => by simp [idn]
  | n + 1, x, y => by
    have h := idn_lt n (trn (2 ^ n) x y (x / 2 ^ n % 2) (y / 2 ^ n % 2)).1 (trn (2 ^ n) x y (x / 2 ^ n % 2) (y / 2 ^ n % 2)).2
    have hq := qd_lt (x / 2 ^ n % 2) (y / 2 ^ n % 2)
    have h1 : 4 ^ n * qd (x / 2 ^ n % 2) (y / 2 ^ n % 2) ≤ 4 ^ n * 3 := Nat.mul_le_mul_left _ (by omega)
    simp only [idn]
    rw [Nat.pow_succ]
    omega

theorem split4 (d n : Nat) : d % 4 ^ (n + 1) = 4 ^ n * (d / 4 ^ n % 4) + d % 4 ^ n := by
  rw [Nat.pow_succ, Nat.mod_mul]; omega

theorem idn_pln : ∀ (n d : Nat), idn n (pln n d).1 (pln n d).2 = d % 4 ^ n
  | 0, d => by simp [idn, Nat.mod_one]
  | n + 1, d => by
    have hk : d / 4 ^ n % 4 < 4 := Nat.mod_lt _ (by omega)
    have hl := pln_lt n d
    have ih := idn_pln n d
    rw [split4]
    simp only [pln]
    generalize d / 4 ^ n % 4 = k at *
    generalize (pln n d).1 = x at *
    generalize (pln n d).2 = y at *
    have h := trn_lt (p2 n) x y (qa k) (qb k)
    have hi := trn_inv hl.1 hl.2 (qa k) (qb k)
    generalize trn (2 ^ n) x y (qa k) (qb k) = t at *
    have ha := qa_lt hk
    have hb := qb_lt k
    have hs := p2 n
    simp only [idn]
    have e1 : (t.1 + 2 ^ n * qa k) / 2 ^ n % 2 = qa k := by
      rw [Nat.add_mul_div_left _ _ hs, Nat.div_eq_of_lt h.1, Nat.zero_add, Nat.mod_eq_of_lt ha]
    have e2 : (t.2 + 2 ^ n * qb k) / 2 ^ n % 2 = qb k := by
      rw [Nat.add_mul_div_left _ _ hs, Nat.div_eq_of_lt h.2, Nat.zero_add, Nat.mod_eq_of_lt hb]
    rw [e1, e2]
    rw [trn_congr (x' := t.1) (y' := t.2) (Nat.add_mul_mod_self_left _ _ _) (Nat.add_mul_mod_self_left _ _ _), hi, qd_q hk, ih]

theorem pln_mod : ∀ (n d e : Nat), d % 4 ^ n = e % 4 ^ n → pln n d = pln n e
  | 0, _, _, _ => rfl
  | n + 1, d, e, h => by
    rw [split4, split4] at h
    have hd := Nat.mod_lt d (p4 n)
    have he := Nat.mod_lt e (p4 n)
    have h1 : (4 ^ n * (d / 4 ^ n % 4) + d % 4 ^ n) / 4 ^ n = (4 ^ n * (e / 4 ^ n % 4) + e % 4 ^ n) / 4 ^ n := by rw [h]
    rw [Nat.mul_add_div (p4 n), Nat.mul_add_div (p4 n), Nat.div_eq_of_lt hd, Nat.div_eq_of_lt he] at h1
    have h2 : d / 4 ^ n % 4 = e / 4 ^ n % 4 := by omega
    have h3 : d % 4 ^ n = e % 4 ^ n := by rw [h2] at h; omega
    simp only [pln]
    rw [h2, pln_mod n d e h3]

theorem pln_idn : ∀ (n x y : Nat), x < 2 ^ n → y < 2 ^ n → pln n (idn n x y) = (x, y)
  | 0, x, y, hx, hy => by
    have h1 : x = 0 := by simpa using hx
    have h2 : y = 0 := by simpa using hy
    subst h1; subst h2; rfl
  | n + 1, x, y, hx, hy => by
    have hs := p2 n
    have ha : x / 2 ^ n % 2 < 2 := Nat.mod_lt _ (by omega)
    have hb : y / 2 ^ n % 2 < 2 := Nat.mod_lt _ (by omega)
    have ht := trn_lt hs x y (x / 2 ^ n % 2) (y / 2 ^ n % 2)
    have ih := pln_idn n _ _ ht.1 ht.2
    have hl := idn_lt n (trn (2 ^ n) x y (x / 2 ^ n % 2) (y / 2 ^ n % 2)).1 (trn (2 ^ n) x y (x / 2 ^ n % 2) (y / 2 ^ n % 2)).2
    have hxs : x / 2 ^ n % 2 = x / 2 ^ n := Nat.mod_eq_of_lt (Nat.div_lt_of_lt_mul (by rw [Nat.pow_succ] at hx; omega))
    have hys : y / 2 ^ n % 2 = y / 2 ^ n := Nat.mod_eq_of_lt (Nat.div_lt_of_lt_mul (by rw [Nat.pow_succ] at hy; omega))
    have hxe : x % 2 ^ n + 2 ^ n * (x / 2 ^ n % 2) = x := by rw [hxs]; exact Nat.mod_add_div x (2 ^ n)
    have hye : y % 2 ^ n + 2 ^ n * (y / 2 ^ n % 2) = y := by rw [hys]; exact Nat.mod_add_div y (2 ^ n)
    simp only [idn]
    clear hxs hys
    generalize x / 2 ^ n % 2 = a at *
    generalize y / 2 ^ n % 2 = b at *
    have hq := q_qd ha hb
    have hq4 := qd_lt a b
    have hcong : trn (2 ^ n) x y a b = trn (2 ^ n) (x % 2 ^ n) (y % 2 ^ n) a b := (trn_mod _ _ _ _ _).symm
    have hinv := trn_inv (Nat.mod_lt x hs) (Nat.mod_lt y hs) a b
    rw [← hcong] at hinv
    generalize trn (2 ^ n) x y a b = t at *
    generalize idn n t.1 t.2 = m at *
    simp only [pln]
    have hk : (4 ^ n * qd a b + m) / 4 ^ n % 4 = qd a b := by
      rw [Nat.mul_add_div (p4 n), Nat.div_eq_of_lt hl, Nat.add_zero, Nat.mod_eq_of_lt hq4]
    have hm : pln n (4 ^ n * qd a b + m) = t := by
      rw [← Prod.eta t, ← ih]
      exact pln_mod n _ _ (by rw [Nat.mul_add_mod])
    rw [hk, hq.1, hq.2, hm, hinv]
    exact Prod.ext hxe hye

/-! ### The curve goes step by step -/

def near (p q : Nat × Nat) : Prop := (p.1 = q.1 ∧ (p.2 = q.2 + 1 ∨ q.2 = p.2 + 1)) ∨ (p.2 = q.2 ∧ (p.1 = q.1 + 1 ∨ q.1 = p.1 + 1))

theorem pln_zero : ∀ n, pln n 0 = (0, 0)
  | 0 => rfl
  | n + 1 => by
    simp only [pln, pln_zero n, Nat.zero_div, Nat.zero_mod]
    simp [trn, qa, qb]
theorem pln_last : ∀ n, pln n (4 ^ n - 1) = (2 ^ n - 1, 0)
  | 0 => rfl
  | n + 1 => by
    have h4 := p4 n
    have h2 := p2 n
    have e1 : (4 ^ (n + 1) - 1) / 4 ^ n % 4 = 3 := by
      have : 4 ^ (n + 1) - 1 = 4 ^ n * 3 + (4 ^ n - 1) := by rw [Nat.pow_succ]; omega
      rw [this, Nat.mul_add_div h4, Nat.div_eq_of_lt (by omega)]
    have e2 : pln n (4 ^ (n + 1) - 1) = (2 ^ n - 1, 0) := by
      rw [← pln_last n]
      apply pln_mod
      have : 4 ^ (n + 1) - 1 = 4 ^ n * 3 + (4 ^ n - 1) := by rw [Nat.pow_succ]; omega
      rw [this, Nat.mul_add_mod]
    simp only [pln, e1, e2]
    simp only [trn, qa, qb]
    have e3 : (2 ^ n - 1) % 2 ^ n = 2 ^ n - 1 := Nat.mod_eq_of_lt (by omega)
    simp [e3, Nat.pow_succ]
    omega

theorem trn_near {s : Nat} {p q : Nat × Nat} (hp : p.1 < s ∧ p.2 < s) (hq : q.1 < s ∧ q.2 < s) (h : near p q) (a b : Nat) : near (trn s p.1 p.2 a b) (trn s q.1 q.2 a b) := by
  have e1 := Nat.mod_eq_of_lt hp.1
  have e2 := Nat.mod_eq_of_lt hp.2
  have e3 := Nat.mod_eq_of_lt hq.1
  have e4 := Nat.mod_eq_of_lt hq.2
  unfold near at *
  unfold trn
  rw [e1, e2, e3, e4]
  split
  · exact h
  · split
    · simp only; omega
    · simp only; omega

theorem pln_near : ∀ (n d : Nat), d + 1 < 4 ^ n → near (pln n d) (pln n (d + 1))
  | 0, d, h => by simp at h
  | n + 1, d, h => by
    have h4 := p4 n
    have h2 := p2 n
    have hd := Nat.mod_add_div d (4 ^ n)
    have hml := Nat.mod_lt d h4
    have hdk : d / 4 ^ n < 4 := by
      rw [Nat.pow_succ] at h
      exact Nat.div_lt_of_lt_mul (by omega)
    have hlp := pln_lt n d
    have hlq := pln_lt n (d + 1)
    by_cases hc : d % 4 ^ n + 1 < 4 ^ n
    · have ih := pln_near n (d % 4 ^ n) hc
      have e0 : pln n (d % 4 ^ n) = pln n d := pln_mod n _ _ (Nat.mod_mod _ _)
      have e1 : pln n (d % 4 ^ n + 1) = pln n (d + 1) := pln_mod n _ _ (by rw [Nat.mod_add_mod])
      rw [e0, e1] at ih
      have hk : (d + 1) / 4 ^ n = d / 4 ^ n := by
        rw [show d + 1 = 4 ^ n * (d / 4 ^ n) + (d % 4 ^ n + 1) by omega, Nat.mul_add_div h4, Nat.div_eq_of_lt hc, Nat.add_zero]
      simp only [pln, hk]
      have := trn_near hlp hlq ih (qa (d / 4 ^ n % 4)) (qb (d / 4 ^ n % 4))
      generalize trn (2 ^ n) (pln n d).1 (pln n d).2 (qa (d / 4 ^ n % 4)) (qb (d / 4 ^ n % 4)) = t at *
      generalize trn (2 ^ n) (pln n (d + 1)).1 (pln n (d + 1)).2 (qa (d / 4 ^ n % 4)) (qb (d / 4 ^ n % 4)) = u at *
      unfold near at *
      simp only
      omega
    · have hm : d % 4 ^ n = 4 ^ n - 1 := by omega
      have hk : (d + 1) / 4 ^ n = d / 4 ^ n + 1 := by
        rw [show d + 1 = 4 ^ n * (d / 4 ^ n + 1) by rw [Nat.mul_add]; omega, Nat.mul_div_cancel_left _ h4]
      have hdk' : d / 4 ^ n + 1 < 4 := by
        rw [← hk]
        rw [Nat.pow_succ] at h
        exact Nat.div_lt_of_lt_mul (by omega)
      have e0 : pln n d = (2 ^ n - 1, 0) := by
        rw [← pln_last n]; apply pln_mod; rw [hm, Nat.mod_eq_of_lt (by omega)]
      have e1 : pln n (d + 1) = (0, 0) := by
        rw [← pln_zero n]; apply pln_mod
        rw [show d + 1 = 4 ^ n * (d / 4 ^ n + 1) by rw [Nat.mul_add]; omega, Nat.mul_mod_right, Nat.zero_mod]
      simp only [pln, hk, e0, e1]
      generalize d / 4 ^ n = k at *
      have e3 : (2 ^ n - 1) % 2 ^ n = 2 ^ n - 1 := Nat.mod_eq_of_lt (by omega)
      have : k = 0 ∨ k = 1 ∨ k = 2 := by omega
      generalize 2 ^ n = s at *
      rcases this with rfl | rfl | rfl <;> simp [trn, qa, qb, near, e3] <;> omega

/-! ### A tile's four parts, and the tiles above -/

theorem trn_half {s : Nat} (x y a b : Nat) (hx : x < 2 * s) (hy : y < 2 * s) : (trn (2 * s) x y a b).1 / 2 = (trn s (x / 2) (y / 2) a b).1 ∧ (trn (2 * s) x y a b).2 / 2 = (trn s (x / 2) (y / 2) a b).2 := by
  have e1 := Nat.mod_eq_of_lt hx
  have e2 := Nat.mod_eq_of_lt hy
  have e3 : x / 2 % s = x / 2 := Nat.mod_eq_of_lt (by omega)
  have e4 : y / 2 % s = y / 2 := Nat.mod_eq_of_lt (by omega)
  unfold trn
  rw [e1, e2, e3, e4]
  split
  · exact ⟨rfl, rfl⟩
  · split
    · simp only; omega
    · exact ⟨rfl, rfl⟩

theorem pln_half : ∀ (n d : Nat), (pln (n + 1) d).1 / 2 = (pln n (d / 4)).1 ∧ (pln (n + 1) d).2 / 2 = (pln n (d / 4)).2
  | 0, d => by
    have h := pln_lt 1 d
    simp only [pln]
    simp only [pln] at h
    omega
  | n + 1, d => by
    have ih := pln_half n d
    have hl := pln_lt (n + 1) d
    have hk : d / 4 ^ (n + 1) % 4 = d / 4 / 4 ^ n % 4 := by rw [Nat.div_div_eq_div_mul, Nat.pow_succ, Nat.mul_comm]
    have e : pln (n + 2) d = ((trn (2 ^ (n + 1)) (pln (n + 1) d).1 (pln (n + 1) d).2 (qa (d / 4 ^ (n + 1) % 4)) (qb (d / 4 ^ (n + 1) % 4))).1 + 2 ^ (n + 1) * qa (d / 4 ^ (n + 1) % 4), (trn (2 ^ (n + 1)) (pln (n + 1) d).1 (pln (n + 1) d).2 (qa (d / 4 ^ (n + 1) % 4)) (qb (d / 4 ^ (n + 1) % 4))).2 + 2 ^ (n + 1) * qb (d / 4 ^ (n + 1) % 4)) := rfl
    have e' : pln (n + 1) (d / 4) = ((trn (2 ^ n) (pln n (d / 4)).1 (pln n (d / 4)).2 (qa (d / 4 / 4 ^ n % 4)) (qb (d / 4 / 4 ^ n % 4))).1 + 2 ^ n * qa (d / 4 / 4 ^ n % 4), (trn (2 ^ n) (pln n (d / 4)).1 (pln n (d / 4)).2 (qa (d / 4 / 4 ^ n % 4)) (qb (d / 4 / 4 ^ n % 4))).2 + 2 ^ n * qb (d / 4 / 4 ^ n % 4)) := rfl
    rw [e, e', hk, ← ih.1, ← ih.2]
    rw [Nat.pow_succ, Nat.mul_comm (2 ^ n) 2] at hl ⊢
    have ht := trn_half (s := 2 ^ n) (pln (n + 1) d).1 (pln (n + 1) d).2 (qa (d / 4 / 4 ^ n % 4)) (qb (d / 4 / 4 ^ n % 4)) hl.1 hl.2
    rw [← ht.1, ← ht.2, Nat.mul_assoc, Nat.mul_assoc]
    simp only
    omega

theorem idn_half (n x y : Nat) (hx : x < 2 ^ (n + 1)) (hy : y < 2 ^ (n + 1)) : idn n (x / 2) (y / 2) = idn (n + 1) x y / 4 := by
  have h := pln_idn (n + 1) x y hx hy
  have hh := pln_half n (idn (n + 1) x y)
  rw [h] at hh
  have hi := idn_pln n (idn (n + 1) x y / 4)
  rw [← hh.1, ← hh.2] at hi
  rw [hi]
  apply Nat.mod_eq_of_lt
  have := idn_lt (n + 1) x y
  rw [Nat.pow_succ] at this
  omega

theorem fst_mono {a b : Nat} (h : a ≤ b) : fst a ≤ fst b := by
  induction h with
  | refl => exact Nat.le_refl _
  | step _ ih => exact Nat.le_trans ih (by simp [fst])
theorem fst_succ (n : Nat) : fst (n + 1) = fst n + 4 ^ n := rfl
end Go.Proofs.Ytnghefakcocchaa.Hilb
