/- Plain mathematics of whole numbers as words of base 2^16. -/
namespace Go.Proofs.Ytcfkhgpcamfecaa.Big

def val : List Nat → Nat
  | [] => 0
  | x :: l => x + 65536 * val l

/-- Words below 2^16. -/
def Dig (l : List Nat) : Prop := ∀ x ∈ l, x < 65536
/-- And none 0 above. -/
def Norm (l : List Nat) : Prop := Dig l ∧ ∀ h : l ≠ [], l.getLast h ≠ 0

theorem val_append (l r : List Nat) : val (l ++ r) = val l + 65536 ^ l.length * val r := by
  induction l with
  | nil => simp [val]
  | cons x l ih =>
    simp only [List.cons_append, val, ih, List.length_cons, Nat.pow_succ]
    rw [Nat.mul_add, ← Nat.mul_assoc, Nat.mul_comm (65536 ^ l.length) 65536, Nat.mul_assoc, Nat.add_assoc]
theorem val_one (x : Nat) : val [x] = x := by simp [val]
theorem val_snoc (l : List Nat) (x : Nat) : val (l ++ [x]) = val l + 65536 ^ l.length * x := by rw [val_append, val_one]
theorem Dig.nil : Dig [] := by simp [Dig]
theorem Dig.append {l r : List Nat} (h : Dig l) (k : Dig r) : Dig (l ++ r) := by
  intro x hx
  rcases List.mem_append.1 hx with hx | hx
  · exact h x hx
  · exact k x hx
theorem Dig.one {x : Nat} (h : x < 65536) : Dig [x] := by simpa [Dig] using h
theorem Dig.take {l : List Nat} (h : Dig l) (n : Nat) : Dig (l.take n) := fun x hx => h x (List.mem_of_mem_take hx)
theorem Dig.set {l : List Nat} (h : Dig l) (n : Nat) {x : Nat} (hx : x < 65536) : Dig (l.set n x) := by
  intro y hy
  rcases List.mem_or_eq_of_mem_set hy with hy | rfl
  · exact h y hy
  · exact hx
theorem Dig.get {l : List Nat} (h : Dig l) (i : Nat) : l.getD i 0 < 65536 := by
  by_cases hi : i < l.length
  · simp only [List.getD_eq_getElem?_getD, List.getElem?_eq_getElem hi, Option.getD_some]; exact h _ (List.getElem_mem hi)
  · simp only [List.getD_eq_getElem?_getD, List.getElem?_eq_none (by omega : l.length ≤ i), Option.getD_none]; omega
theorem p_pos (k : Nat) : 0 < 65536 ^ k := Nat.pow_pos (by omega)
theorem val_lt {l : List Nat} (h : Dig l) : val l < 65536 ^ l.length := by
  induction l with
  | nil => simp [val]
  | cons x l ih =>
    have h1 := ih (fun y hy => h y (List.mem_cons_of_mem _ hy))
    have h2 := h x (List.mem_cons_self ..)
    simp only [val, List.length_cons, Nat.pow_succ]
    omega
theorem getD_take (l : List Nat) (k : Nat) (h : k < l.length) : l.take (k + 1) = l.take k ++ [l.getD k 0] := by
  rw [List.take_add_one]
  simp [List.getElem?_eq_getElem h]
theorem val_take_succ (l : List Nat) (k : Nat) : val (l.take (k + 1)) = val (l.take k) + 65536 ^ k * l.getD k 0 := by
  by_cases h : k < l.length
  · rw [getD_take l k h, val_snoc, List.length_take, Nat.min_eq_left (by omega)]
  · rw [List.take_of_length_le (by omega), List.take_of_length_le (by omega)]
    simp [List.getElem?_eq_none (by omega : l.length ≤ k)]
theorem val_all (l : List Nat) (k : Nat) (h : l.length ≤ k) : val (l.take k) = val l := by rw [List.take_of_length_le h]
theorem val_set (l : List Nat) (j x : Nat) (h : j < l.length) : val (l.set j x) + 65536 ^ j * l.getD j 0 = val l + 65536 ^ j * x := by
  induction l generalizing j with
  | nil => simp at h
  | cons y l ih =>
    cases j with
    | zero => simp [val]; omega
    | succ j =>
      have := ih j (by simpa using h)
      simp only [List.set_cons_succ, val, List.getD_cons_succ, Nat.pow_succ]
      generalize val (l.set j x) = a at *
      generalize val l = b at *
      rw [Nat.mul_comm (65536 ^ j) 65536, Nat.mul_assoc, Nat.mul_assoc]
      generalize 65536 ^ j * l.getD j 0 = c at *
      generalize 65536 ^ j * x = d at *
      omega

/-! Cutting noughts off -/
theorem cut_step (l : List Nat) (n : Nat) (h0 : 0 < n) (h : l.getD (n - 1) 0 = 0) : val (l.take (n - 1)) = val (l.take n) := by
  have := val_take_succ l (n - 1)
  rw [show n - 1 + 1 = n by omega, h] at this
  omega
theorem norm_take (l : List Nat) (n : Nat) (hd : Dig l) (_ : n ≤ l.length) (h : n = 0 ∨ l.getD (n - 1) 0 ≠ 0) : Norm (l.take n) := by
  refine ⟨hd.take n, fun hne => ?_⟩
  rcases h with rfl | h
  · simp at hne
  · have hn0 : 0 < n := by
      rcases n with _ | n
      · simp at hne
      · omega
    rw [List.getLast_eq_getElem]
    have hl : (l.take n).length = n := by simp; omega
    intro h2
    apply h
    rw [List.getD_eq_getElem?_getD, List.getElem?_eq_getElem (by omega : n - 1 < l.length)]
    simp only [Option.getD_some]
    rw [← h2, List.getElem_take]
    congr 1
    omega
theorem norm_ge {l : List Nat} (h : Norm l) (hne : l ≠ []) : 65536 ^ (l.length - 1) ≤ val l := by
  have h1 := h.2 hne
  have e := List.dropLast_concat_getLast hne
  rw [← e, val_snoc]
  simp only [List.length_append, List.length_dropLast, List.length_cons, List.length_nil]
  have : 65536 ^ (l.length - 1) * 1 ≤ 65536 ^ (l.length - 1) * l.getLast hne := Nat.mul_le_mul_left _ (by omega)
  simp only [Nat.zero_add, Nat.add_sub_cancel]
  omega
theorem norm_zero {l : List Nat} (h : Norm l) : val l = 0 ↔ l = [] := by
  constructor
  · intro h0
    refine Classical.byContradiction fun hne => ?_
    have h1 := norm_ge h hne
    have h2 := p_pos (l.length - 1)
    omega
  · rintro rfl; rfl
theorem shorter_less {a b : List Nat} (ha : Dig a) (hb : Norm b) (h : a.length < b.length) : val a < val b := by
  have hne : b ≠ [] := by rintro rfl; simp at h
  have h1 := norm_ge hb hne
  have h2 := val_lt ha
  have h3 : 65536 ^ a.length ≤ 65536 ^ (b.length - 1) := Nat.pow_le_pow_right (by omega) (by omega)
  omega
/-- The first word from above that differs decides. -/
theorem word_less {a b : List Nat} (ha : Dig a) (hl : a.length = b.length) (i : Nat) (hi : i < a.length) (hs : ∀ j, i < j → j < a.length → a.getD j 0 = b.getD j 0) (h : a.getD i 0 < b.getD i 0) : val a < val b := by
  have key : ∀ k, i < k → k ≤ a.length → val (a.take k) < val (b.take k) := by
    intro k
    induction k with
    | zero => intro h; omega
    | succ k ih =>
      intro hik hk
      rw [val_take_succ, val_take_succ]
      by_cases hk2 : i < k
      · have := ih hk2 (by omega)
        rw [hs k hk2 (by omega)]
        omega
      · obtain rfl : i = k := by omega
        have h1 := val_lt (ha.take i)
        have hl2 : (a.take i).length = i := by simp; omega
        rw [hl2] at h1
        have h2 : 65536 ^ i * (a.getD i 0 + 1) ≤ 65536 ^ i * b.getD i 0 := Nat.mul_le_mul_left _ (by omega)
        rw [Nat.mul_add] at h2
        omega
  have := key a.length hi (by omega)
  rw [val_all a _ (Nat.le_refl _), val_all b _ (by omega)] at this
  exact this
theorem words_same {a b : List Nat} (hl : a.length = b.length) (hs : ∀ j, j < a.length → a.getD j 0 = b.getD j 0) : a = b := by
  apply List.ext_getElem hl
  intro i h1 h2
  have := hs i h1
  simpa [h1, h2] using this
/-- Equal numbers have equal words. -/
theorem norm_inj {a b : List Nat} (ha : Norm a) (hb : Norm b) (h : val a = val b) : a = b := by
  have hl : a.length = b.length := by
    rcases Nat.lt_trichotomy a.length b.length with h1 | h1 | h1
    · have := shorter_less ha.1 hb h1; omega
    · exact h1
    · have := shorter_less hb.1 ha h1; omega
  refine words_same hl ?_
  have key : ∀ n, ∀ j, a.length - n ≤ j → j < a.length → a.getD j 0 = b.getD j 0 := by
    intro n
    induction n with
    | zero => intro j h1 h2; omega
    | succ n ih =>
      intro j h1 h2
      by_cases hj : a.length - n ≤ j
      · exact ih j hj h2
      · rcases Nat.lt_trichotomy (a.getD j 0) (b.getD j 0) with h3 | h3 | h3
        · have := word_less ha.1 hl j h2 (fun i hi hi2 => ih i (by omega) hi2) h3; omega
        · exact h3
        · have := word_less hb.1 hl.symm j (by omega) (fun i hi hi2 => (ih i (by omega) (by omega)).symm) h3; omega
  intro j hj
  exact key a.length j (by omega) hj

/-! Digits of a number -/
def dig (n : Nat) : List Nat := if h : n = 0 then [] else n % 65536 :: dig (n / 65536)
  termination_by n
  decreasing_by omega
theorem dig_zero : dig 0 = [] := by rw [dig]; simp
theorem dig_pos {n : Nat} (h : 0 < n) : dig n = n % 65536 :: dig (n / 65536) := by rw [dig, dif_neg (by omega)]
theorem val_dig (n : Nat) : val (dig n) = n := by
  induction n using Nat.strongRecOn with
  | _ n ih =>
    rcases Nat.eq_zero_or_pos n with rfl | h
    · rw [dig_zero]; rfl
    · rw [dig_pos h, val, ih _ (by omega)]; omega
theorem dig_norm (n : Nat) : Norm (dig n) := by
  induction n using Nat.strongRecOn with
  | _ n ih =>
    rcases Nat.eq_zero_or_pos n with rfl | h
    · rw [dig_zero]; exact ⟨Dig.nil, fun h => absurd rfl h⟩
    · have h1 := ih (n / 65536) (by omega)
      rw [dig_pos h]
      refine ⟨?_, fun hne => ?_⟩
      · intro x hx
        rcases List.mem_cons.1 hx with rfl | hx
        · omega
        · exact h1.1 x hx
      · by_cases h0 : dig (n / 65536) = []
        · have : n / 65536 = 0 := by rw [← val_dig (n / 65536), h0]; rfl
          simp only [h0, List.getLast_singleton]
          omega
        · rw [List.getLast_cons h0]; exact h1.2 h0
theorem dig_length (k n : Nat) (h : n < 65536 ^ k) : (dig n).length ≤ k := by
  induction k generalizing n with
  | zero => have : n = 0 := by simpa using h
            subst this; rw [dig_zero]; simp
  | succ k ih =>
    rcases Nat.eq_zero_or_pos n with rfl | h0
    · rw [dig_zero]; simp
    · rw [dig_pos h0]
      have := ih (n / 65536) (Nat.div_lt_of_lt_mul (by rw [Nat.pow_succ] at h; omega))
      simp; omega

/-! A number with a sign -/
def sv (neg : Bool) (l : List Nat) : Int := if neg then -(val l : Int) else (val l : Int)
def isNeg (neg : Bool) (l : List Nat) : Bool := neg && !l.isEmpty

/-! Sums and differences, word by word -/
theorem plus_step (A B O p c x y : Nat) (h : O + p * c = A + B) : (O + p * ((c + x + y) % 65536)) + p * 65536 * ((c + x + y) / 65536) = (A + p * x) + (B + p * y) := by
  have e := Nat.div_add_mod (c + x + y) 65536
  generalize (c + x + y) / 65536 = q at *
  generalize (c + x + y) % 65536 = r at *
  rw [Nat.mul_assoc, Nat.add_assoc, ← Nat.mul_add, show r + 65536 * q = c + x + y by omega, Nat.mul_add, Nat.mul_add]
  omega
theorem less_step (A B O p c x y : Nat) (hc : c ≤ 1) (hx : x < 65536) (hy : y < 65536) (h : A + p * c = B + O) :
    (A + p * x) + p * 65536 * (1 - (x + 65536 - c - y) / 65536) = (B + p * y) + (O + p * ((x + 65536 - c - y) % 65536)) := by
  have e := Nat.div_add_mod (x + 65536 - c - y) 65536
  have h2 : (x + 65536 - c - y) / 65536 ≤ 1 := by omega
  generalize hq : (x + 65536 - c - y) / 65536 = q at *
  generalize (x + 65536 - c - y) % 65536 = r at *
  have e2 : x + 65536 * (1 - q) + c = y + r + c + c := by omega
  have : p * x + p * (65536 * (1 - q)) = p * c + p * y + p * r := by
    rw [← Nat.mul_add, ← Nat.mul_add, ← Nat.mul_add]
    congr 1
    omega
  rw [Nat.mul_assoc]
  omega

/-- What holds after k words of a sum. -/
structure PlusInv (la lb : List Nat) (k c : Nat) (O : List Nat) : Prop where
  len : O.length = k
  dig : Dig O
  carry : c ≤ 1
  eq : val O + 65536 ^ k * c = val (la.take k) + val (lb.take k)
theorem PlusInv.zero (la lb : List Nat) : PlusInv la lb 0 0 [] := ⟨rfl, Dig.nil, by omega, by simp [val]⟩
theorem PlusInv.step {la lb : List Nat} {k c : Nat} {O : List Nat} (h : PlusInv la lb k c O) {x y : Nat} (hx : x = la.getD k 0) (hy : y = lb.getD k 0) (hx' : x < 65536) (hy' : y < 65536) :
    PlusInv la lb (k + 1) ((c + x + y) / 65536) (O ++ [(c + x + y) % 65536]) := by
  have hc := h.carry
  refine ⟨by simp [h.len], h.dig.append (Dig.one (by omega)), by omega, ?_⟩
  have e := plus_step _ _ _ _ c x y h.eq
  rw [val_snoc, h.len, val_take_succ, val_take_succ, ← hx, ← hy, Nat.pow_succ]
  exact e
theorem PlusInv.last {la lb : List Nat} {k c : Nat} {O : List Nat} (h : PlusInv la lb k c O) (ha : la.length ≤ k) (hb : lb.length ≤ k) (hc : c = 0) : val O = val la + val lb := by
  have := h.eq
  rw [val_all la k ha, val_all lb k hb, hc] at this
  omega
theorem PlusInv.stop {la lb : List Nat} {k c M : Nat} {O : List Nat} (h : PlusInv la lb k c O) (da : Dig la) (db : Dig lb) (ha : la.length ≤ M) (hb : lb.length ≤ M) (hk : M < k) : c = 0 := by
  have h1 := h.eq
  rw [val_all la k (by omega), val_all lb k (by omega)] at h1
  have h2 := val_lt da
  have h3 := val_lt db
  have h4 : 65536 ^ la.length ≤ 65536 ^ M := Nat.pow_le_pow_right (by omega) ha
  have h5 : 65536 ^ lb.length ≤ 65536 ^ M := Nat.pow_le_pow_right (by omega) hb
  have h6 : 65536 ^ (M + 1) ≤ 65536 ^ k := Nat.pow_le_pow_right (by omega) hk
  rw [Nat.pow_succ] at h6
  rcases Nat.eq_zero_or_pos c with h0 | h0
  · exact h0
  · have : 65536 ^ k * 1 ≤ 65536 ^ k * c := Nat.mul_le_mul_left _ h0
    omega

/-- What holds after k words of a difference. -/
structure LessInv (la lb : List Nat) (k c : Nat) (O : List Nat) : Prop where
  len : O.length = k
  dig : Dig O
  borrow : c ≤ 1
  eq : val (la.take k) + 65536 ^ k * c = val (lb.take k) + val O
theorem LessInv.zero (la lb : List Nat) : LessInv la lb 0 0 [] := ⟨rfl, Dig.nil, by omega, by simp [val]⟩
theorem LessInv.step {la lb : List Nat} {k c : Nat} {O : List Nat} (h : LessInv la lb k c O) {x y : Nat} (hx : x = la.getD k 0) (hy : y = lb.getD k 0) (hx' : x < 65536) (hy' : y < 65536) :
    LessInv la lb (k + 1) (1 - (x + 65536 - c - y) / 65536) (O ++ [(x + 65536 - c - y) % 65536]) := by
  have hc := h.borrow
  refine ⟨by simp [h.len], h.dig.append (Dig.one (by omega)), by omega, ?_⟩
  have e := less_step _ _ _ _ c x y hc hx' hy' h.eq
  rw [val_snoc, h.len, val_take_succ, val_take_succ, ← hx, ← hy, Nat.pow_succ]
  exact e
theorem LessInv.last {la lb : List Nat} {k c : Nat} {O : List Nat} (h : LessInv la lb k c O) (ha : la.length ≤ k) (hb : lb.length ≤ k) (hle : val lb ≤ val la) : val O = val la - val lb := by
  have h1 := h.eq
  have h2 := val_lt h.dig
  rw [h.len] at h2
  rw [val_all la k ha, val_all lb k hb] at h1
  have hc := h.borrow
  rcases Nat.eq_zero_or_pos c with h0 | h0
  · subst h0; omega
  · have : 65536 ^ k * 1 ≤ 65536 ^ k * c := Nat.mul_le_mul_left _ h0
    omega

/-! Products, word by word -/
/-- What holds of the row m before round i. -/
structure MulInv (la lb : List Nat) (i : Nat) (m : List Nat) : Prop where
  len : m.length = la.length + lb.length
  dig : Dig m
  zero : ∀ j, i + lb.length ≤ j → m.getD j 0 = 0
  eq : val m = val (la.take i) * val lb
/-- And within round i, before word k. -/
structure MulIn (la lb : List Nat) (i k c : Nat) (m : List Nat) : Prop where
  len : m.length = la.length + lb.length
  dig : Dig m
  carry : c < 65536
  zero : ∀ j, i + lb.length ≤ j → m.getD j 0 = 0
  eq : val m + 65536 ^ (i + k) * c = val (la.take i) * val lb + 65536 ^ i * (la.getD i 0 * val (lb.take k))
theorem val_zeros (n : Nat) : val (List.replicate n 0) = 0 := by
  induction n with
  | zero => rfl
  | succ n ih => simp [List.replicate_succ, val, ih]
theorem MulInv.start (la lb : List Nat) : MulInv la lb 0 (List.replicate (la.length + lb.length) 0) := by
  refine ⟨by simp, ?_, fun j _ => ?_, by rw [val_zeros]; simp [val]⟩
  · intro x hx
    have := (List.mem_replicate.1 hx).2
    omega
  · by_cases h : j < la.length + lb.length
    · simp [h]
    · simp [h]
theorem MulInv.enter {la lb m : List Nat} {i : Nat} (h : MulInv la lb i m) : MulIn la lb i 0 0 m := ⟨h.len, h.dig, by omega, h.zero, by rw [h.eq]; simp [val]⟩
theorem getD_set_ne (m : List Nat) (i j x : Nat) (h : i ≠ j) : (m.set i x).getD j 0 = m.getD j 0 := by simp [h]
theorem mul_bound (c d x y : Nat) (hc : c < 65536) (hd : d < 65536) (hx : x < 65536) (hy : y < 65536) : c + d + x * y < 4294967296 ∧ (c + d + x * y) / 65536 < 65536 := by
  have h1 : x * y ≤ 65535 * 65535 := Nat.mul_le_mul (by omega) (by omega)
  omega
theorem MulIn.step {la lb m : List Nat} {i k c : Nat} (h : MulIn la lb i k c m) (hi : i < la.length) (hk : k < lb.length) {x y d : Nat} (hx : x = la.getD i 0) (hy : y = lb.getD k 0) (hd : d = m.getD (i + k) 0) (hx' : x < 65536) (hy' : y < 65536) :
    MulIn la lb i (k + 1) ((c + d + x * y) / 65536) (m.set (i + k) ((c + d + x * y) % 65536)) := by
  have hd' : d < 65536 := by rw [hd]; exact h.dig.get _
  have hb := mul_bound c d x y h.carry hd' hx' hy'
  refine ⟨by simp [h.len], h.dig.set _ (by omega), hb.2, fun j hj => ?_, ?_⟩
  · rw [getD_set_ne _ _ _ _ (by omega)]; exact h.zero j hj
  · have e1 := val_set m (i + k) ((c + d + x * y) % 65536) (by rw [h.len]; omega)
    have e2 := h.eq
    have e3 := Nat.div_add_mod (c + d + x * y) 65536
    rw [← hd] at e1
    rw [val_take_succ lb k, ← hy, ← hx, show i + (k + 1) = i + k + 1 by omega, Nat.pow_succ]
    rw [← hx] at e2
    rw [Nat.mul_add x, Nat.mul_add (65536 ^ i)]
    have e4 : 65536 ^ i * (x * (65536 ^ k * y)) = 65536 ^ (i + k) * (x * y) := by
      rw [Nat.pow_add, Nat.mul_left_comm x, Nat.mul_assoc]
    rw [e4]
    generalize (c + d + x * y) / 65536 = q at *
    generalize (c + d + x * y) % 65536 = r at *
    generalize 65536 ^ (i + k) = p at *
    have e5 : p * 65536 * q + p * r = p * c + p * d + p * (x * y) := by
      rw [Nat.mul_assoc, ← Nat.mul_add, ← Nat.mul_add, ← Nat.mul_add]
      congr 1
    generalize 65536 ^ i * (x * val (lb.take k)) = s at *
    generalize val (la.take i) * val lb = t at *
    generalize val (m.set (i + k) r) = u at *
    generalize p * 65536 * q = p1 at *
    generalize p * r = p2 at *
    generalize p * c = p3 at *
    generalize p * d = p4 at *
    generalize p * (x * y) = p5 at *
    omega
theorem MulIn.leave {la lb m : List Nat} {i c : Nat} (h : MulIn la lb i lb.length c m) (hi : i < la.length) : MulInv la lb (i + 1) (m.set (i + lb.length) c) := by
  refine ⟨by simp [h.len], h.dig.set _ h.carry, fun j hj => ?_, ?_⟩
  · rw [getD_set_ne _ _ _ _ (by omega)]; exact h.zero j (by omega)
  · have e1 := val_set m (i + lb.length) c (by rw [h.len]; omega)
    have e2 := h.eq
    rw [h.zero _ (Nat.le_refl _)] at e1
    rw [val_all lb _ (Nat.le_refl _)] at e2
    rw [val_take_succ, Nat.add_mul, Nat.mul_assoc (65536 ^ i)]
    omega
theorem MulInv.last {la lb m : List Nat} {i : Nat} (h : MulInv la lb i m) (hi : la.length ≤ i) : val m = val la * val lb := by rw [h.eq, val_all la i hi]
theorem sv_mul (n1 n2 : Bool) (la lb l : List Nat) (h : val l = val la * val lb) : sv (n1 != n2) l = sv n1 la * sv n2 lb := by
  unfold sv
  rw [h, Int.natCast_mul]
  cases n1 <;> cases n2 <;> simp [Int.neg_mul, Int.mul_neg]
end Go.Proofs.Ytcfkhgpcamfecaa.Big
