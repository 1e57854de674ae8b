/- Plain mathematics: fields as bytes, read again. -/
import Derived.Test.YtdifojeghplpeaaDoorFldCases
namespace Go.Proofs.YtdifojeghplpeaaDoor.Var

/-- A number as n bytes, the least first. -/
def fx (v : Nat) : Nat → List Nat
  | 0 => []
  | n + 1 => v % 256 :: fx (v / 256) n
theorem fx_length (v : Nat) : ∀ n, (fx v n).length = n
  | 0 => rfl
  | n + 1 => by simp only [fx, List.length_cons]; rw [fx_length (v / 256) n]
theorem fx_lt : ∀ (n v : Nat), ∀ x ∈ fx v n, x < 256
  | 0, _ => by simp [fx]
  | n + 1, v => by
    intro x hx
    simp only [fx, List.mem_cons] at hx
    rcases hx with rfl | hx
    · omega
    · exact fx_lt n _ x hx
theorem le_fx : ∀ (n v : Nat), v < 256 ^ n → le (fx v n) = v
  | 0, v, h => by simp at h; subst h; rfl
  | n + 1, v, h => by
    rw [Nat.pow_succ] at h
    simp only [fx, le]
    rw [le_fx n (v / 256) (Nat.div_lt_of_lt_mul (by omega))]
    omega
theorem fx_snoc : ∀ (n v : Nat), fx v (n + 1) = fx v n ++ [v / 256 ^ n % 256]
  | 0, v => by simp [fx]
  | n + 1, v => by
    rw [fx, fx_snoc n (v / 256), fx]
    rw [Nat.div_div_eq_div_mul, Nat.pow_succ, Nat.mul_comm 256]
    rfl

/-- A field's first number, and its bytes. -/
def hdN (f : F) : Nat := 8 * f.num + f.kind
def pf (f : F) : List Nat :=
  if f.kind = 0 then vb (hdN f) ++ vb f.int else if f.kind = 1 then vb (hdN f) ++ fx f.int 8 else if f.kind = 2 then vb (hdN f) ++ (vb f.data.length ++ f.data) else if f.kind = 5 then vb (hdN f) ++ fx f.int 4 else []
def pfs (l : List F) : List Nat := (l.map pf).flatten
theorem pfs_snoc (l : List F) (f : F) : pfs (l ++ [f]) = pfs l ++ pf f := by simp [pfs]
theorem pfs_cons (f : F) (l : List F) : pfs (f :: l) = pf f ++ pfs l := by simp [pfs]

/-- A field that was put is read. -/
theorem fld_pf (P R : List Nat) (f : F) (m : Nat) (h : FOk f m) (hm : m < 18446744073709551616) : fld (P ++ (pf f ++ R)) P.length = (0, f, P.length + (pf f).length) := by
  obtain ⟨⟨n1, n2⟩, hi, hk, ⟨hd1, hd2⟩, ho, hz, h4⟩ := h
  obtain ⟨num, kind, int, data⟩ := f
  simp only at *
  have hh : hdN ⟨num, kind, int, data⟩ < 18446744073709551616 := by unfold hdN; simp only; omega
  have hX : hdN ⟨num, kind, int, data⟩ % 8 = kind := by unfold hdN; simp only; omega
  have hX8 : hdN ⟨num, kind, int, data⟩ / 8 = num := by unfold hdN; simp only; omega
  have hn : ¬ (hdN ⟨num, kind, int, data⟩ / 8 < 1 ∨ 536870911 < hdN ⟨num, kind, int, data⟩ / 8) := by rw [hX8]; omega
  have hv := fun (T : List Nat) => vat_vb P T hh
  have e2 : P.length + (vb (hdN ⟨num, kind, int, data⟩)).length = (P ++ vb (hdN ⟨num, kind, int, data⟩)).length := by simp
  rcases hk with rfl | rfl | rfl | rfl
  · obtain rfl := ho (by omega)
    have e : pf ⟨num, 0, int, []⟩ = vb (hdN ⟨num, 0, int, []⟩) ++ vb int := by simp [pf]
    rw [e]
    generalize hdN ⟨num, 0, int, []⟩ = H at *
    have hw : vat (P ++ (vb H ++ vb int ++ R)) (P.length + (vb H).length) = (int, P.length + (vb H).length + (vb int).length, 0) := by
      rw [e2, show P ++ (vb H ++ vb int ++ R) = (P ++ vb H) ++ (vb int ++ R) by simp]
      exact vat_vb (P ++ vb H) R hi
    have hv' : vat (P ++ (vb H ++ vb int ++ R)) P.length = (H, P.length + (vb H).length, 0) := by rw [List.append_assoc]; exact hv _
    rw [fld_cv hv' hn hX hw, hX8]
    simp; omega
  · obtain rfl := ho (by omega)
    have e : pf ⟨num, 1, int, []⟩ = vb (hdN ⟨num, 1, int, []⟩) ++ fx int 8 := by simp [pf]
    rw [e]
    generalize hdN ⟨num, 1, int, []⟩ = H at *
    have hl := fx_length int 8
    have hv' : vat (P ++ (vb H ++ fx int 8 ++ R)) P.length = (H, P.length + (vb H).length, 0) := by rw [List.append_assoc]; exact hv _
    have hc : cut (P ++ (vb H ++ fx int 8 ++ R)) (P.length + (vb H).length) 8 = fx int 8 := by
      unfold cut
      rw [e2, show P ++ (vb H ++ fx int 8 ++ R) = (P ++ vb H) ++ (fx int 8 ++ R) by simp, List.drop_left, List.take_append_of_le_length (by omega), List.take_of_length_le (by omega)]
    rw [fld_c8 hv' hn hX (by simp; omega), hX8, hc, le_fx 8 int (by rw [pow8]; exact hi)]
    simp; omega
  · obtain rfl := hz rfl
    have e : pf ⟨num, 2, 0, data⟩ = vb (hdN ⟨num, 2, 0, data⟩) ++ (vb data.length ++ data) := by simp [pf]
    rw [e]
    generalize hdN ⟨num, 2, 0, data⟩ = H at *
    have hv' : vat (P ++ (vb H ++ (vb data.length ++ data) ++ R)) P.length = (H, P.length + (vb H).length, 0) := by rw [List.append_assoc]; exact hv _
    have hw : vat (P ++ (vb H ++ (vb data.length ++ data) ++ R)) (P.length + (vb H).length) = (data.length, P.length + (vb H).length + (vb data.length).length, 0) := by
      rw [e2, show P ++ (vb H ++ (vb data.length ++ data) ++ R) = (P ++ vb H) ++ (vb data.length ++ (data ++ R)) by simp]
      exact vat_vb (P ++ vb H) (data ++ R) (by omega)
    have hc : cut (P ++ (vb H ++ (vb data.length ++ data) ++ R)) (P.length + (vb H).length + (vb data.length).length) data.length = data := by
      unfold cut
      rw [show P.length + (vb H).length + (vb data.length).length = (P ++ vb H ++ vb data.length).length by simp; omega, show P ++ (vb H ++ (vb data.length ++ data) ++ R) = (P ++ vb H ++ vb data.length) ++ (data ++ R) by simp, List.drop_left]
      simp
    rw [fld_cb hv' hn hX hw (by simp; omega), hX8, hc]
    simp; omega
  · obtain rfl := ho (by omega)
    have e : pf ⟨num, 5, int, []⟩ = vb (hdN ⟨num, 5, int, []⟩) ++ fx int 4 := by simp [pf]
    rw [e]
    generalize hdN ⟨num, 5, int, []⟩ = H at *
    have hl := fx_length int 4
    have hv' : vat (P ++ (vb H ++ fx int 4 ++ R)) P.length = (H, P.length + (vb H).length, 0) := by rw [List.append_assoc]; exact hv _
    have hc : cut (P ++ (vb H ++ fx int 4 ++ R)) (P.length + (vb H).length) 4 = fx int 4 := by
      unfold cut
      rw [e2, show P ++ (vb H ++ fx int 4 ++ R) = (P ++ vb H) ++ (fx int 4 ++ R) by simp, List.drop_left, List.take_append_of_le_length (by omega), List.take_of_length_le (by omega)]
    rw [fld_c4 hv' hn hX (by simp; omega), hX8, hc, le_fx 4 int (by rw [pow4]; exact h4 rfl)]
    simp; omega
theorem pf_pos (f : F) (m : Nat) (h : FOk f m) : 0 < (pf f).length := by
  have := vb_pos (hdN f)
  unfold pf
  rcases h.kind with e | e | e | e <;> simp [e] <;> omega
theorem gets_pfs (m : Nat) (hm : m < 18446744073709551616) : ∀ (r acc : List F) (P : List Nat), (∀ f ∈ r, FOk f m) → ∀ g, (pfs r).length < g → gets (P ++ pfs r) g P.length acc = (acc ++ r, 0)
  | [], acc, P, _, g, hg => by
    obtain ⟨g, rfl⟩ : ∃ k, g = k + 1 := ⟨g - 1, by omega⟩
    rw [gets_end (by simp [pfs])]; simp
  | f :: r, acc, P, h, g, hg => by
    obtain ⟨g, rfl⟩ : ∃ k, g = k + 1 := ⟨g - 1, by omega⟩
    have hf := h f (List.mem_cons_self ..)
    have hpos := pf_pos f m hf
    rw [pfs_cons] at hg ⊢
    have hv := fld_pf P (pfs r) f m hf hm
    rw [gets_more (by simp; omega) (by rw [hv]), hv]
    simp only
    have e1 : P ++ (pf f ++ pfs r) = (P ++ pf f) ++ pfs r := by simp
    have e2 : P.length + (pf f).length = (P ++ pf f).length := by simp
    rw [e1, e2, gets_pfs m hm r (acc ++ [f]) (P ++ pf f) (fun x hx => h x (List.mem_cons_of_mem _ hx)) g (by simp at hg; omega)]
    simp

/-- A varint that was read is no shorter than the number's own. -/
theorem vd_least : ∀ (l : List Nat) (i v : Nat), v < 128 ^ i → (vd l i v).2.2 = 0 → (vd l i v).1 < 128 ^ (vd l i v).2.1 ∧ 1 ≤ (vd l i v).2.1
  | [], _, _, _, h => by simp [vd] at h
  | c :: r, i, v, hv, h => by
    by_cases h1 : i = 9 ∧ 1 < c
    · simp [vd, h1] at h
    · by_cases h2 : c < 128
      · rw [vd_last h1 h2]
        exact ⟨vd_step hv h2, by simp⟩
      · rw [vd_more h1 h2] at h ⊢
        exact vd_least r (i + 1) _ (vd_step hv (by omega)) h
theorem vat_least {l : List Nat} {p v q : Nat} (h : vat l p = (v, q, 0)) : p + (vb v).length ≤ q := by
  have h0 : (vd (l.drop p) 0 0).2.2 = 0 := by have := congrArg (fun r => r.2.2) h; exact this
  have h1 : (vd (l.drop p) 0 0).1 = v := by have := congrArg (fun r => r.1) h; exact this
  have h2 : p + (vd (l.drop p) 0 0).2.1 = q := by
    have := congrArg (fun r => r.2.1) h
    unfold vat at this
    simp only at this
    rwa [if_pos h0] at this
  have h3 := vd_least (l.drop p) 0 0 (by simp) h0
  rw [h1] at h3
  obtain ⟨n, hn⟩ : ∃ n, (vd (l.drop p) 0 0).2.1 = n + 1 := ⟨(vd (l.drop p) 0 0).2.1 - 1, by omega⟩
  rw [hn] at h3 h2
  have := vb_len n v h3.1
  omega
theorem pf_least {l : List Nat} {p : Nat} (hp : p < l.length) (h : (fld l p).1 = 0) : p + (pf (fld l p).2.1).length ≤ (fld l p).2.2 := by
  obtain ⟨X, y, hv, hn, hc⟩ := fld_inv h
  have h1 := vat_least hv
  have hX : 8 * (X / 8) + X % 8 = X := by omega
  have hs := vat_step (Nat.le_of_lt hp) (by rw [hv])
  rw [hv] at hs
  simp only at hs
  rcases hc with ⟨hk, v, q, hw, e⟩ | ⟨hk, g, e⟩ | ⟨hk, g, e⟩ | ⟨hk, v, q, hw, g, e⟩
  · have h2 := vat_least hw
    rw [e]
    simp only [pf, hdN, if_true]
    rw [hk] at hX
    rw [hX]
    simp; omega
  · rw [e]
    have ep : pf ⟨X / 8, 1, le (cut l y 8), []⟩ = vb (8 * (X / 8) + 1) ++ fx (le (cut l y 8)) 8 := by simp [pf, hdN]
    show p + (pf ⟨X / 8, 1, le (cut l y 8), []⟩).length ≤ y + 8
    rw [hk] at hX
    rw [ep, hX, List.length_append, fx_length]
    omega
  · rw [e]
    have ep : pf ⟨X / 8, 5, le (cut l y 4), []⟩ = vb (8 * (X / 8) + 5) ++ fx (le (cut l y 4)) 4 := by simp [pf, hdN]
    show p + (pf ⟨X / 8, 5, le (cut l y 4), []⟩).length ≤ y + 4
    rw [hk] at hX
    rw [ep, hX, List.length_append, fx_length]
    omega
  · have h2 := vat_least hw
    have ht := vat_step hs.2 (by rw [hw])
    rw [hw] at ht
    simp only at ht
    rw [e]
    have ep : pf ⟨X / 8, 2, 0, cut l q v⟩ = vb (8 * (X / 8) + 2) ++ (vb (cut l q v).length ++ cut l q v) := by simp [pf, hdN]
    show p + (pf ⟨X / 8, 2, 0, cut l q v⟩).length ≤ q + v
    rw [hk] at hX
    rw [ep, hX, List.length_append, List.length_append, cut_length (by omega)]
    omega
theorem gets_least (l : List Nat) : ∀ (f p : Nat) (acc : List F), p ≤ l.length → (pfs acc).length ≤ p → (gets l f p acc).2 = 0 → (pfs (gets l f p acc).1).length ≤ l.length
  | 0, p, acc, hp, ha, _ => by simp only [gets]; omega
  | f + 1, p, acc, hp, ha, h => by
    by_cases hlt : p < l.length
    · by_cases he : (fld l p).1 = 0
      · have hs := fld_step hlt he
        have hl := pf_least hlt he
        rw [gets_more hlt he] at h ⊢
        exact gets_least l f _ _ hs.2 (by rw [pfs_snoc, List.length_append]; omega) h
      · rw [gets_err hlt he] at h
        exact absurd h he
    · rw [gets_end hlt]; simp only; omega
end Go.Proofs.YtdifojeghplpeaaDoor.Var
