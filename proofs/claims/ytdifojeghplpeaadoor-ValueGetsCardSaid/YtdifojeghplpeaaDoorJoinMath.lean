/- Plain mathematics: messages one behind the other. -/
import Derived.Test.YtdifojeghplpeaaDoorFldCases
namespace Go.Proofs.YtdifojeghplpeaaDoor.Var

theorem vd_prefix (r : List Nat) : ∀ (l : List Nat) (i v : Nat), (vd l i v).2.2 = 0 → vd (l ++ r) i v = vd l i v
  | [], _, _, h => by simp [vd] at h
  | c :: l, i, v, h => by
    by_cases h1 : i = 9 ∧ 1 < c
    · simp [vd, h1] at h
    · by_cases h2 : c < 128
      · rw [List.cons_append, vd_last h1 h2, vd_last h1 h2]
      · rw [List.cons_append, vd_more h1 h2, vd_more h1 h2]
        rw [vd_more h1 h2] at h
        exact vd_prefix r l _ _ h
theorem vat_prefix {l r : List Nat} {p : Nat} (hp : p ≤ l.length) (h : (vat l p).2.2 = 0) : vat (l ++ r) p = vat l p := by
  have h' : (vd (l.drop p) 0 0).2.2 = 0 := h
  unfold vat
  rw [List.drop_append_of_le_length hp, vd_prefix r _ _ _ h']
theorem vat_shift (l r : List Nat) (p : Nat) : vat (l ++ r) (l.length + p) = ((vat r p).1, (if (vat r p).2.2 = 0 then l.length + (vat r p).2.1 else 0), (vat r p).2.2) := by
  unfold vat
  have e : (l ++ r).drop (l.length + p) = r.drop p := by simp
  rw [e]
  by_cases h : (vd (r.drop p) 0 0).2.2 = 0
  · simp only [h, if_true]
    rw [Nat.add_assoc]
  · simp only [h, if_false]
theorem cut_prefix {l r : List Nat} {p n : Nat} (h : p + n ≤ l.length) : cut (l ++ r) p n = cut l p n := by
  unfold cut
  rw [List.drop_append_of_le_length (by omega), List.take_append_of_le_length (by simp; omega)]
theorem cut_shift (l r : List Nat) (p n : Nat) : cut (l ++ r) (l.length + p) n = cut r p n := by
  unfold cut
  congr 1
  simp

theorem fld_prefix {l r : List Nat} {p : Nat} (hp : p < l.length) (h : (fld l p).1 = 0) : fld (l ++ r) p = fld l p := by
  obtain ⟨X, y, hv, hn, hc⟩ := fld_inv h
  have hs := vat_step (Nat.le_of_lt hp) (by rw [hv])
  rw [hv] at hs
  simp only at hs
  have hv' : vat (l ++ r) p = (X, y, 0) := by rw [vat_prefix (Nat.le_of_lt hp) (by rw [hv]), hv]
  rcases hc with ⟨hk, v, q, hw, e⟩ | ⟨hk, g, e⟩ | ⟨hk, g, e⟩ | ⟨hk, v, q, hw, g, e⟩
  · have hw' : vat (l ++ r) y = (v, q, 0) := by rw [vat_prefix hs.2 (by rw [hw]), hw]
    rw [e, fld_cv hv' hn hk hw']
  · rw [e, fld_c8 hv' hn hk (by simp; omega), cut_prefix (by omega)]
  · rw [e, fld_c4 hv' hn hk (by simp; omega), cut_prefix (by omega)]
  · have hw' : vat (l ++ r) y = (v, q, 0) := by rw [vat_prefix hs.2 (by rw [hw]), hw]
    have ht := vat_step hs.2 (by rw [hw])
    rw [hw] at ht
    simp only at ht
    rw [e, fld_cb hv' hn hk hw' (by simp; omega), cut_prefix (by omega)]
theorem fld_shift (l r : List Nat) (p : Nat) : fld (l ++ r) (l.length + p) = ((fld r p).1, (fld r p).2.1, (if (fld r p).1 = 0 then l.length + (fld r p).2.2 else 0)) := by
  obtain ⟨⟨X, y, z⟩, hv⟩ : ∃ s, vat r p = s := ⟨_, rfl⟩
  have hv' := vat_shift l r p
  rw [hv] at hv'
  simp only at hv'
  by_cases hz : z = 0
  · subst hz
    rw [if_pos rfl] at hv'
    by_cases hn : X / 8 < 1 ∨ 536870911 < X / 8
    · rw [fld_cform hv' hn, fld_cform hv hn]; simp
    · obtain ⟨⟨v, q, E⟩, hw⟩ : ∃ s, vat r y = s := ⟨_, rfl⟩
      have hw' := vat_shift l r y
      rw [hw] at hw'
      simp only at hw'
      have hk : X % 8 = 0 ∨ X % 8 = 1 ∨ X % 8 = 5 ∨ X % 8 = 2 ∨ (X % 8 = 3 ∨ X % 8 = 4 ∨ X % 8 = 6 ∨ X % 8 = 7) := by omega
      rcases hk with hk | hk | hk | hk | hk
      · by_cases hE : E = 0
        · subst hE; rw [if_pos rfl] at hw'; rw [fld_cv hv' hn hk hw', fld_cv hv hn hk hw]; simp
        · rw [if_neg hE] at hw'; rw [fld_cve hv' hn (.inl hk) hw' hE, fld_cve hv hn (.inl hk) hw hE]; simp [hE]
      · by_cases g : r.length - y < 8
        · rw [fld_c8s hv' hn hk (by simp; omega), fld_c8s hv hn hk g]; simp
        · rw [fld_c8 hv' hn hk (by simp; omega), fld_c8 hv hn hk g, cut_shift]; simp; omega
      · by_cases g : r.length - y < 4
        · rw [fld_c4s hv' hn hk (by simp; omega), fld_c4s hv hn hk g]; simp
        · rw [fld_c4 hv' hn hk (by simp; omega), fld_c4 hv hn hk g, cut_shift]; simp; omega
      · by_cases hE : E = 0
        · subst hE
          rw [if_pos rfl] at hw'
          by_cases k : r.length - q < v
          · rw [fld_cbs hv' hn hk hw' (by simp; omega), fld_cbs hv hn hk hw k]; simp
          · rw [fld_cb hv' hn hk hw' (by simp; omega), fld_cb hv hn hk hw k, cut_shift]; simp; omega
        · rw [if_neg hE] at hw'; rw [fld_cve hv' hn (.inr hk) hw' hE, fld_cve hv hn (.inr hk) hw hE]; simp [hE]
      · rw [fld_cother hv' hk, fld_cother hv hk]; simp
  · rw [if_neg hz] at hv'
    rw [fld_c0 hv' hz, fld_c0 hv hz]; simp [hz]

/-- Both messages, whose first one can be read. -/
theorem gets_prefix {l r : List Nat} : ∀ (f p : Nat) (acc X : List F), p ≤ l.length → l.length - p < f → gets l f p acc = (X, 0) → ∃ f', r.length < f' ∧ ∀ f2, l.length - p + r.length < f2 → ∃ f3, r.length < f3 ∧ gets (l ++ r) f2 p acc = gets (l ++ r) f3 l.length X
  | 0, _, _, _, _, hf, _ => by omega
  | f + 1, p, acc, X, hp, hf, h => by
    refine ⟨r.length + 1, by omega, fun f2 hf2 => ?_⟩
    by_cases hlt : p < l.length
    · by_cases he : (fld l p).1 = 0
      · have hs := fld_step hlt he
        rw [gets_more hlt he] at h
        obtain ⟨_, _, h2⟩ := gets_prefix (r := r) f (fld l p).2.2 _ X hs.2 (by omega) h
        obtain ⟨g, rfl⟩ : ∃ g, f2 = g + 1 := ⟨f2 - 1, by omega⟩
        obtain ⟨f3, h3, h4⟩ := h2 g (by omega)
        refine ⟨f3, h3, ?_⟩
        have hfp := fld_prefix (r := r) hlt he
        rw [gets_more (by simp; omega) (by rw [hfp]; exact he), hfp]
        exact h4
      · rw [gets_err hlt he] at h
        injection h with _ h
        exact absurd h he
    · rw [gets_end hlt] at h
      injection h with h _
      subst h
      obtain rfl : p = l.length := by omega
      exact ⟨f2, by omega, rfl⟩
theorem gets_shift (l r : List Nat) : ∀ (f p : Nat) (acc pre : List F), gets (l ++ r) f (l.length + p) (pre ++ acc) = ((if (gets r f p acc).2 = 0 then pre ++ (gets r f p acc).1 else []), (gets r f p acc).2)
  | 0, _, _, _ => by simp [gets]
  | f + 1, p, acc, pre => by
    have hsh := fld_shift l r p
    by_cases hlt : p < r.length
    · by_cases he : (fld r p).1 = 0
      · rw [gets_more (l := l ++ r) (by simp; omega) (by rw [hsh]; exact he), gets_more hlt he, hsh]
        simp only
        rw [if_pos he, List.append_assoc]
        exact gets_shift l r f _ _ pre
      · rw [gets_err (l := l ++ r) (by simp; omega) (by rw [hsh]; exact he), gets_err hlt he, hsh]
        simp [he]
    · rw [gets_end (l := l ++ r) (by simp; omega), gets_end hlt]
      simp
theorem gets_fuel (l : List Nat) : ∀ (f g p : Nat) (acc : List F), p ≤ l.length → l.length - p < f → l.length - p < g → gets l f p acc = gets l g p acc
  | 0, _, _, _, _, hf, _ => by omega
  | f + 1, 0, _, _, _, _, hg => by omega
  | f + 1, g + 1, p, acc, hp, hf, hg => by
    by_cases hlt : p < l.length
    · by_cases he : (fld l p).1 = 0
      · have hs := fld_step hlt he
        rw [gets_more hlt he, gets_more hlt he]
        exact gets_fuel l f g _ _ hs.2 (by omega) (by omega)
      · rw [gets_err hlt he, gets_err hlt he]
    · rw [gets_end hlt, gets_end hlt]
/-- What both messages are. -/
theorem gets_join {l r : List Nat} {X Y : List F} {E f1 f2 f3 : Nat} (h1 : gets l f1 0 [] = (X, 0)) (h2 : gets r f2 0 [] = (Y, E)) (hf1 : l.length < f1) (hf2 : r.length < f2) (hf3 : l.length + r.length < f3) :
    gets (l ++ r) f3 0 [] = ((if E = 0 then X ++ Y else []), E) := by
  obtain ⟨_, _, h⟩ := gets_prefix (r := r) f1 0 [] X (Nat.zero_le _) (by omega) h1
  obtain ⟨f4, h4, e⟩ := h f3 (by omega)
  have hs := gets_shift l r f4 0 [] X
  rw [Nat.add_zero, List.append_nil, gets_fuel r f4 f2 0 [] (Nat.zero_le _) (by omega) (by omega), h2] at hs
  rw [e, hs]
end Go.Proofs.YtdifojeghplpeaaDoor.Var
