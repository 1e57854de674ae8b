/- Plain mathematics of a field, case by case. -/
import Derived.Test.YtdifojeghplpeaaDoorGetMath
namespace Go.Proofs.YtdifojeghplpeaaDoor.Var
section
variable {l : List Nat} {p X y v q E : Nat}
theorem fld_c0 {z : Nat} (h : vat l p = (X, y, z)) (hz : z ≠ 0) : fld l p = (z, ⟨0, 0, 0, []⟩, 0) := by unfold fld; simp [h, hz]
theorem fld_cform (h : vat l p = (X, y, 0)) (hn : X / 8 < 1 ∨ 536870911 < X / 8) : fld l p = (3, ⟨0, 0, 0, []⟩, 0) := by
  unfold fld; simp only [h]; rw [if_neg (by simp), if_pos hn]
theorem fld_cother (h : vat l p = (X, y, 0)) (hk : X % 8 = 3 ∨ X % 8 = 4 ∨ X % 8 = 6 ∨ X % 8 = 7) : fld l p = (3, ⟨0, 0, 0, []⟩, 0) := by
  unfold fld; simp only [h]
  by_cases hn : X / 8 < 1 ∨ 536870911 < X / 8
  · rw [if_neg (by simp), if_pos hn]
  · rw [if_neg (by simp), if_neg hn, if_neg (by omega), if_neg (by omega), if_neg (by omega), if_neg (by omega)]
theorem fld_cve (h : vat l p = (X, y, 0)) (hn : ¬ (X / 8 < 1 ∨ 536870911 < X / 8)) (hk : X % 8 = 0 ∨ X % 8 = 2) (g : vat l y = (v, q, E)) (hE : E ≠ 0) : fld l p = (E, ⟨0, 0, 0, []⟩, 0) := by
  unfold fld; simp only [h]; rw [if_neg (by simp), if_neg hn]
  rcases hk with hk | hk
  · rw [if_pos hk]; simp only [g]; rw [if_pos hE]
  · rw [if_neg (by omega), if_neg (by omega), if_neg (by omega), if_pos hk]; simp only [g]; rw [if_pos hE]
theorem fld_cv (h : vat l p = (X, y, 0)) (hn : ¬ (X / 8 < 1 ∨ 536870911 < X / 8)) (hk : X % 8 = 0) (g : vat l y = (v, q, 0)) : fld l p = (0, ⟨X / 8, 0, v, []⟩, q) := by
  unfold fld; simp only [h]; rw [if_neg (by simp), if_neg hn, if_pos hk]; simp only [g]; rw [if_neg (by simp)]
theorem fld_c8s (h : vat l p = (X, y, 0)) (hn : ¬ (X / 8 < 1 ∨ 536870911 < X / 8)) (hk : X % 8 = 1) (g : l.length - y < 8) : fld l p = (2, ⟨0, 0, 0, []⟩, 0) := by
  unfold fld; simp only [h]; rw [if_neg (by simp), if_neg hn, if_neg (by omega), if_pos hk, if_pos g]
theorem fld_c8 (h : vat l p = (X, y, 0)) (hn : ¬ (X / 8 < 1 ∨ 536870911 < X / 8)) (hk : X % 8 = 1) (g : ¬ l.length - y < 8) : fld l p = (0, ⟨X / 8, 1, le (cut l y 8), []⟩, y + 8) := by
  unfold fld; simp only [h]; rw [if_neg (by simp), if_neg hn, if_neg (by omega), if_pos hk, if_neg g]
theorem fld_c4s (h : vat l p = (X, y, 0)) (hn : ¬ (X / 8 < 1 ∨ 536870911 < X / 8)) (hk : X % 8 = 5) (g : l.length - y < 4) : fld l p = (2, ⟨0, 0, 0, []⟩, 0) := by
  unfold fld; simp only [h]; rw [if_neg (by simp), if_neg hn, if_neg (by omega), if_neg (by omega), if_pos hk, if_pos g]
theorem fld_c4 (h : vat l p = (X, y, 0)) (hn : ¬ (X / 8 < 1 ∨ 536870911 < X / 8)) (hk : X % 8 = 5) (g : ¬ l.length - y < 4) : fld l p = (0, ⟨X / 8, 5, le (cut l y 4), []⟩, y + 4) := by
  unfold fld; simp only [h]; rw [if_neg (by simp), if_neg hn, if_neg (by omega), if_neg (by omega), if_pos hk, if_neg g]
theorem fld_cbs (h : vat l p = (X, y, 0)) (hn : ¬ (X / 8 < 1 ∨ 536870911 < X / 8)) (hk : X % 8 = 2) (g : vat l y = (v, q, 0)) (k : l.length - q < v) : fld l p = (2, ⟨0, 0, 0, []⟩, 0) := by
  unfold fld; simp only [h]; rw [if_neg (by simp), if_neg hn, if_neg (by omega), if_neg (by omega), if_neg (by omega), if_pos hk]; simp only [g]; rw [if_neg (by simp), if_pos k]
theorem fld_cb (h : vat l p = (X, y, 0)) (hn : ¬ (X / 8 < 1 ∨ 536870911 < X / 8)) (hk : X % 8 = 2) (g : vat l y = (v, q, 0)) (k : ¬ l.length - q < v) : fld l p = (0, ⟨X / 8, 2, 0, cut l q v⟩, q + v) := by
  unfold fld; simp only [h]; rw [if_neg (by simp), if_neg hn, if_neg (by omega), if_neg (by omega), if_neg (by omega), if_pos hk]; simp only [g]; rw [if_neg (by simp), if_neg k]
end
/-- A field that was read: how it came. -/
theorem fld_inv {l : List Nat} {p : Nat} (h : (fld l p).1 = 0) : ∃ X y, vat l p = (X, y, 0) ∧ ¬ (X / 8 < 1 ∨ 536870911 < X / 8) ∧
    ((X % 8 = 0 ∧ ∃ v q, vat l y = (v, q, 0) ∧ fld l p = (0, ⟨X / 8, 0, v, []⟩, q)) ∨
     (X % 8 = 1 ∧ ¬ l.length - y < 8 ∧ fld l p = (0, ⟨X / 8, 1, le (cut l y 8), []⟩, y + 8)) ∨
     (X % 8 = 5 ∧ ¬ l.length - y < 4 ∧ fld l p = (0, ⟨X / 8, 5, le (cut l y 4), []⟩, y + 4)) ∨
     (X % 8 = 2 ∧ ∃ v q, vat l y = (v, q, 0) ∧ ¬ l.length - q < v ∧ fld l p = (0, ⟨X / 8, 2, 0, cut l q v⟩, q + v))) := by
  obtain ⟨⟨X, y, z⟩, hv⟩ : ∃ r, vat l p = r := ⟨_, rfl⟩
  by_cases hz : z = 0
  · subst hz
    by_cases hn : X / 8 < 1 ∨ 536870911 < X / 8
    · rw [fld_cform hv hn] at h; simp at h
    · refine ⟨X, y, hv, hn, ?_⟩
      obtain ⟨⟨v, q, E⟩, hw⟩ : ∃ r, vat l y = r := ⟨_, rfl⟩
      have hk : X % 8 = 0 ∨ X % 8 = 1 ∨ X % 8 = 5 ∨ X % 8 = 2 ∨ (X % 8 = 3 ∨ X % 8 = 4 ∨ X % 8 = 6 ∨ X % 8 = 7) := by omega
      rcases hk with hk | hk | hk | hk | hk
      · by_cases hE : E = 0
        · subst hE; exact .inl ⟨hk, v, q, hw, fld_cv hv hn hk hw⟩
        · rw [fld_cve hv hn (.inl hk) hw hE] at h; exact absurd h hE
      · by_cases g : l.length - y < 8
        · rw [fld_c8s hv hn hk g] at h; simp at h
        · exact .inr (.inl ⟨hk, g, fld_c8 hv hn hk g⟩)
      · by_cases g : l.length - y < 4
        · rw [fld_c4s hv hn hk g] at h; simp at h
        · exact .inr (.inr (.inl ⟨hk, g, fld_c4 hv hn hk g⟩))
      · by_cases hE : E = 0
        · subst hE
          by_cases k : l.length - q < v
          · rw [fld_cbs hv hn hk hw k] at h; simp at h
          · exact .inr (.inr (.inr ⟨hk, v, q, hw, k, fld_cb hv hn hk hw k⟩))
        · rw [fld_cve hv hn (.inr hk) hw hE] at h; exact absurd h hE
      · rw [fld_cother hv hk] at h; simp at h
  · rw [fld_c0 hv hz] at h; exact absurd h hz
end Go.Proofs.YtdifojeghplpeaaDoor.Var
