/- Layer 8: mathematics: a value's bytes give the value back. -/
import Derived.Test.YtdifojeghplpeaaDoorVal14
import Derived.Test.YtdifojeghplpeaaDoorPutMath
namespace Go.Proofs.YtdifojeghplpeaaDoor
open Go.RowKit Var
set_option linter.unusedVariables false

def oneV (g : G) : V3 × Nat := if g.kind ≠ fk g.num then (zeroV, 3) else if rightV (fromV g.num g.int g.data) = true then (fromV g.num g.int g.data, 0) else (zeroV, 3)
theorem strOf_size (d : List Nat) : (strOf d).size = d.length := by simp [strOf, ByteArray.size]
theorem strOf_bs (s : ByteArray) : strOf (bsOf s) = s := by
  unfold strOf bsOf
  have h : (s.data.toList.map UInt8.toNat).map (fun n => UInt8.ofNat n) = s.data.toList := by
    rw [List.map_map]
    conv => rhs; rw [← List.map_id s.data.toList]
    apply List.map_congr_left
    intro x _
    simp
  rw [h]
theorem fromV_ok (num : Int) (x : Nat) (d : List Nat) (hx : x < 18446744073709551616) (hd : d.length ≤ 1000000) : (fromV num x d).2.1.size ≤ 9223372036854775807 ∧ (fromV num x d).2.2 < 18446744073709551616 := by
  have hz := zag_in x hx
  constructor
  · unfold fromV
    simp only
    split
    · rw [strOf_size]; omega
    · show (0 : Nat) ≤ _; omega
  · unfold fromV
    simp only
    split
    · split <;> omega
    · exact hx
/-- What Get answers. -/
def getW (l : List Nat) : V3 × Nat :=
  if (gets l (l.length + 1) 0 []).2 ≠ 0 then (zeroV, (gets l (l.length + 1) 0 []).2) else
  if (knTo ((gets l (l.length + 1) 0 []).1.map F.g) ((gets l (l.length + 1) 0 []).1.map F.g).length).length ≠ 1 then (zeroV, 3) else
  oneV (lastG (knTo ((gets l (l.length + 1) 0 []).1.map F.g) ((gets l (l.length + 1) 0 []).1.map F.g).length))
theorem rightV_kind {v : V3} (h : rightV v = true) : 1 ≤ v.1 ∧ v.1 ≤ 7 := by
  unfold rightV at h
  split at h
  · omega
  · split at h
    · omega
    · split at h
      · omega
      · have := of_decide_eq_true h; omega
theorem rightV_plain (v : V3) : rightV (plain v) = rightV v := by
  unfold rightV plain
  by_cases h : v.1 = 1
  · simp [h]
  · simp [h]
def fieldF (v : V3) : F := ⟨v.1.toNat, (fk v.1).toNat, (fieldG v).int, (fieldG v).data⟩
theorem signed_in (n : Nat) (h : n < 18446744073709551616) : -9223372036854775808 ≤ (if n < 9223372036854775808 then (n : Int) else (n : Int) - 18446744073709551616) ∧ (if n < 9223372036854775808 then (n : Int) else (n : Int) - 18446744073709551616) < 9223372036854775808 := by split <;> omega
theorem fieldF_g {v : V3} (h : rightV v = true) : (fieldF v).g = fieldG v := by
  have h1 := rightV_kind h
  unfold fieldF F.g fieldG
  simp only
  have e1 : ((v.1.toNat : Nat) : Int) = v.1 := by omega
  have e2 : (((fk v.1).toNat : Nat) : Int) = fk v.1 := by
    unfold fk
    split
    · rfl
    · split
      · rfl
      · split <;> rfl
  rw [e1, e2]
theorem fieldF_ok {v : V3} (h : rightV v = true) (hb : v.2.2 < 18446744073709551616) (hs : v.2.1.size ≤ 1000) : FOk (fieldF v) 1000 := by
  have h1 := rightV_kind h
  obtain ⟨k, s, b⟩ := v
  simp only at h1 hb hs
  have hsg := zig_lt (signed_in b hb)
  have hk : k = 1 ∨ k = 2 ∨ k = 3 ∨ k = 4 ∨ k = 5 ∨ k = 6 ∨ k = 7 := by omega
  have e2 : k = 2 → b ≤ 4294967295 := by
    intro e; subst e
    simpa [rightV] using h
  refine ⟨?_, ?_, ?_, ?_, ?_, ?_, ?_⟩
  · show 1 ≤ k.toNat ∧ k.toNat ≤ _; omega
  · show (fieldG (k, s, b)).int < _
    unfold fieldG
    simp only
    split
    · omega
    · split
      · exact hsg
      · exact hb
  · show (fk k).toNat = 0 ∨ (fk k).toNat = 1 ∨ (fk k).toNat = 2 ∨ (fk k).toNat = 5
    rcases hk with rfl | rfl | rfl | rfl | rfl | rfl | rfl <;> decide
  · show (∀ x ∈ (fieldG (k, s, b)).data, x < 256) ∧ (fieldG (k, s, b)).data.length ≤ 1000
    unfold fieldG
    simp only
    split
    · exact ⟨bsOf_lt s, by rw [bsOf_length]; exact hs⟩
    · exact ⟨by simp, by simp⟩
  · show (fk k).toNat ≠ 2 → (fieldG (k, s, b)).data = []
    intro e
    unfold fieldG
    simp only
    rcases hk with rfl | rfl | rfl | rfl | rfl | rfl | rfl
    · exact absurd rfl e
    all_goals rfl
  · show (fk k).toNat = 2 → (fieldG (k, s, b)).int = 0
    intro e
    unfold fieldG
    simp only
    rcases hk with rfl | rfl | rfl | rfl | rfl | rfl | rfl
    · rfl
    all_goals exact absurd e (by decide)
  · show (fk k).toNat = 5 → (fieldG (k, s, b)).int < 4294967296
    intro e
    unfold fieldG
    simp only
    rcases hk with rfl | rfl | rfl | rfl | rfl | rfl | rfl
    · simp
    · have := e2 rfl; simp; omega
    all_goals exact absurd e (by decide)
theorem fromV_field {v : V3} (h : rightV v = true) (hb : v.2.2 < 18446744073709551616) : fromV (fieldG v).num (fieldG v).int (fieldG v).data = plain v := by
  obtain ⟨k, s, b⟩ := v
  simp only at hb
  unfold fromV fieldG plain
  simp only
  by_cases h1 : k = 1
  · subst h1
    simp [strOf_bs]
  · rw [if_neg h1, if_neg h1, if_neg h1]
    by_cases h6 : k = 6
    · subst h6
      simp only [if_true]
      rw [zag_zig (signed_in b hb)]
      congr 2
      split <;> split <;> omega
    · rw [if_neg h6, if_neg h6]
theorem pf_most {f : F} (h : FOk f 1000) : (pf f).length ≤ 1020 := by
  have l1 := vb_len10 (v := hdN f) (by have := h.num; have := h.kind; unfold hdN; omega)
  have l2 := vb_len10 (v := f.int) h.int
  have l3 := vb_len10 (v := f.data.length) (by have := h.data.2; omega)
  have l4 := h.data.2
  unfold pf
  split
  · simp; omega
  · split
    · simp [fx_length]; omega
    · split
      · simp; omega
      · split
        · simp [fx_length]; omega
        · simp
theorem pf_lt {f : F} (h : FOk f 1000) : ∀ x ∈ pf f, x < 256 := by
  intro x hx
  unfold pf at hx
  split at hx
  · rcases List.mem_append.1 hx with hx | hx <;> exact vb_lt _ x hx
  · split at hx
    · rcases List.mem_append.1 hx with hx | hx
      · exact vb_lt _ x hx
      · exact fx_lt _ _ x hx
    · split at hx
      · rcases List.mem_append.1 hx with hx | hx
        · exact vb_lt _ x hx
        · rcases List.mem_append.1 hx with hx | hx
          · exact vb_lt _ x hx
          · exact h.data.1 x hx
      · split at hx
        · rcases List.mem_append.1 hx with hx | hx
          · exact vb_lt _ x hx
          · exact fx_lt _ _ x hx
        · simp at hx
/-- A valid value's bytes: how many, and what Get makes of them. -/
theorem right_back {v : V3} (h : rightV v = true) (hb : v.2.2 < 18446744073709551616) (hs : v.2.1.size ≤ 1000) : (pgs [fieldG v]).length ≤ 1020 ∧ (∀ x ∈ pgs [fieldG v], x < 256) ∧ getW (pgs [fieldG v]) = (plain v, 0) := by
  have hf := fieldF_ok h hb hs
  have hg := fieldF_g h
  have hp : pgs [fieldG v] = pf (fieldF v) := by
    have := pgs_pfs 1000 [fieldF v] (fun f hf' => by rw [List.mem_singleton.1 hf']; exact hf)
    simp only [List.map_cons, List.map_nil, hg] at this
    rw [this]
    simp [pfs]
  refine ⟨by rw [hp]; exact pf_most hf, ?_, ?_⟩
  · rw [hp]
    exact pf_lt hf
  · have hgt := gets_pfs 1000 (by omega) [fieldF v] [] [] (fun f hf' => by rw [List.mem_singleton.1 hf']; exact hf) ((pf (fieldF v)).length + 1) (by simp [pfs])
    have hgt : gets (pf (fieldF v)) ((pf (fieldF v)).length + 1) 0 [] = ([fieldF v], 0) := by simpa [pfs] using hgt
    have hk := rightV_kind h
    have hkn : kn (fieldG v) = true := decide_eq_true hk
    unfold getW
    rw [hp, hgt]
    simp only [List.map_cons, List.map_nil, hg, List.length_cons, List.length_nil]
    have e : knTo [fieldG v] (0 + 1) = [fieldG v] := by simp [knTo, hkn]
    rw [e]
    simp only [lastG, List.length_cons, List.length_nil, ne_eq, not_true, if_false, List.getLast?_singleton, Option.getD_some]
    unfold oneV
    rw [fromV_field h hb, rightV_plain, h]
    simp [fieldG]
end Go.Proofs.YtdifojeghplpeaaDoor
