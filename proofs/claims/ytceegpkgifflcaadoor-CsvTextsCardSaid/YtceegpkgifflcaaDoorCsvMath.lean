/- Layer 18: plain mathematics of tables' texts. -/
import Derived.Test.YtceegpkgifflcaaDoorBs
namespace Go.Proofs.YtceegpkgifflcaaDoor
open Go.RowKit
set_option linter.unusedVariables false

def endA (l : List Nat) (i : Nat) : Nat := if l.getD i 0 = 10 then 1 else if l.getD i 0 = 13 ∧ l.getD (i + 1) 0 = 10 then 2 else 0
def overA (l : List Nat) (i : Nat) : Prop := l.length ≤ i ∨ l.getD i 0 = 44 ∨ 0 < endA l i
instance (l : List Nat) (i : Nat) : Decidable (overA l i) := inferInstanceAs (Decidable (_ ∨ _ ∨ _))
theorem endA_le {l : List Nat} {i : Nat} (h : i ≤ l.length) : i + endA l i ≤ l.length := by
  unfold endA
  split
  · have := lt_of_getD (l := l) (k := i) (by omega); omega
  · split
    · next h1 => have := lt_of_getD (l := l) (k := i + 1) (by omega); omega
    · omega
/-- A field without quotes: its bytes, the place behind it or that of the fault, the error. -/
def bareE (l : List Nat) : Nat → Nat → List Nat → List Nat × Nat × Int
  | 0, i, m => (m, i, 0)
  | f + 1, i, m => if overA l i then (m, i, 0) else if l.getD i 0 = 34 ∨ l.getD i 0 = 13 then ([], i, 3) else bareE l f (i + 1) (m ++ [l.getD i 0])
theorem bareE_over {l : List Nat} {f i : Nat} {m : List Nat} (h : overA l i) : bareE l (f + 1) i m = (m, i, 0) := by show (if _ then _ else _) = _; rw [if_pos h]
theorem bareE_bad {l : List Nat} {f i : Nat} {m : List Nat} (h : ¬ overA l i) (h1 : l.getD i 0 = 34 ∨ l.getD i 0 = 13) : bareE l (f + 1) i m = ([], i, 3) := by show (if _ then _ else _) = _; rw [if_neg h, if_pos h1]
theorem bareE_more {l : List Nat} {f i : Nat} {m : List Nat} (h : ¬ overA l i) (h1 : ¬ (l.getD i 0 = 34 ∨ l.getD i 0 = 13)) : bareE l (f + 1) i m = bareE l f (i + 1) (m ++ [l.getD i 0]) := by
  conv => lhs; unfold bareE
  rw [if_neg h, if_neg h1]
/-- A field in quotes, behind the first one. -/
def quoE (l : List Nat) : Nat → Nat → List Nat → List Nat × Nat × Int
  | 0, i, m => ([], l.length, 2)
  | f + 1, i, m => if i < l.length then (if l.getD i 0 ≠ 34 then quoE l f (i + 1) (m ++ [l.getD i 0]) else if l.getD (i + 1) 0 = 34 then quoE l f (i + 2) (m ++ [34]) else if overA l (i + 1) then (m, i + 1, 0) else ([], i + 1, 3)) else ([], l.length, 2)
theorem quoE_end {l : List Nat} {f i : Nat} {m : List Nat} (h : ¬ i < l.length) : quoE l f i m = ([], l.length, 2) := by
  cases f with
  | zero => rfl
  | succ f => unfold quoE; rw [if_neg h]
theorem quoE_more {l : List Nat} {f i : Nat} {m : List Nat} (h : i < l.length) (h1 : l.getD i 0 ≠ 34) : quoE l (f + 1) i m = quoE l f (i + 1) (m ++ [l.getD i 0]) := by
  conv => lhs; unfold quoE
  rw [if_pos h, if_pos h1]
theorem quoE_two {l : List Nat} {f i : Nat} {m : List Nat} (h : i < l.length) (h1 : l.getD i 0 = 34) (h2 : l.getD (i + 1) 0 = 34) : quoE l (f + 1) i m = quoE l f (i + 2) (m ++ [34]) := by
  conv => lhs; unfold quoE
  rw [if_pos h, if_neg (by omega), if_pos h2]
theorem quoE_over {l : List Nat} {f i : Nat} {m : List Nat} (h : i < l.length) (h1 : l.getD i 0 = 34) (h2 : l.getD (i + 1) 0 ≠ 34) (h3 : overA l (i + 1)) : quoE l (f + 1) i m = (m, i + 1, 0) := by
  conv => lhs; unfold quoE
  rw [if_pos h, if_neg (by omega), if_neg h2, if_pos h3]
theorem quoE_bad {l : List Nat} {f i : Nat} {m : List Nat} (h : i < l.length) (h1 : l.getD i 0 = 34) (h2 : l.getD (i + 1) 0 ≠ 34) (h3 : ¬ overA l (i + 1)) : quoE l (f + 1) i m = ([], i + 1, 3) := by
  conv => lhs; unfold quoE
  rw [if_pos h, if_neg (by omega), if_neg h2, if_neg h3]
/-- More fuel does nothing. -/
theorem quoE_fuel {l : List Nat} : ∀ (f g i : Nat) (m : List Nat), l.length - i ≤ f → l.length - i ≤ g → quoE l f i m = quoE l g i m
  | 0, g, i, m, h1, h2 => by rw [quoE_end (by omega), quoE_end (by omega)]
  | f + 1, g, i, m, h1, h2 => by
    by_cases hi : i < l.length
    · obtain ⟨g, rfl⟩ : ∃ g', g = g' + 1 := ⟨g - 1, by omega⟩
      by_cases a : l.getD i 0 = 34
      · by_cases b : l.getD (i + 1) 0 = 34
        · rw [quoE_two hi a b, quoE_two hi a b]; exact quoE_fuel f g _ _ (by omega) (by omega)
        · by_cases c : overA l (i + 1)
          · rw [quoE_over hi a b c, quoE_over hi a b c]
          · rw [quoE_bad hi a b c, quoE_bad hi a b c]
      · rw [quoE_more hi a, quoE_more hi a]; exact quoE_fuel f g _ _ (by omega) (by omega)
    · rw [quoE_end hi, quoE_end hi]
/-- Up to the next quote all is taken at once. -/
theorem quoE_run {l : List Nat} : ∀ (n f i : Nat) (m : List Nat), i + n ≤ l.length → (∀ j, j < n → l.getD (i + j) 0 ≠ 34) → l.length - i ≤ f → quoE l f i m = quoE l f (i + n) (m ++ (l.drop i).take n)
  | 0, f, i, m, _, _, _ => by simp
  | n + 1, f, i, m, h, hj, hf => by
    obtain ⟨f, rfl⟩ : ∃ f', f = f' + 1 := ⟨f - 1, by omega⟩
    rw [quoE_more (by omega) (by simpa using hj 0 (by omega)), quoE_run n f (i + 1) _ (by omega) (fun j hj' => by rw [show i + 1 + j = i + (j + 1) by omega]; exact hj _ (by omega)) (by omega),
      drop_head (l := l) (k := i) (by omega), List.take_succ_cons, show i + 1 + n = i + (n + 1) by omega]
    rw [List.append_assoc, List.singleton_append]
    exact quoE_fuel _ _ _ _ (by omega) (by omega)
/-- What a reading leaves: the place is at hand, the end is one, the bytes are bytes. -/
structure FldOk (l : List Nat) (i : Nat) (F : List Nat × Nat × Int) : Prop where
  lo : i ≤ F.2.1
  hi : F.2.1 ≤ l.length
  err : F.2.2 = 0 ∨ F.2.2 = 2 ∨ F.2.2 = 3
  over : F.2.2 = 0 → overA l F.2.1
  byt : ∀ x ∈ F.1, x < 256
  len : F.1.length ≤ F.2.1
theorem bareE_ok {l : List Nat} (hl : ∀ x ∈ l, x < 256) : ∀ (f i : Nat) (m : List Nat), i ≤ l.length → l.length - i < f → (∀ x ∈ m, x < 256) → m.length ≤ i → FldOk l i (bareE l f i m)
  | 0, i, m, h, hf, hm, hk => by omega
  | f + 1, i, m, h, hf, hm, hk => by
    by_cases a : overA l i
    · rw [bareE_over a]; exact ⟨Nat.le_refl _, h, .inl rfl, fun _ => a, hm, hk⟩
    · by_cases b : l.getD i 0 = 34 ∨ l.getD i 0 = 13
      · rw [bareE_bad a b]; exact ⟨Nat.le_refl _, h, .inr (.inr rfl), (fun h => nomatch h), by simp, by simp⟩
      · have hi : i < l.length := by unfold overA at a; omega
        rw [bareE_more a b]
        have := bareE_ok hl f (i + 1) (m ++ [l.getD i 0]) hi (by omega) (by
          intro x hx
          rcases List.mem_append.1 hx with h | h
          · exact hm x h
          · rw [List.mem_singleton.1 h]; exact getD_lt hl i) (by simp; omega)
        exact ⟨by have := this.lo; omega, this.hi, this.err, this.over, this.byt, this.len⟩
theorem quoE_ok {l : List Nat} (hl : ∀ x ∈ l, x < 256) : ∀ (f i : Nat) (m : List Nat), i ≤ l.length → l.length - i < f → (∀ x ∈ m, x < 256) → m.length ≤ i → FldOk l i (quoE l f i m)
  | 0, i, m, h, hf, hm, hk => by omega
  | f + 1, i, m, h, hf, hm, hk => by
    by_cases hi : i < l.length
    · by_cases a : l.getD i 0 = 34
      · by_cases b : l.getD (i + 1) 0 = 34
        · rw [quoE_two hi a b]
          have h2 : i + 1 < l.length := lt_of_getD (by omega)
          have := quoE_ok hl f (i + 2) (m ++ [34]) h2 (by omega) (by
            intro x hx
            rcases List.mem_append.1 hx with h | h
            · exact hm x h
            · rw [List.mem_singleton.1 h]; omega) (by simp; omega)
          exact ⟨by have := this.lo; omega, this.hi, this.err, this.over, this.byt, this.len⟩
        · by_cases c : overA l (i + 1)
          · rw [quoE_over hi a b c]; exact ⟨by simp, hi, .inl rfl, fun _ => c, hm, by simp; omega⟩
          · rw [quoE_bad hi a b c]; exact ⟨by simp, hi, .inr (.inr rfl), (fun h => nomatch h), by simp, by simp⟩
      · rw [quoE_more hi a]
        have := quoE_ok hl f (i + 1) (m ++ [l.getD i 0]) hi (by omega) (by
          intro x hx
          rcases List.mem_append.1 hx with h | h
          · exact hm x h
          · rw [List.mem_singleton.1 h]; exact getD_lt hl i) (by simp; omega)
        exact ⟨by have := this.lo; omega, this.hi, this.err, this.over, this.byt, this.len⟩
    · rw [quoE_end hi]; exact ⟨h, Nat.le_refl _, .inr (.inl rfl), (fun h => nomatch h), by simp, by simp⟩
def fieldE (l : List Nat) (i : Nat) : List Nat × Nat × Int := if l.getD i 0 = 34 then quoE l (l.length + 1) (i + 1) [] else bareE l (l.length + 1) i []
theorem fieldE_ok {l : List Nat} (hl : ∀ x ∈ l, x < 256) (i : Nat) (hi : i ≤ l.length) : FldOk l i (fieldE l i) := by
  unfold fieldE
  split
  · have h1 : i < l.length := lt_of_getD (by omega)
    have := quoE_ok hl (l.length + 1) (i + 1) [] (by omega) (by omega) (by simp) (by simp)
    exact ⟨by have := this.lo; omega, this.hi, this.err, this.over, this.byt, this.len⟩
  · exact bareE_ok hl _ _ _ hi (by omega) (by simp) (by simp)
/-- A row with its line's end. -/
def rowE (l : List Nat) : Nat → Nat → List ByteArray → List ByteArray × Nat × Int
  | 0, i, r => (r, i, 0)
  | f + 1, i, r => if (fieldE l i).2.2 ≠ 0 then ([], (fieldE l i).2.1, (fieldE l i).2.2) else if l.getD (fieldE l i).2.1 0 = 44 then rowE l f ((fieldE l i).2.1 + 1) (r ++ [strOf (fieldE l i).1])
      else (r ++ [strOf (fieldE l i).1], (fieldE l i).2.1 + endA l (fieldE l i).2.1, 0)
theorem rowE_err {l : List Nat} {f i : Nat} {r : List ByteArray} (h : (fieldE l i).2.2 ≠ 0) : rowE l (f + 1) i r = ([], (fieldE l i).2.1, (fieldE l i).2.2) := by
  show (if _ then _ else _) = _; rw [if_pos h]
theorem rowE_more {l : List Nat} {f i k : Nat} {m : List Nat} {r : List ByteArray} (h : fieldE l i = (m, k, 0)) (h1 : l.getD k 0 = 44) : rowE l (f + 1) i r = rowE l f (k + 1) (r ++ [strOf m]) := by
  show (if _ then _ else _) = _; rw [h]; rw [if_neg (by simp), if_pos h1]
theorem rowE_end {l : List Nat} {f i k : Nat} {m : List Nat} {r : List ByteArray} (h : fieldE l i = (m, k, 0)) (h1 : l.getD k 0 ≠ 44) : rowE l (f + 1) i r = (r ++ [strOf m], k + endA l k, 0) := by
  show (if _ then _ else _) = _; rw [h]; rw [if_neg (by simp), if_neg h1]
structure RowOk (l : List Nat) (i : Nat) (W : List ByteArray × Nat × Int) : Prop where
  lo : i ≤ W.2.1
  hi : W.2.1 ≤ l.length
  err : W.2.2 = 0 ∨ W.2.2 = 2 ∨ W.2.2 = 3
  more : W.2.2 = 0 → i < l.length → i < W.2.1
  len : W.1.length ≤ W.2.1 + 1
  siz : ∀ t ∈ W.1, t.size ≤ l.length
theorem rowE_ok {l : List Nat} (hl : ∀ x ∈ l, x < 256) : ∀ (f i : Nat) (r : List ByteArray), i ≤ l.length → l.length - i < f → r.length ≤ i → (∀ t ∈ r, t.size ≤ l.length) → RowOk l i (rowE l f i r)
  | 0, i, r, h, hf, hr, ht => by omega
  | f + 1, i, r, h, hf, hr, ht => by
    have ho := fieldE_ok hl i h
    obtain ⟨m, k, e, hF⟩ : ∃ m k e, fieldE l i = (m, k, e) := ⟨_, _, _, rfl⟩
    by_cases he : e = 0
    · subst he
      rw [hF] at ho
      have h1 := ho.lo
      have h2 := ho.hi
      have h3 := ho.over rfl
      have h5 := ho.len
      simp only at h1 h2 h3 h5
      have ht2 : ∀ t ∈ r ++ [strOf m], t.size ≤ l.length := by
        intro t hx
        rcases List.mem_append.1 hx with h | h
        · exact ht t h
        · rw [List.mem_singleton.1 h, strOf_size]; omega
      by_cases hc : l.getD k 0 = 44
      · have hk : k < l.length := lt_of_getD (by omega)
        rw [rowE_more hF hc]
        have := rowE_ok hl f (k + 1) (r ++ [strOf m]) hk (by omega) (by simp; omega) ht2
        exact ⟨by have := this.lo; omega, this.hi, this.err, fun _ _ => by have := this.lo; omega, this.len, this.siz⟩
      · rw [rowE_end hF hc]
        have h4 := endA_le h2
        refine ⟨by simp; omega, h4, .inl rfl, fun _ hi => ?_, by simp; omega, ht2⟩
        show i < k + endA l k
        rcases h3 with h3 | h3 | h3 <;> omega
    · have he2 : (fieldE l i).2.2 ≠ 0 := by rw [hF]; exact he
      rw [rowE_err he2]
      exact ⟨ho.lo, ho.hi, ho.err, fun h => absurd h he2, by simp, by simp⟩
/-- All rows. -/
def parseE (l : List Nat) : Nat → Nat → List (List ByteArray) → List (List ByteArray) × Nat × Int
  | 0, i, R => (R, l.length, 0)
  | f + 1, i, R => if i < l.length then (if R.length = 65536 then ([], i, 9) else if (rowE l (l.length + 1) i []).2.2 ≠ 0 then ([], (rowE l (l.length + 1) i []).2.1, (rowE l (l.length + 1) i []).2.2)
      else if 0 < R.length ∧ (rowE l (l.length + 1) i []).1.length ≠ (R.getD 0 []).length then ([], i, 3) else parseE l f (rowE l (l.length + 1) i []).2.1 (R ++ [(rowE l (l.length + 1) i []).1])) else (R, l.length, 0)
theorem parseE_end {l : List Nat} {f i : Nat} {R : List (List ByteArray)} (h : ¬ i < l.length) : parseE l f i R = (R, l.length, 0) := by
  cases f with
  | zero => rfl
  | succ f => unfold parseE; rw [if_neg h]
theorem parseE_many {l : List Nat} {f i : Nat} {R : List (List ByteArray)} (h : i < l.length) (h1 : R.length = 65536) : parseE l (f + 1) i R = ([], i, 9) := by
  conv => lhs; unfold parseE
  rw [if_pos h, if_pos h1]
theorem parseE_err {l : List Nat} {f i k : Nat} {e : Int} {r : List ByteArray} {R : List (List ByteArray)} (h : i < l.length) (h1 : R.length ≠ 65536) (h2 : rowE l (l.length + 1) i [] = (r, k, e)) (h3 : e ≠ 0) : parseE l (f + 1) i R = ([], k, e) := by
  conv => lhs; unfold parseE
  rw [if_pos h, if_neg h1, h2, if_pos h3]
theorem parseE_form {l : List Nat} {f i k : Nat} {r : List ByteArray} {R : List (List ByteArray)} (h : i < l.length) (h1 : R.length ≠ 65536) (h2 : rowE l (l.length + 1) i [] = (r, k, 0)) (h3 : 0 < R.length ∧ r.length ≠ (R.getD 0 []).length) : parseE l (f + 1) i R = ([], i, 3) := by
  conv => lhs; unfold parseE
  rw [if_pos h, if_neg h1, h2, if_neg (by simp), if_pos h3]
theorem parseE_more {l : List Nat} {f i k : Nat} {r : List ByteArray} {R : List (List ByteArray)} (h : i < l.length) (h1 : R.length ≠ 65536) (h2 : rowE l (l.length + 1) i [] = (r, k, 0)) (h3 : ¬ (0 < R.length ∧ r.length ≠ (R.getD 0 []).length)) :
    parseE l (f + 1) i R = parseE l f k (R ++ [r]) := by
  conv => lhs; unfold parseE
  rw [if_pos h, if_neg h1, h2, if_neg (by simp), if_neg h3]
end Go.Proofs.YtceegpkgifflcaaDoor
