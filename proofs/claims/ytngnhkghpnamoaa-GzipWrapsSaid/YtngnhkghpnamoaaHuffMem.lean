/- HuffMem -/
import Derived.Test.YtngnhkghpnamoaaHuff1
import Derived.Test.YtngnhkghpnamoaaGc02
import Derived.Laws.MakeOwn
namespace Go.Proofs.Ytngnhkghpnamoaa
open Go.RowKit Huff
set_option linter.unusedVariables false
set_option maxRecDepth 100000

theorem wdinfo : (Try.prog.info? 120).map (fun i => (i.zero, i.size, i.bytes)) = some (some (.agg #[.int .u32 0, .int .i64 0]), 2, 16) := by kernel_rfl

/-- The words' cells. -/
def wcs (p : Nat × Nat) : List Value := [.int .u32 (p.1 : Int), .int .i64 (p.2 : Int)]
def wcells (ws : List (Nat × Nat)) : List Value := ws.flatMap wcs
theorem wcells_length (ws : List (Nat × Nat)) : (wcells ws).length = ws.length * 2 := by
  induction ws with
  | nil => rfl
  | cons p ws ih => have h : wcells (p :: ws) = wcs p ++ wcells ws := by simp [wcells]
                    rw [h, List.length_append, ih]; simp [wcs]; omega
theorem wcells_get : ∀ (ws : List (Nat × Nat)) (i : Nat) (h : i < ws.length), (wcells ws)[i * 2]? = some (.int .u32 (ws[i].1 : Int)) ∧ (wcells ws)[i * 2 + 1]? = some (.int .i64 (ws[i].2 : Int))
  | [], i, h => by simp at h
  | p :: ws, 0, h => by
    have h1 : wcells (p :: ws) = wcs p ++ wcells ws := by simp [wcells]
    rw [h1]; exact ⟨rfl, rfl⟩
  | p :: ws, i + 1, h => by
    have h1 : wcells (p :: ws) = wcs p ++ wcells ws := by simp [wcells]
    have ih := wcells_get ws i (by simpa using h)
    have hl : (wcs p).length = 2 := rfl
    rw [h1, List.getElem?_append_right (by omega), List.getElem?_append_right (by omega), hl, show (i + 1) * 2 - 2 = i * 2 by omega, show (i + 1) * 2 + 1 - 2 = i * 2 + 1 by omega]
    exact ih
theorem wcells_set : ∀ (ws : List (Nat × Nat)) (i : Nat) (p : Nat × Nat), i < ws.length → ((wcells ws).set (i * 2) (.int .u32 (p.1 : Int))).set (i * 2 + 1) (.int .i64 (p.2 : Int)) = wcells (ws.set i p)
  | [], i, p, h => by simp at h
  | q :: ws, 0, p, h => by
    have h1 : ∀ q, wcells (q :: ws) = wcs q ++ wcells ws := fun q => by simp [wcells]
    rw [List.set_cons_zero, h1, h1]; rfl
  | q :: ws, i + 1, p, h => by
    have h1 : ∀ ws, wcells (q :: ws) = wcs q ++ wcells ws := fun ws => by simp [wcells]
    have ih := wcells_set ws i p (by simpa using h)
    have hl : (wcs q).length = 2 := rfl
    rw [List.set_cons_succ, h1, h1, List.set_append_right _ _ (by omega), List.set_append_right _ _ (by omega), hl, show (i + 1) * 2 - 2 = i * 2 by omega, show (i + 1) * 2 + 1 - 2 = i * 2 + 1 by omega, ih]

/-- The code's own cells. -/
def ccells (C : Value) (F : Nat → Nat) (v : Nat → Value) : List Value := C :: (List.range 16).flatMap fun k => [.int .u32 (F k : Int), v k]
theorem ccells_lit (C : Value) (F : Nat → Nat) (v : Nat → Value) : ccells C F v = [C, .int .u32 (F 0 : Int), v 0, .int .u32 (F 1 : Int), v 1, .int .u32 (F 2 : Int), v 2, .int .u32 (F 3 : Int), v 3, .int .u32 (F 4 : Int), v 4, .int .u32 (F 5 : Int), v 5, .int .u32 (F 6 : Int), v 6, .int .u32 (F 7 : Int), v 7,
    .int .u32 (F 8 : Int), v 8, .int .u32 (F 9 : Int), v 9, .int .u32 (F 10 : Int), v 10, .int .u32 (F 11 : Int), v 11, .int .u32 (F 12 : Int), v 12, .int .u32 (F 13 : Int), v 13, .int .u32 (F 14 : Int), v 14, .int .u32 (F 15 : Int), v 15] := rfl
theorem below16 {k : Nat} (h : k < 16) : k = 0 ∨ k = 1 ∨ k = 2 ∨ k = 3 ∨ k = 4 ∨ k = 5 ∨ k = 6 ∨ k = 7 ∨ k = 8 ∨ k = 9 ∨ k = 10 ∨ k = 11 ∨ k = 12 ∨ k = 13 ∨ k = 14 ∨ k = 15 := by omega
theorem ccells_first (C : Value) (F : Nat → Nat) (v : Nat → Value) {k : Nat} (h : k < 16) : (ccells C F v)[1 + k * 2]? = some (.int .u32 (F k : Int)) := by
  rcases below16 h with rfl | rfl | rfl | rfl | rfl | rfl | rfl | rfl | rfl | rfl | rfl | rfl | rfl | rfl | rfl | rfl <;> rfl
theorem ccells_syms (C : Value) (F : Nat → Nat) (v : Nat → Value) {k : Nat} (h : k < 16) : (ccells C F v)[1 + k * 2 + 1]? = some (v k) := by
  rcases below16 h with rfl | rfl | rfl | rfl | rfl | rfl | rfl | rfl | rfl | rfl | rfl | rfl | rfl | rfl | rfl | rfl <;> rfl
def upd {α : Type} (f : Nat → α) (n : Nat) (u : α) (j : Nat) : α := if j = n then u else f j
theorem ccells_setv (C : Value) (F : Nat → Nat) (v : Nat → Value) {k : Nat} (h : k < 16) (u : Value) : (ccells C F v).set (1 + k * 2 + 1) u = ccells C F (upd v k u) := by
  rcases below16 h with rfl | rfl | rfl | rfl | rfl | rfl | rfl | rfl | rfl | rfl | rfl | rfl | rfl | rfl | rfl | rfl <;> rfl
theorem ccells_setf (C : Value) (F : Nat → Nat) (v : Nat → Value) {k : Nat} (h : k < 16) (n : Nat) : (ccells C F v).set (1 + k * 2) (.int .u32 (n : Int)) = ccells C (upd F k n) v := by
  rcases below16 h with rfl | rfl | rfl | rfl | rfl | rfl | rfl | rfl | rfl | rfl | rfl | rfl | rfl | rfl | rfl | rfl <;> rfl
theorem ccells_congr {C : Value} {F F' : Nat → Nat} {v : Nat → Value} (h : ∀ k, k < 16 → F k = F' k) : ccells C F v = ccells C F' v := by
  rw [ccells_lit, ccells_lit]
  simp only [h 0 (by omega), h 1 (by omega), h 2 (by omega), h 3 (by omega), h 4 (by omega), h 5 (by omega), h 6 (by omega), h 7 (by omega), h 8 (by omega), h 9 (by omega), h 10 (by omega), h 11 (by omega), h 12 (by omega), h 13 (by omega), h 14 (by omega), h 15 (by omega)]
theorem upd_same {α : Type} (f : Nat → α) (n : Nat) (u : α) : upd f n u n = u := if_pos rfl
theorem upd_other {α : Type} (f : Nat → α) {n j : Nat} (u : α) (h : j ≠ n) : upd f n u j = f j := if_neg h

/-- The rows of symbols, one of each length; each in a block of its own. -/
structure Grp (W : World) (base : Nat) (v : Nat → Value) (ls : Nat → List Nat) : Prop where
  own : ∀ j, j < 16 → Own64 W base (v j) (ls j)
  apart : ∀ i j, i < 16 → j < 16 → i ≠ j → ∀ b, (v i).ownBlock = some b → (v j).ownBlock ≠ some b

theorem Grp.nil_ (W : World) (base : Nat) : Grp W base (fun _ => .slice none 0 0) (fun _ => []) :=
  ⟨fun _ _ => Own64.nil_ _ _, fun i j _ _ _ b h => by cases h⟩
theorem Grp.only {S : Nat → Prop} {W W' : World} {base : Nat} {v : Nat → Value} {ls : Nat → List Nat} (h : Grp W base v ls) (ho : Only S W W') (hn : ∀ b, base ≤ b → b < W.heap.size → ¬ S b) : Grp W' base v ls :=
  ⟨fun j hj => (h.own j hj).only ho (fun b hb => hn b ((h.own j hj).lt b hb).1 ((h.own j hj).lt b hb).2), h.apart⟩
theorem Grp.congr {W : World} {base : Nat} {v : Nat → Value} {ls ls' : Nat → List Nat} (h : Grp W base v ls) (he : ∀ j, j < 16 → ls j = ls' j) : Grp W base v ls' :=
  ⟨fun j hj => by rw [← he j hj]; exact h.own j hj, h.apart⟩
/-- One row grows. -/
theorem Grp.next {W W' : World} {base n : Nat} {v : Nat → Value} {ls : Nat → List Nat} {u : Value} {l : List Nat} (h : Grp W base v ls) (hn : n < 16) (hg : Gone64 W base (v n) l u W') (hB : base ≤ W.heap.size) :
    Grp W' base (upd v n u) (upd ls n l) := by
  refine ⟨fun j hj => ?_, fun i j hi hj hij b hb => ?_⟩
  · by_cases hjn : j = n
    · subst hjn; rw [upd_same, upd_same]; exact hg.own
    · rw [upd_other _ _ hjn, upd_other _ _ hjn]
      exact (h.own j hj).only hg.only (fun b hb e => h.apart n j hn hj (fun e => hjn e.symm) b e hb)
  · have hlt : ∀ j, j < 16 → ∀ b, (v j).ownBlock = some b → b < W.heap.size := fun j hj b hb => ((h.own j hj).lt b hb).2
    by_cases hin : i = n
    · subst hin
      rw [upd_same] at hb
      rw [upd_other _ _ (fun e => hij e.symm)]
      rcases hg.at_ with e | ⟨k, e, hk⟩
      · rw [e] at hb; exact h.apart i j hi hj hij b hb
      · rw [e] at hb; injection hb with hb; subst hb
        intro e2; have := hlt j hj _ e2; omega
    · rw [upd_other _ _ hin] at hb
      by_cases hjn : j = n
      · subst hjn
        rw [upd_same]
        rcases hg.at_ with e | ⟨k, e, hk⟩
        · rw [e]; exact h.apart i j hi hj hij b hb
        · rw [e]; intro e2; injection e2 with e2; subst e2
          have := hlt i hi _ hb; omega
      · rw [upd_other _ _ hjn]; exact h.apart i j hi hj hij b hb
theorem symsTo_upd (l : List Nat) (k : Nat) (hk : k < l.length) : upd (fun j => symsTo l j k) (l[k]) (symsTo l (l[k]) k ++ [k]) = fun j => symsTo l j (k + 1) := by
  funext j
  have hd : l.getD k 99 = l[k] := by simp [hk]
  show (if j = l[k] then _ else _) = symsTo l j k ++ if l.getD k 99 = j then [k] else []
  rw [hd]
  by_cases h : j = l[k]
  · rw [if_pos h, if_pos h.symm, h]
  · rw [if_neg h, if_neg (fun e => h e.symm), List.append_nil]
theorem wmade (n : Nat) : madeCells #[.int .u32 0, .int .i64 0] (n * 2) = (wcells (List.replicate n (0, 0))).toArray := by
  have hz0 : (#[.int .u32 0, .int .i64 0] : Array Value)[0]! = .int .u32 0 := rfl
  have hz1 : (#[.int .u32 0, .int .i64 0] : Array Value)[1]! = .int .i64 0 := rfl
  apply Array.ext
  · simp [size_madeCells, wcells_length]
  · intro j hj1 hj2
    simp only [madeCells, Array.getElem_map, Array.getElem_range, List.getElem_toArray]
    have hj : j < n * 2 := by simpa [size_madeCells] using hj1
    obtain ⟨g0, g1⟩ := wcells_get (List.replicate n (0, 0)) (j / 2) (by simp; omega)
    have hs : (#[.int .u32 0, .int .i64 0] : Array Value).size = 2 := rfl
    rw [hs]
    have h2 : j % 2 = 0 ∨ j % 2 = 1 := by omega
    rcases h2 with h2 | h2
    · have e : j / 2 * 2 = j := by omega
      rw [e] at g0
      rw [h2, hz0]
      have := (List.getElem?_eq_some_iff.1 g0).2
      simp at this ⊢
      exact this.symm
    · have e : j / 2 * 2 + 1 = j := by omega
      rw [e] at g1
      rw [h2, hz1]
      have := (List.getElem?_eq_some_iff.1 g1).2
      simp at this ⊢
      exact this.symm
theorem Whole.setv {W : World} {g : Nat} {C : Value} {F : Nat → Nat} {v : Nat → Value} (h : Whole W g 118 (ccells C F v).toArray) {k : Nat} (hk : k < 16) (u : Value) :
    Whole (W.setCell ⟨g, 1 + k * 2 + 1, none⟩ u) g 118 (ccells C F (upd v k u)).toArray := by
  have := h.set (1 + k * 2 + 1) u
  rw [List.setIfInBounds_toArray, ccells_setv C F v hk u] at this
  exact this
theorem Whole.setf {W : World} {g : Nat} {C : Value} {F : Nat → Nat} {v : Nat → Value} (h : Whole W g 118 (ccells C F v).toArray) {k : Nat} (hk : k < 16) (n : Nat) :
    Whole (W.setCell ⟨g, 1 + k * 2, none⟩ (.int .u32 (n : Int))) g 118 (ccells C (upd F k n) v).toArray := by
  have := h.set (1 + k * 2) (.int .u32 (n : Int))
  rw [List.setIfInBounds_toArray, ccells_setf C F v hk n] at this
  exact this
/-- The first codes of the lengths below n. -/
def firstTo (l : List Nat) (n k : Nat) : Nat := if 1 ≤ k ∧ k < n then fst l k else 0
theorem firstTo_start (l : List Nat) (k : Nat) : firstTo l 1 k = 0 := by unfold firstTo; rw [if_neg (by omega)]
theorem firstTo_next (l : List Nat) {n : Nat} (h : 1 ≤ n) : upd (firstTo l n) n (fst l n) = firstTo l (n + 1) := by
  funext k
  unfold upd firstTo
  by_cases hk : k = n
  · subst hk; rw [if_pos rfl, if_pos ⟨h, by omega⟩]
  · rw [if_neg hk]
    by_cases h2 : 1 ≤ k ∧ k < n
    · rw [if_pos h2, if_pos ⟨h2.1, by omega⟩]
    · rw [if_neg h2, if_neg (by omega)]
def wordsTo (l : List Nat) (n j : Nat) : List (Nat × Nat) := (List.range l.length).map (wordTo l n j)
theorem wordsTo_length (l : List Nat) (n j : Nat) : (wordsTo l n j).length = l.length := by simp [wordsTo]
theorem wordsTo_start (l : List Nat) : List.replicate l.length (0, 0) = wordsTo l 1 0 := by
  apply List.ext_getElem
  · simp [wordsTo]
  · intro i h1 h2; simp [wordsTo, wordTo_start]
theorem wordsTo_next {l : List Nat} {k j i : Nat} (h : (syms l k)[j]? = some i) (hk : 0 < k) : (wordsTo l k j).set i (fst l k + j, k) = wordsTo l k (j + 1) := by
  apply List.ext_getElem
  · simp [wordsTo]
  · intro m h1 h2
    have hm : m < l.length := by simpa [wordsTo] using h2
    rw [List.getElem_set]
    simp only [wordsTo, List.getElem_map, List.getElem_range]
    rw [wordTo_succ h hk m hm]
    by_cases he : i = m
    · rw [if_pos he, if_pos he.symm]
    · rw [if_neg he, if_neg (fun e => he e.symm)]
theorem wordsTo_all (l : List Nat) (k : Nat) : wordsTo l k (syms l k).length = wordsTo l (k + 1) 0 := by
  apply List.ext_getElem
  · simp [wordsTo]
  · intro m h1 h2
    have hm : m < l.length := by simpa [wordsTo] using h2
    simp only [wordsTo, List.getElem_map, List.getElem_range]
    exact wordTo_all hm
def words (l : List Nat) : List (Nat × Nat) := (List.range l.length).map (wordOf l)
theorem wordsTo_end {l : List Nat} (hb : ∀ x ∈ l, x ≤ 15) : wordsTo l 16 0 = words l := by
  apply List.ext_getElem
  · simp [wordsTo, words]
  · intro m h1 h2
    have hm : m < l.length := by simpa [words] using h2
    simp only [wordsTo, words, List.getElem_map, List.getElem_range]
    exact wordTo_end hb hm
theorem Whole.setw {W : World} {g : Nat} {ws : List (Nat × Nat)} (h : Whole W g 120 (wcells ws).toArray) {i : Nat} (hi : i < ws.length) (a b : Nat) :
    Whole ((W.setCell ⟨g, i * 2, none⟩ (.int .u32 (a : Int))).setCell ⟨g, i * 2 + 1, none⟩ (.int .i64 (b : Int))) g 120 (wcells (ws.set i (a, b))).toArray := by
  have := (h.set (i * 2) (.int .u32 (a : Int))).set (i * 2 + 1) (.int .i64 (b : Int))
  rw [List.setIfInBounds_toArray, List.setIfInBounds_toArray, wcells_set ws i (a, b) hi] at this
  exact this

/-- A code that lies at block g. -/
structure CodeAt (W : World) (base g : Nat) (l : List Nat) : Prop where
  ex : ∃ (gw : Nat) (v : Nat → Value), gw < g ∧ Whole W g 118 (ccells (.slice (some ⟨gw, 0, none⟩) l.length l.length) (firstTo l 16) v).toArray ∧ Whole W gw 120 (wcells (words l)).toArray ∧ Grp W base v (syms l)
theorem CodeAt.below {W W' : World} {base g : Nat} {l : List Nat} (h : CodeAt W base g l) (hb : Below W.heap.size W W') : CodeAt W' base g l := by
  obtain ⟨gw, v, h1, h2, h3, h4⟩ := h
  exact ⟨gw, v, h1, h2.below hb h2.lt, h3.below hb h3.lt, h4.only (S := fun _ => False) (Only.of_below hb _) (fun _ _ _ h => h)⟩
end Go.Proofs.Ytngnhkghpnamoaa
