/- Par3 -/
import Derived.Test.YtngnhkghpnamoaaGc07
import Derived.Test.YtngnhkghpnamoaaGc22
import Derived.Test.YtngnhkghpnamoaaDefSym
namespace Go.Proofs.Ytngnhkghpnamoaa
open Go.RowKit Go.Shelf Huff Bit
set_option linter.unusedVariables false
set_option maxRecDepth 100000

/-- What the writer turns: cells of its own two types. -/
theorem Wr.touched {w : World} {g N n k : Nat} {v : Value} (h : Wr w g v N n) (hk : touch g v k) : ∃ cs e fz, w.heap[k]? = some (Obj.cells cs e fz) ∧ (e = 73 ∨ e = 5) := by
  rcases hk with rfl | hk
  · exact ⟨_, _, _, h.1, .inl rfl⟩
  · rcases h.2.1.2 with ⟨rfl, _⟩ | ⟨g', cap, cur, rfl, hb, hg, _⟩
    · cases hk
    · injection hk with hk
      subst hk
      exact ⟨_, _, _, hg, .inr rfl⟩
/-- What a call on the writer leaves alone. -/
structure PutK (n₀ : Nat) (W W' : World) : Prop where
  below : Below n₀ W W'
  same : ∀ (k : Nat) (cs : Array Value) (e : TypeId) (fz : Nat × Nat), W.heap[k]? = some (Obj.cells cs e fz) → e ≠ 73 → e ≠ 5 → W'.heap[k]? = W.heap[k]?
  others : ∀ (k : Nat) (o : Obj), W.heap[k]? = some o → o.isCells = false → W'.heap[k]? = some o
theorem PutK.refl (n₀ : Nat) (W : World) : PutK n₀ W W := ⟨Below.refl _ _, fun _ _ _ _ _ _ _ => rfl, fun _ _ h _ => h⟩
theorem PutK.trans {n₀ : Nat} {A B C : World} (h : PutK n₀ A B) (h' : PutK n₀ B C) : PutK n₀ A C :=
  ⟨h.below.trans h'.below, fun k cs e fz hk h1 h2 => (h'.same k cs e fz ((h.same k cs e fz hk h1 h2).trans hk) h1 h2).trans (h.same k cs e fz hk h1 h2), fun k o hk ho => h'.others k o (h.others k o hk ho) ho⟩
theorem PutK.below' {n₀ : Nat} {A B : World} (h : Below A.heap.size A B) (hn : n₀ ≤ A.heap.size) : PutK n₀ A B :=
  ⟨h.mono hn, fun k cs e fz hk _ _ => h.block k (Array.getElem?_eq_some_iff.1 hk).1, fun k o hk _ => (h.block k (Array.getElem?_eq_some_iff.1 hk).1).trans hk⟩
theorem PutK.only {n₀ g N n : Nat} {v : Value} {W W' : World} (h : Wr W g v N n) (hg : n₀ ≤ g) (hv : ∀ k, v.ownBlock = some k → n₀ ≤ k) (ho : Only (touch g v) W W') : PutK n₀ W W' := by
  have hno : ∀ k cs e fz, W.heap[k]? = some (Obj.cells cs e fz) → e ≠ 73 → e ≠ 5 → ¬ touch g v k := by
    intro k cs e fz hk h1 h2 ht
    obtain ⟨cs', e', fz', hk', he⟩ := h.touched ht
    rw [hk] at hk'
    injection hk' with hk'
    injection hk' with q1 q2
    subst q2
    rcases he with he | he
    · exact h1 he
    · exact h2 he
  refine ⟨⟨ho.os, ho.tape, ho.output, ho.size, fun k hk => ?_⟩, fun k cs e fz hk h1 h2 => ho.block k (Array.getElem?_eq_some_iff.1 hk).1 (hno k cs e fz hk h1 h2), fun k o hk hc => ?_⟩
  · have hs : g < W.heap.size := h.1.lt
    refine ho.block k (by omega) ?_
    rintro (rfl | ht)
    · omega
    · have := hv _ ht; omega
  · refine (ho.block k (Array.getElem?_eq_some_iff.1 hk).1 ?_).trans hk
    intro ht
    obtain ⟨cs', e', fz', hk', _⟩ := h.touched ht
    rw [hk] at hk'
    injection hk' with hk'
    subst hk'
    cases hc
theorem WordsAt.putK {n₀ g : Nat} {w w' : World} {l : List Nat} (h : WordsAt w g l) (hk : PutK n₀ w w') : WordsAt w' g l :=
  h.kept fun k _ e cs hw he => hk.same k cs e _ hw (by rcases he with rfl | rfl <;> decide) (by rcases he with rfl | rfl <;> decide)


def addB (a : Nat × Nat) (V m : Nat) : Nat × Nat := (a.1 + V % 2 ^ m * 2 ^ a.2, a.2 + m)
def addT (a : Nat × Nat) (V m : Nat) : Nat × Nat := (a.1 + turned V m m * 2 ^ a.2, a.2 + m)
def symE (n : Nat) : Nat × Nat × Nat := symR lenB lenX 257 n (lastLe lenB n 29)
def farE (n : Nat) : Nat × Nat × Nat := symR farB farX 0 n (lastLe farB n 30)
def addW1 (a : Nat × Nat) (i : Nat) : Nat × Nat := addT a (fixW i).1 (fixW i).2
/-- What is put of a match, or of a byte. -/
def emit (a : Nat × Nat) (x : Nat × Nat) : Nat × Nat := if x.1 = 0 then addW1 a x.2 else
  addB (addT (addB (addW1 a (symE x.1).1) (symE x.1).2.1 (symE x.1).2.2) (farE x.2).1 5) (farE x.2).2.1 (farE x.2).2.2
theorem symE_in {n : Nat} (h : n ≤ 258) : (symE n).1 < 288 ∧ (symE n).2.1 ≤ 258 ∧ (symE n).2.2 ≤ 5 := by
  unfold symE
  rcases hl : lastLe lenB n 29 with _ | j
  · exact ⟨by show 0 < 288; omega, Nat.zero_le _, Nat.zero_le _⟩
  · have := (lastLe_lt hl).1
    exact ⟨by show 257 + j < 288; omega, by show n - lenB j ≤ _; omega, lenX_le j⟩
theorem farE_in {n : Nat} (h : n ≤ 32768) : (farE n).1 < 30 ∧ (farE n).2.1 ≤ 32768 ∧ (farE n).2.2 ≤ 13 := by
  unfold farE
  rcases hl : lastLe farB n 30 with _ | j
  · exact ⟨by show 0 < 30; omega, Nat.zero_le _, Nat.zero_le _⟩
  · have := (lastLe_lt hl).1
    exact ⟨by show 0 + j < 30; omega, by show n - farB j ≤ _; omega, farX_le this⟩
theorem addW1_n (a : Nat × Nat) {i : Nat} (h : i < 288) : (addW1 a i).2 ≤ a.2 + 9 := by
  have := (fixW_bounds i h).2.1
  show a.2 + (fixW i).2 ≤ _
  omega

/-- The writer, the code, their boxes, while what is read is kept. -/
structure PutI (n₀ g gc q0 q6 : Nat) (a : Nat × Nat) (W : World) : Prop where
  wr : ∃ v, Wr W g v a.1 a.2 ∧ (∀ k, v.ownBlock = some k → n₀ ≤ k)
  code : WordsAt W gc fixL
  b0 : Boxed W q0 43 (.pointer (some ⟨g, 0, none⟩))
  b6 : Boxed W q6 77 (.pointer (some ⟨gc, 0, none⟩))
def PutN (n₀ g gc q0 q6 : Nat) (W : World) (a : Nat × Nat) (W' : World) : Prop := PutI n₀ g gc q0 q6 a W' ∧ PutK n₀ W W'
section
variable {n₀ g gc q0 q6 : Nat} {a : Nat × Nat} {W W' : World}
theorem boxed_putK {B : Nat} {t : TypeId} {u : Value} (h : Boxed W B t u) (hk : PutK n₀ W W') (h1 : t ≠ 73) (h2 : t ≠ 5) : Boxed W' B t u := (hk.same B _ _ _ h h1 h2).trans h
theorem whole_putK {B : Nat} {t : TypeId} {cs : Array Value} (h : Whole W B t cs) (hk : PutK n₀ W W') (h1 : t ≠ 73) (h2 : t ≠ 5) : Whole W' B t cs := (hk.same B _ _ _ h h1 h2).trans h
theorem PutI.grew (h : PutI n₀ g gc q0 q6 a W) (hg : n₀ ≤ g) {v : Value} (hWr : Wr W g v a.1 a.2) (hv : ∀ k, v.ownBlock = some k → n₀ ≤ k) {M m : Nat} (hG : Grew W g v M m W') : PutN n₀ g gc q0 q6 W (M, m) W' := by
  obtain ⟨v', hw, ho, hat⟩ := hG
  have hk := PutK.only hWr hg hv ho
  have hgs : g < W.heap.size := hWr.1.lt
  refine ⟨⟨⟨v', hw, ?_⟩, h.code.putK hk, boxed_putK h.b0 hk (by decide) (by decide), boxed_putK h.b6 hk (by decide) (by decide)⟩, hk⟩
  intro k hk2
  rcases hat with e | ⟨k', e, hk'⟩
  · exact hv k (by rw [← e]; exact hk2)
  · rw [e] at hk2; injection hk2 with hk2; omega
theorem put_word (h : PutI n₀ g gc q0 q6 a W) (hg : n₀ ≤ g) (i : Nat) (hi : i < 288) (hn : a.2 < 100000) :
    Calls Try.prog 43 #[.pointer (some ⟨gc, 0, none⟩), .pointer (some ⟨g, 0, none⟩), .int .i64 (i : Int)] W fun e W' => e = .returned (.int .i64 0) ∧ PutN n₀ g gc q0 q6 W (addW1 a i) W' := by
  obtain ⟨v, hWr, hv⟩ := h.wr
  obtain ⟨h1, h2, h3⟩ := fixW_bounds i hi
  refine (write_words gc g i (fixW i).1 (fixW i).2 a.1 a.2 v fixL W h.code hWr hn (by rw [fixL_length]; exact hi) (fixW_of hi) h1 (by omega) (by omega)).mono ?_
  rintro e W' ⟨rfl, hG⟩
  exact ⟨rfl, h.grew hg hWr hv hG⟩
theorem put_bits (h : PutI n₀ g gc q0 q6 a W) (hg : n₀ ≤ g) (V m : Nat) (hV : V < 4294967296) (hm : m ≤ 32) (hn : a.2 < 100000) :
    Calls Try.prog 41 #[.pointer (some ⟨g, 0, none⟩), .int .u32 (V : Int), .int .i64 (m : Int)] W fun e W' => e = .returned (.int .i64 0) ∧ PutN n₀ g gc q0 q6 W (addB a V m) W' := by
  obtain ⟨v, hWr, hv⟩ := h.wr
  refine (wbits_ok g a.1 a.2 V m v W hWr (by omega) hV hm).mono ?_
  rintro e W' ⟨rfl, hG⟩
  exact ⟨rfl, h.grew hg hWr hv hG⟩
theorem put_turned (h : PutI n₀ g gc q0 q6 a W) (hg : n₀ ≤ g) (V m : Nat) (hV : V < 4294967296) (hm : m ≤ 32) (hn : a.2 < 100000) :
    Calls Try.prog 46 #[.pointer (some ⟨g, 0, none⟩), .int .u32 (V : Int), .int .i64 (m : Int)] W fun e W' => e = .returned (.int .i64 0) ∧ PutN n₀ g gc q0 q6 W (addT a V m) W' := by
  obtain ⟨v, hWr, hv⟩ := h.wr
  refine (wturned_ok g a.1 a.2 V m v W hWr (by omega) hV hm).mono ?_
  rintro e W' ⟨rfl, hG⟩
  exact ⟨rfl, h.grew hg hWr hv hG⟩
end
end Go.Proofs.Ytngnhkghpnamoaa
