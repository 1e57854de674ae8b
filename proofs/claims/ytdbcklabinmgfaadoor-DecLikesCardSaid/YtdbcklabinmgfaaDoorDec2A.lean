/- Layer 16: read: what stands while a number is read; what it leaves. -/
import Derived.Test.YtdbcklabinmgfaaDoorDec1
namespace Go.Proofs.YtdbcklabinmgfaaDoor
open Go.RowKit
set_option linter.unusedVariables false
set_option maxRecDepth 100000

theorem firstAt_one (c b : Nat) : (firstAt [c] b).isSome = decide (b = c) := by
  unfold firstAt
  by_cases h : c = b
  · rw [if_pos h, decide_eq_true h.symm]; rfl
  · rw [if_neg h, decide_eq_false (fun e => h e.symm)]; rfl
theorem firstAt_two (c d b : Nat) : (firstAt [c, d] b).isSome = decide (b = c ∨ b = d) := by
  rw [firstAt_cons]
  by_cases h : c = b
  · rw [if_pos h, decide_eq_true (.inl h.symm)]; rfl
  · rw [if_neg h]
    have := firstAt_one d b
    cases hf : firstAt [d] b with
    | none => rw [hf] at this; rw [decide_eq_false (fun e => by rcases e with e | e; exact h e.symm; rw [decide_eq_true e] at this; cases this)]; rfl
    | some n => rw [hf] at this; rw [decide_eq_true (.inr (of_decide_eq_true this.symm))]; rfl
theorem hitC_one {c : Nat} (hc : c ≠ 0) (l : List Nat) (i : Nat) : hitC [c] l i = decide (l.getD i 0 = c) := by
  unfold hitC
  rw [firstAt_one]
  by_cases h : l.getD i 0 = c
  · rw [decide_eq_true h, decide_eq_true (lt_of_getD (by rw [h]; exact hc))]; rfl
  · rw [decide_eq_false h, Bool.and_false]
theorem hitC_two {c d : Nat} (hc : c ≠ 0) (hd : d ≠ 0) (l : List Nat) (i : Nat) : hitC [c, d] l i = decide (l.getD i 0 = c ∨ l.getD i 0 = d) := by
  unfold hitC
  rw [firstAt_two]
  by_cases h : l.getD i 0 = c ∨ l.getD i 0 = d
  · rw [decide_eq_true h, decide_eq_true (lt_of_getD (by rcases h with h | h; rw [h]; exact hc; rw [h]; exact hd))]; rfl
  · rw [decide_eq_false h, Bool.and_false]
/-- What stands while a number is read. -/
structure RX (w W : World) (gX gA gS : Nat) (s : ByteArray) (i : Nat) (neg : Bool) (wh pt : ByteArray) (ex : Int) : Prop where
  rs : RS W gA gS s i
  x : Whole W gX 44 #[.bool neg, .string wh, .string pt, .int .i64 ex]
  b : Below w.heap.size w W
  ax : gX ≠ gA
  as_ : gA ≠ gS
  xs : gX ≠ gS
  lo : w.heap.size ≤ gA
  lx : w.heap.size ≤ gX
section
variable {w W W' : World} {gX gA gS i i' : Nat} {s wh pt : ByteArray} {neg : Bool} {ex : Int}
theorem RX.only (h : RX w W gX gA gS s i neg wh pt ex) (hr : RS W' gA gS s i') (ho : Only (fun b => b = gA) W W') : RX w W' gX gA gS s i' neg wh pt ex :=
  ⟨hr, h.x.only ho (fun e => h.ax e), h.b.trans (ho.below (fun b e1 e2 => by have := h.lo; omega) (h.b.size)), h.ax, h.as_, h.xs, h.lo, h.lx⟩
theorem RX.one {b : Bool} (h : RX w W gX gA gS s i neg wh pt ex) (hp : OneP gA i b W W') : RX w W' gX gA gS s (if b = true then i + 1 else i) neg wh pt ex :=
  h.only (OneP.rs h.rs h.as_ hp).1 (OneP.rs h.rs h.as_ hp).2
theorem RX.far (h : RX w W gX gA gS s i neg wh pt ex) (k : Nat) (v : Value) : RS (W.setCell ⟨gX, k, none⟩ v) gA gS s i ∧ Below w.heap.size w (W.setCell ⟨gX, k, none⟩ v) :=
  ⟨⟨h.rs.a.far (p := ⟨gX, k, none⟩) (fun e => h.ax e.symm) v, h.rs.s.far (p := ⟨gX, k, none⟩) (fun e => h.xs e.symm) v⟩, h.b.setCell (p := ⟨gX, k, none⟩) h.lx v⟩
theorem RX.set0 (h : RX w W gX gA gS s i neg wh pt ex) (b : Bool) : RX w (W.setCell ⟨gX, 0, none⟩ (.bool b)) gX gA gS s i b wh pt ex := ⟨(h.far 0 _).1, h.x.set 0 _, (h.far 0 _).2, h.ax, h.as_, h.xs, h.lo, h.lx⟩
theorem RX.set1 (h : RX w W gX gA gS s i neg wh pt ex) (t : ByteArray) : RX w (W.setCell ⟨gX, 1, none⟩ (.string t)) gX gA gS s i neg t pt ex := ⟨(h.far 1 _).1, h.x.set 1 _, (h.far 1 _).2, h.ax, h.as_, h.xs, h.lo, h.lx⟩
theorem RX.set2 (h : RX w W gX gA gS s i neg wh pt ex) (t : ByteArray) : RX w (W.setCell ⟨gX, 2, none⟩ (.string t)) gX gA gS s i neg wh t ex := ⟨(h.far 2 _).1, h.x.set 2 _, (h.far 2 _).2, h.ax, h.as_, h.xs, h.lo, h.lx⟩
theorem RX.set3 (h : RX w W gX gA gS s i neg wh pt ex) (n : Int) : RX w (W.setCell ⟨gX, 3, none⟩ (.int .i64 n)) gX gA gS s i neg wh pt n := ⟨(h.far 3 _).1, h.x.set 3 _, (h.far 3 _).2, h.ax, h.as_, h.xs, h.lo, h.lx⟩
theorem RX.setA (h : RX w W gX gA gS s i neg wh pt ex) (k : Nat) : RX w (W.setCell ⟨gA, 0, none⟩ (.int .i64 (k : Int))) gX gA gS s k neg wh pt ex :=
  h.only (RS.set h.rs h.as_ k).1 (RS.set h.rs h.as_ k).2
end

theorem one_c (c : Nat) (hc : c ≠ 0) (st s : ByteArray) (hst : bs st = [c]) (i gA gS : Nat) (W : World) (hi : i ≤ s.size) (hs : s.size ≤ 1000000) (h : RS W gA gS s i) :
    Calls Tryd.prog 42 #[.string st, .pointer (some ⟨gA, 0, none⟩), .pointer (some ⟨gS, 0, none⟩)] W fun e w' => e = .returned (.bool (decide ((bs s).getD i 0 = c))) ∧ OneP gA i (decide ((bs s).getD i 0 = c)) W w' := by
  have := one_any st s i gA gS W hi hs h
  rw [hst, hitC_one hc] at this
  exact this
theorem one_cd (c d : Nat) (hc : c ≠ 0) (hd : d ≠ 0) (st s : ByteArray) (hst : bs st = [c, d]) (i gA gS : Nat) (W : World) (hi : i ≤ s.size) (hs : s.size ≤ 1000000) (h : RS W gA gS s i) :
    Calls Tryd.prog 42 #[.string st, .pointer (some ⟨gA, 0, none⟩), .pointer (some ⟨gS, 0, none⟩)] W fun e w' => e = .returned (.bool (decide ((bs s).getD i 0 = c ∨ (bs s).getD i 0 = d))) ∧ OneP gA i (decide ((bs s).getD i 0 = c ∨ (bs s).getD i 0 = d)) W w' := by
  have := one_any st s i gA gS W hi hs h
  rw [hst, hitC_two hc hd] at this
  exact this
theorem place0_if (l : List Nat) : (if decide (l.getD 0 0 = 45) = true then 0 + 1 else 0) = place0 l := by unfold place0; by_cases h : l.getD 0 0 = 45 <;> simp [h]
theorem getD_lt_len {l : List Nat} {i c : Nat} (h : l.getD i 0 = c) (hc : c ≠ 0) : i < l.length := lt_of_getD (by rw [h]; exact hc)
theorem placeK_if (l : List Nat) (p : Nat) (hp : p = place2 l) : (if decide (l.getD (p + 1) 0 = 43 ∨ l.getD (p + 1) 0 = 45) = true then p + 1 + 1 else p + 1) = placeK l := by
  subst hp
  unfold placeK
  by_cases h : l.getD (place2 l + 1) 0 = 43 ∨ l.getD (place2 l + 1) 0 = 45
  · rw [if_pos (decide_eq_true h), if_pos h]
  · rw [if_neg (by rw [decide_eq_false h]; decide), if_neg h]
theorem seg_empty (l : List Nat) {i j : Nat} (h : j ≤ i) : seg l i j = [] := by unfold seg; rw [Nat.sub_eq_zero_of_le h, List.take_zero]
theorem seg_ne {l : List Nat} {i j : Nat} (h : i < j) (hj : j ≤ l.length) : seg l i j ≠ [] := fun e => by
  have : (seg l i j).length = j - i := by unfold seg; rw [List.length_take, List.length_drop]; omega
  rw [e] at this
  simp at this
  omega
theorem strOf_ne {m : List Nat} (h : m ≠ []) : strOf m ≠ ⟨#[]⟩ := fun e => by
  have h1 := strOf_size m
  rw [e] at h1
  exact h (List.eq_nil_of_length_eq_zero h1.symm)
theorem str_beq {t : ByteArray} (h : t ≠ ⟨#[]⟩) : (t.toList == (⟨#[]⟩ : ByteArray).toList) = false := by
  rw [beq_eq_false_iff_ne, ByteArray.toList_eq, ByteArray.toList_eq]
  intro e
  apply h
  apply ByteArray.ext
  apply Array.toList_inj.1
  exact e
theorem str_nil {t : ByteArray} (h : t ≠ ⟨#[]⟩) : (t.toList == []) = false := by
  have := str_beq h
  rw [ByteArray.toList_eq (⟨#[]⟩ : ByteArray)] at this
  exact this
theorem str_isEmpty {t : ByteArray} (h : t ≠ ⟨#[]⟩) : t.toList.isEmpty = false := by
  have := str_nil h
  cases hh : t.toList with
  | nil => rw [hh] at this; exact absurd this (by decide)
  | cons a b => rfl
def litV (neg : Bool) (wh pt : ByteArray) (ex : Int) : Value := .agg #[.bool neg, .string wh, .string pt, .int .i64 ex]
/-- What read leaves. -/
def ReadP (l : List Nat) (w : World) (e : Ending) (w' : World) : Prop := Below w.heap.size w w' ∧
  ((dEnd l (place0 l) = place0 l ∧ e = .returned (.tuple #[litV false ⟨#[]⟩ ⟨#[]⟩ 0, .int .i64 0, .bool false])) ∨
   (dEnd l (place0 l) ≠ place0 l ∧ e = .returned (.tuple #[litV (decide (l.getD 0 0 = 45)) (strOf (wholeD l)) (strOf (partD l)) (sgn (negE l) (capC 0 (powD l))), .int .i64 (placeN l : Int), .bool true])))
theorem p1_whole {l : List Nat} (h : l.getD (place0 l) 0 = 48) : place1 l = place0 l + 1 := by unfold place1; rw [if_pos h]
theorem p1_digits {l : List Nat} (h : l.getD (place0 l) 0 ≠ 48) : place1 l = dEnd l (place0 l) := by unfold place1; rw [if_neg h]
theorem p2_part {l : List Nat} (h : l.getD (place1 l) 0 = 46) (h2 : place1 l + 1 < dEnd l (place1 l + 1)) : place2 l = dEnd l (place1 l + 1) := by unfold place2; rw [if_pos ⟨h, h2⟩]
theorem p2_none {l : List Nat} (h : ¬ (l.getD (place1 l) 0 = 46 ∧ place1 l + 1 < dEnd l (place1 l + 1))) : place2 l = place1 l := by unfold place2; rw [if_neg h]
theorem pn_none {l : List Nat} (h : hasE l = false) : placeN l = place2 l ∧ powD l = [] := by
  unfold placeN powD
  rw [h]
  exact ⟨rfl, rfl⟩
theorem pn_some {l : List Nat} (h : hasE l = true) : placeN l = dEnd l (placeK l) ∧ powD l = seg l (placeK l) (dEnd l (placeK l)) := by
  unfold placeN powD
  rw [h]
  exact ⟨rfl, rfl⟩
theorem hasE_no {l : List Nat} (h : ¬ (l.getD (place2 l) 0 = 101 ∨ l.getD (place2 l) 0 = 69)) : hasE l = false := by
  unfold hasE isE
  rw [decide_eq_false (fun e => h (.inl e)), decide_eq_false (fun e => h (.inr e))]
  rfl
theorem hasE_dry {l : List Nat} (h : dEnd l (placeK l) = placeK l) : hasE l = false := by
  unfold hasE
  rw [h, decide_eq_false (Nat.lt_irrefl _), Bool.and_false]
theorem hasE_yes {l : List Nat} (h : l.getD (place2 l) 0 = 101 ∨ l.getD (place2 l) 0 = 69) (h2 : placeK l < dEnd l (placeK l)) : hasE l = true := by
  unfold hasE isE
  rw [decide_eq_true h2, Bool.and_true, Bool.or_eq_true, decide_eq_true_eq, decide_eq_true_eq]
  exact h
theorem placeK_le {l : List Nat} {s : ByteArray} (hl : l = bs s) (h : place2 l + 1 ≤ s.size) : placeK l ≤ s.size := by
  unfold placeK
  by_cases h2 : l.getD (place2 l + 1) 0 = 43 ∨ l.getD (place2 l + 1) 0 = 45
  · rw [if_pos h2]
    have : place2 l + 1 < l.length := lt_of_getD (by rcases h2 with h | h <;> rw [h] <;> decide)
    rw [hl, bs_length] at this
    rw [← hl] at this
    omega
  · rw [if_neg h2]; exact h
theorem seg_mem {l : List Nat} {i j x : Nat} (h : x ∈ seg l i j) : x ∈ l := List.mem_of_mem_drop (List.mem_of_mem_take h)
theorem place0_le {l : List Nat} : place0 l ≤ l.length := by
  unfold place0
  by_cases h : l.getD 0 0 = 45
  · rw [if_pos h]; exact getD_lt_len h (by decide)
  · rw [if_neg h]; exact Nat.zero_le _
theorem place1_le {l : List Nat} {s : ByteArray} (hl : l = bs s) : place1 l ≤ s.size := by
  have e : l.length = s.size := by rw [hl, bs_length]
  rw [← e]
  unfold place1
  by_cases h : l.getD (place0 l) 0 = 48
  · rw [if_pos h]; exact getD_lt_len h (by decide)
  · rw [if_neg h]; exact dEnd_le place0_le
theorem place1_ge (l : List Nat) : place0 l ≤ place1 l := by
  unfold place1
  by_cases h : l.getD (place0 l) 0 = 48
  · rw [if_pos h]; omega
  · rw [if_neg h]; exact dEnd_ge _ _
theorem dEnd_none {l : List Nat} (h : place1 l = place0 l) : dEnd l (place0 l) = place0 l := by
  unfold place1 at h
  by_cases h2 : l.getD (place0 l) 0 = 48
  · rw [if_pos h2] at h; omega
  · rw [if_neg h2] at h; exact h
theorem place1_none {l : List Nat} (h : dEnd l (place0 l) = place0 l) : place1 l = place0 l := by
  unfold place1
  by_cases h2 : l.getD (place0 l) 0 = 48
  · have := dEnd_pos (l := l) (i := place0 l) (by rw [h2]; decide) (getD_lt_len h2 (by decide))
    omega
  · rw [if_neg h2]; exact h
theorem sgn_zero (b : Bool) : sgn b (capC 0 []) = 0 := by unfold sgn capC; rw [capM_nil]; cases b <;> rfl
end Go.Proofs.YtdbcklabinmgfaaDoor
