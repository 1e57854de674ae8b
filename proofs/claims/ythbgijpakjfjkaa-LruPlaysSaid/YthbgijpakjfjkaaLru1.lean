/- Layer 34: the ring in memory; remove, add, bytes, newRing. -/
import Derived.Test.YthbgijpakjfjkaaClone
import Derived.Test.YthbgijpakjfjkaaHeld
import Derived.Maps.OwnSet
import Derived.Deep.DeepCutAuto
namespace Go.Proofs.Ythbgijpakjfjkaa
open Go.RowKit
set_option linter.unusedVariables false
set_option maxRecDepth 100000

theorem cell_far {W : World} {a b : Addr} {v : Value} (h : a ≠ b) : (W.setCell a v).cell? b = W.cell? b := by
  apply World.cell?_setCell_other
  exact h
theorem cell_here {W : World} {a : Addr} {u v : Value} (h : W.cell? a = some u) : (W.setCell a v).cell? a = some v := by
  apply World.cell?_setCell_same
  exact h
theorem below_drw {B : Nat} {w w' : World} (h : Below B w w') : Below B w w'.drew := ⟨h.os, h.tape, h.output, h.size, h.block⟩
/-- q stands behind p on the way to the older ones. -/
def lnk (w : World) (p q : Nat) : Prop := w.cell? ⟨p, 3, none⟩ = some (.pointer (some ⟨q, 0, none⟩)) ∧ w.cell? ⟨q, 2, none⟩ = some (.pointer (some ⟨p, 0, none⟩))
def Ch (w : World) : List Nat → Prop
  | p :: q :: r => lnk w p q ∧ Ch w (q :: r)
  | _ => True
theorem Ch_split (w : World) : ∀ (l1 : List Nat) (p : Nat) (l2 : List Nat), Ch w (l1 ++ p :: l2) ↔ Ch w (l1 ++ [p]) ∧ Ch w (p :: l2)
  | [], p, l2 => ⟨fun h => ⟨trivial, h⟩, fun h => h.2⟩
  | [a], p, l2 => ⟨fun h => ⟨⟨h.1, trivial⟩, h.2⟩, fun h => ⟨h.1.1, h.2⟩⟩
  | a :: b :: l, p, l2 => by
    have ih := Ch_split w (b :: l) p l2
    constructor
    · intro h
      exact ⟨⟨h.1, (ih.1 h.2).1⟩, (ih.1 h.2).2⟩
    · intro h
      exact ⟨h.1.1, ih.2 ⟨h.1.2, h.2⟩⟩
theorem Ch_keep {w w' : World} : ∀ (l : List Nat), (∀ b ∈ l.dropLast, w'.cell? ⟨b, 3, none⟩ = w.cell? ⟨b, 3, none⟩) → (∀ b ∈ l.tail, w'.cell? ⟨b, 2, none⟩ = w.cell? ⟨b, 2, none⟩) → Ch w l → Ch w' l
  | [], _, _, _ => trivial
  | [_], _, _, _ => trivial
  | p :: q :: r, h3, h2, h => by
    refine ⟨⟨(h3 p (by simp)).trans h.1.1, (h2 q (by simp)).trans h.1.2⟩, Ch_keep (q :: r) (fun b hb => h3 b ?_) (fun b hb => h2 b ?_) h.2⟩
    · rw [List.dropLast_cons_of_ne_nil (by simp)]; exact List.mem_cons_of_mem _ hb
    · exact List.mem_cons_of_mem _ hb
theorem lnk_keep {w w' : World} {p q : Nat} (h3 : w'.cell? ⟨p, 3, none⟩ = w.cell? ⟨p, 3, none⟩) (h2 : w'.cell? ⟨q, 2, none⟩ = w.cell? ⟨q, 2, none⟩) (h : lnk w p q) : lnk w' p q := ⟨h3.trans h.1, h2.trans h.2⟩

/-- Two that stand side by side from now on. -/
def tie (W : World) (p q : Nat) : World := (W.setCell ⟨p, 3, none⟩ (.pointer (some ⟨q, 0, none⟩))).setCell ⟨q, 2, none⟩ (.pointer (some ⟨p, 0, none⟩))
theorem tie_lnk {W : World} {p q : Nat} {u v : Value} (hp : W.cell? ⟨p, 3, none⟩ = some u) (hq : W.cell? ⟨q, 2, none⟩ = some v) : lnk (tie W p q) p q := by
  unfold tie
  refine ⟨?_, ?_⟩
  · rw [cell_far (by simp)]
    exact cell_here hp
  · have h2 : (W.setCell ⟨p, 3, none⟩ (.pointer (some ⟨q, 0, none⟩))).cell? ⟨q, 2, none⟩ = some v := by rw [cell_far (by simp)]; exact hq
    exact cell_here h2
theorem tie_cell {W : World} {p q b i : Nat} (h3 : ¬ (b = p ∧ i = 3)) (h2 : ¬ (b = q ∧ i = 2)) : (tie W p q).cell? ⟨b, i, none⟩ = W.cell? ⟨b, i, none⟩ := by
  unfold tie
  rw [cell_far (fun e => h2 (by injection e with e1 e2; exact ⟨e1.symm, e2.symm⟩)), cell_far (fun e => h3 (by injection e with e1 e2; exact ⟨e1.symm, e2.symm⟩))]
theorem tie_only (W : World) (p q : Nat) : Only (fun b => b = p ∨ b = q) W (tie W p q) :=
  Only.setCell (S := fun b => b = p ∨ b = q) (Only.setCell (S := fun b => b = p ∨ b = q) (Only.refl _ _) (p := ⟨p, 3, none⟩) (fun _ => .inl rfl) _) (p := ⟨q, 2, none⟩) (fun _ => .inr rfl) _

/-- One is taken out. -/
theorem Ch_remove {W : World} {l1 l2 : List Nat} {p x q : Nat} (h : Ch W (l1 ++ p :: x :: q :: l2)) (hd : (l1 ++ p :: x :: q :: l2).dropLast.Nodup) (ht : (l1 ++ p :: x :: q :: l2).tail.Nodup) :
    Ch (tie W p q) (l1 ++ p :: q :: l2) := by
  obtain ⟨h1, h2⟩ := (Ch_split W l1 p _).1 h
  obtain ⟨⟨hpx, _⟩, ⟨_, hxq⟩, h3⟩ := h2
  have hd2 : (l1 ++ p :: x :: (q :: l2).dropLast).Nodup := by
    have : (l1 ++ p :: x :: q :: l2).dropLast = l1 ++ p :: x :: (q :: l2).dropLast := by
      rw [List.dropLast_append_of_ne_nil (by simp)]
      simp [List.dropLast]
    rwa [this] at hd
  have hpl1 : p ∉ l1 := by
    intro hm
    have := (List.nodup_append.1 hd2).2.2 p hm p (by simp)
    exact this rfl
  have hpl2 : p ∉ (q :: l2).dropLast := by
    intro hm
    have h9 := (List.nodup_append.1 hd2).2.1
    have := (List.nodup_cons.1 h9).1
    exact this (List.mem_cons_of_mem _ hm)
  have ht2 : ((l1 ++ [p]).tail ++ x :: q :: l2).Nodup := by
    have : (l1 ++ p :: x :: q :: l2).tail = (l1 ++ [p]).tail ++ x :: q :: l2 := by
      cases l1 <;> simp
    rwa [this] at ht
  have hql1 : q ∉ (l1 ++ [p]).tail := by
    intro hm
    have := (List.nodup_append.1 ht2).2.2 q hm q (by simp)
    exact this rfl
  have hql2 : q ∉ (q :: l2).tail := by
    have h9 := (List.nodup_append.1 ht2).2.1
    have := (List.nodup_cons.1 (List.nodup_cons.1 h9).2).1
    exact this
  refine (Ch_split _ l1 p _).2 ⟨Ch_keep _ (fun b hb => tie_cell (fun e => ?_) (fun e => by omega)) (fun b hb => tie_cell (fun e => by omega) (fun e => ?_)) h1, ?_⟩
  · rw [List.dropLast_concat] at hb
    exact hpl1 (by rw [← e.1]; exact hb)
  · exact hql1 (by rw [← e.1]; exact hb)
  · refine ⟨tie_lnk hpx hxq, Ch_keep _ (fun b hb => tie_cell (fun e => ?_) (fun e => by omega)) (fun b hb => tie_cell (fun e => by omega) (fun e => ?_)) h3⟩
    · exact hpl2 (by rw [← e.1]; exact hb)
    · exact hql2 (by rw [← e.1]; exact hb)
/-- x is laid in between m and q. -/
def lay4 (W : World) (m x q : Nat) : World := (((W.setCell ⟨x, 2, none⟩ (.pointer (some ⟨m, 0, none⟩))).setCell ⟨x, 3, none⟩ (.pointer (some ⟨q, 0, none⟩))).setCell ⟨m, 3, none⟩ (.pointer (some ⟨x, 0, none⟩))).setCell ⟨q, 2, none⟩ (.pointer (some ⟨x, 0, none⟩))
theorem lay4_cell {W : World} {m x q b i : Nat} (h1 : ¬ (b = x ∧ (i = 2 ∨ i = 3))) (h3 : ¬ (b = m ∧ i = 3)) (h2 : ¬ (b = q ∧ i = 2)) : (lay4 W m x q).cell? ⟨b, i, none⟩ = W.cell? ⟨b, i, none⟩ := by
  unfold lay4
  rw [cell_far (fun e => h2 (by injection e with e1 e2; exact ⟨e1.symm, e2.symm⟩)), cell_far (fun e => h3 (by injection e with e1 e2; exact ⟨e1.symm, e2.symm⟩)), cell_far (fun e => h1 (by injection e with e1 e2; exact ⟨e1.symm, .inr e2.symm⟩)), cell_far (fun e => h1 (by injection e with e1 e2; exact ⟨e1.symm, .inl e2.symm⟩))]
theorem lay4_only (W : World) (m x q : Nat) : Only (fun b => b = m ∨ b = x ∨ b = q) W (lay4 W m x q) :=
  Only.setCell (S := fun b => b = m ∨ b = x ∨ b = q) (Only.setCell (S := fun b => b = m ∨ b = x ∨ b = q) (Only.setCell (S := fun b => b = m ∨ b = x ∨ b = q) (Only.setCell (S := fun b => b = m ∨ b = x ∨ b = q) (Only.refl _ _) (p := ⟨x, 2, none⟩) (fun _ => .inr (.inl rfl)) _) (p := ⟨x, 3, none⟩) (fun _ => .inr (.inl rfl)) _) (p := ⟨m, 3, none⟩) (fun _ => .inl rfl) _) (p := ⟨q, 2, none⟩) (fun _ => .inr (.inr rfl)) _
theorem lay4_links {W : World} {m x q : Nat} {a b c d : Value} (hx2 : W.cell? ⟨x, 2, none⟩ = some a) (hx3 : W.cell? ⟨x, 3, none⟩ = some b) (hm3 : W.cell? ⟨m, 3, none⟩ = some c) (hq2 : W.cell? ⟨q, 2, none⟩ = some d) (hmx : m ≠ x) (hqx : q ≠ x) :
    lnk (lay4 W m x q) m x ∧ lnk (lay4 W m x q) x q := by
  have hxm : x ≠ m := fun e => hmx e.symm
  have hxq : x ≠ q := fun e => hqx e.symm
  unfold lay4
  refine ⟨⟨?_, ?_⟩, ⟨?_, ?_⟩⟩
  · rw [cell_far (by simp)]
    refine cell_here (u := c) ?_
    rw [cell_far (by simp [hxm]), cell_far (by simp)]; exact hm3
  · rw [cell_far (by simp [hqx]), cell_far (by simp), cell_far (by simp)]
    exact cell_here hx2
  · rw [cell_far (by simp), cell_far (by simp [hmx])]
    refine cell_here (u := b) ?_
    rw [cell_far (by simp)]; exact hx3
  · refine cell_here (u := d) ?_
    rw [cell_far (by simp), cell_far (by simp), cell_far (by simp [hxq])]; exact hq2
/-- One is laid in ahead of the newest. -/
theorem Ch_add {W : World} {l2 : List Nat} {m x q : Nat} {u v : Value} (h : Ch W (m :: q :: l2)) (hx3 : W.cell? ⟨x, 3, none⟩ = some u) (hx2 : W.cell? ⟨x, 2, none⟩ = some v) (hd : (m :: x :: q :: l2).dropLast.Nodup) (ht : (m :: x :: q :: l2).tail.Nodup) (hmx : m ≠ x) :
    Ch (lay4 W m x q) (m :: x :: q :: l2) := by
  obtain ⟨⟨hm3, hq2⟩, h3⟩ := h
  have hd2 : (m :: x :: (q :: l2).dropLast).Nodup := by
    have : (m :: x :: q :: l2).dropLast = m :: x :: (q :: l2).dropLast := by simp [List.dropLast]
    rwa [this] at hd
  have hml : m ∉ (q :: l2).dropLast := fun hm => (List.nodup_cons.1 hd2).1 (List.mem_cons_of_mem _ hm)
  have hxl : x ∉ (q :: l2).dropLast := (List.nodup_cons.1 (List.nodup_cons.1 hd2).2).1
  have ht2 : (x :: q :: l2).Nodup := ht
  have hqx : q ≠ x := fun e => (List.nodup_cons.1 ht2).1 (by rw [e]; simp)
  have hxt : x ∉ (q :: l2).tail := fun hm => (List.nodup_cons.1 ht2).1 (List.mem_cons_of_mem _ hm)
  have hqt : q ∉ (q :: l2).tail := (List.nodup_cons.1 (List.nodup_cons.1 ht2).2).1
  obtain ⟨k1, k2⟩ := lay4_links hx2 hx3 hm3 hq2 hmx hqx
  refine ⟨k1, k2, ?_⟩
  refine Ch_keep _ (fun b hb => lay4_cell (fun e => ?_) (fun e => ?_) (fun e => by omega)) (fun b hb => lay4_cell (fun e => ?_) (fun e => by omega) (fun e => ?_)) h3
  · exact hxl (by rw [← e.1]; exact hb)
  · exact hml (by rw [← e.1]; exact hb)
  · exact hxt (by rw [← e.1]; exact hb)
  · exact hqt (by rw [← e.1]; exact hb)

/-- A cell that is there, and may be written. -/
def Free (w : World) (b : Nat) : Prop := ∀ i, i < 4 → (w.cell? ⟨b, i, none⟩).isSome = true ∧ w.frozen? ⟨b, i, none⟩ = false
theorem Free.keep {w w' : World} {b : Nat} (h : Free w b) (hb : w'.heap[b]? = w.heap[b]?) : Free w' b := fun i hi => by
  have h1 : w'.cell? ⟨b, i, none⟩ = w.cell? ⟨b, i, none⟩ := World.cell?_of_block (w := w) hb
  have h2 : w'.frozen? ⟨b, i, none⟩ = w.frozen? ⟨b, i, none⟩ := by simp [World.frozen?, hb]
  rw [h1, h2]
  exact h i hi
theorem Free.set {w : World} {b : Nat} (h : Free w b) (a : Addr) (v : Value) : Free (w.setCell a v) b := fun i hi => by
  obtain ⟨h1, h2⟩ := h i hi
  refine ⟨?_, by rw [World.frozen?_setCell]; exact h2⟩
  obtain ⟨u, hu⟩ := Option.isSome_iff_exists.1 h1
  obtain ⟨v', hv⟩ := cell?_setCell_some (w := w) (p := a) (x := v) hu
  rw [hv]; rfl
def RemPost (w : World) (p q : Nat) (e : Ending) (w' : World) : Prop := e = .returned (.tuple #[]) ∧ Below (tie w p q).heap.size (tie w p q) w'
set_option maxHeartbeats 8000000 in
theorem remove_any (m p x q : Nat) (w : World) (h1 : lnk w p x) (h2 : lnk w x q) (hp : Free w p) (hq : Free w q) (hlp : p < w.heap.size) (hlx : x < w.heap.size) (hlq : q < w.heap.size) (hpx : p ≠ x) (hqx : q ≠ x) :
    Calls Try.prog 22 #[.agg #[.pointer (some ⟨m, 0, none⟩)], .pointer (some ⟨x, 0, none⟩)] w (RemPost w p q) := by
  obtain ⟨_, hx2⟩ := h1
  obtain ⟨hx3, hq2⟩ := h2
  obtain ⟨hp3s, hp3f⟩ := hp 3 (by omega)
  obtain ⟨hq2s, hq2f⟩ := hq 2 (by omega)
  obtain ⟨u, hp3⟩ := Option.isSome_iff_exists.1 hp3s
  have n1 : p ≠ w.heap.size := by omega
  have n2 : x ≠ w.heap.size := by omega
  have n3 : q ≠ w.heap.size := by omega
  clear hp hq hp3s hq2s
  go_enter Try.func22, Try.ntmps22
  go_wp2_with fail
  go_region
  go_end0
  exact ⟨rfl, below_drw ((Below.refl _ _).alloc (Nat.le_refl _) _)⟩

def AddPost (w : World) (m x q : Nat) (e : Ending) (w' : World) : Prop := e = .returned (.tuple #[]) ∧ Below (lay4 w m x q).heap.size (lay4 w m x q) w'
set_option maxHeartbeats 8000000 in
theorem add_any (m x q : Nat) (w : World) (h1 : lnk w m q) (hx : Free w x) (hm : Free w m) (hq : Free w q) (hlm : m < w.heap.size) (hlx : x < w.heap.size) (hlq : q < w.heap.size) (hmx : m ≠ x) (hqx : q ≠ x) :
    Calls Try.prog 23 #[.agg #[.pointer (some ⟨m, 0, none⟩)], .pointer (some ⟨x, 0, none⟩)] w (AddPost w m x q) := by
  obtain ⟨hm3, hq2⟩ := h1
  obtain ⟨hx3s, hx3f⟩ := hx 3 (by omega)
  obtain ⟨hx2s, hx2f⟩ := hx 2 (by omega)
  obtain ⟨hm3s, hm3f⟩ := hm 3 (by omega)
  obtain ⟨hq2s, hq2f⟩ := hq 2 (by omega)
  obtain ⟨u, hx3⟩ := Option.isSome_iff_exists.1 hx3s
  obtain ⟨v, hx2⟩ := Option.isSome_iff_exists.1 hx2s
  have n1 : m ≠ w.heap.size := by omega
  have n2 : x ≠ w.heap.size := by omega
  have n3 : q ≠ w.heap.size := by omega
  have n4 : x ≠ m := fun e => hmx e.symm
  have n5 : x ≠ q := fun e => hqx e.symm
  clear hx hm hq hx3s hx2s hm3s hq2s
  go_enter Try.func23, Try.ntmps23
  go_wp2_with fail
  go_region
  have e2 : ((((w.setCell ⟨x, 2, none⟩ (.pointer (some ⟨m, 0, none⟩))).setCell ⟨x, 3, none⟩ (.pointer (some ⟨q, 0, none⟩))).alloc (.cells #[.pointer (some ⟨m, 0, none⟩)] 55)).drew).cell? ⟨x, 2, none⟩ = some (.pointer (some ⟨m, 0, none⟩)) := by
    rw [World.cell?_drew, World.cell?_alloc_old _ _ _ (by simpa using n2), cell_far (by simp)]
    exact cell_here hx2
  have e3 : ((((w.setCell ⟨x, 2, none⟩ (.pointer (some ⟨m, 0, none⟩))).setCell ⟨x, 3, none⟩ (.pointer (some ⟨q, 0, none⟩))).alloc (.cells #[.pointer (some ⟨m, 0, none⟩)] 55)).drew).cell? ⟨x, 3, none⟩ = some (.pointer (some ⟨q, 0, none⟩)) := by
    rw [World.cell?_drew, World.cell?_alloc_old _ _ _ (by simpa using n2)]
    refine cell_here (u := u) ?_
    rw [cell_far (by simp)]; exact hx3
  go_wp2_with fail
  go_region
  go_end0
  exact ⟨rfl, below_drw (below_drw ((Below.refl _ _).alloc (Nat.le_refl _) _))⟩

/-- A node: a block of four cells. -/
def NodeW (w : World) (b : Nat) : Prop := ∃ cs, Whole w b 63 cs ∧ cs.size = 4
theorem NodeW.free {w : World} {b : Nat} (h : NodeW w b) : Free w b := by
  obtain ⟨cs, h1, h2⟩ := h
  intro i hi
  refine ⟨?_, h1.frozen i⟩
  rw [h1.cell i]
  simp [h2, hi]
theorem NodeW.lt {w : World} {b : Nat} (h : NodeW w b) : b < w.heap.size := by obtain ⟨cs, h1, _⟩ := h; exact h1.lt
theorem NodeW.set {w : World} {b g i : Nat} (h : NodeW w b) (v : Value) : NodeW (w.setCell ⟨g, i, none⟩ v) b := by
  obtain ⟨cs, h1, h2⟩ := h
  by_cases e : b = g
  · subst e; exact ⟨_, h1.set i v, by simpa using h2⟩
  · exact ⟨cs, h1.far (p := ⟨g, i, none⟩) e v, h2⟩
theorem NodeW.tie {w : World} {b p q : Nat} (h : NodeW w b) : NodeW (tie w p q) b := (h.set _).set _
theorem NodeW.lay4 {w : World} {b m x q : Nat} (h : NodeW w b) : NodeW (lay4 w m x q) b := (((h.set _).set _).set _).set _
theorem NodeW.block {w w' : World} {b : Nat} (h : NodeW w b) (e : w'.heap[b]? = w.heap[b]?) : NodeW w' b := by obtain ⟨cs, h1, h2⟩ := h; exact ⟨cs, e.trans h1, h2⟩
theorem NodeW.below {w w' : World} {b : Nat} (h : NodeW w b) (hb : Below w.heap.size w w') : NodeW w' b := h.block (hb.block b h.lt)
def bytesV (n : Nat) (e : Ending) (w w' : World) : Prop := e = .returned (.int .i64 (n : Int)) ∧ ∃ k, w' = w.drewN k
set_option maxHeartbeats 4000000 in
theorem bytes_any (x : Nat) (s : ByteArray) (a : Option Addr) (n c : Nat) (w : World) (h0 : w.cell? ⟨x, 0, none⟩ = some (.string s)) (h1 : w.cell? ⟨x, 1, none⟩ = some (.slice a n c)) (hs : s.size ≤ 1000000000) (hn : n ≤ 1000000000) :
    Calls Try.prog 27 #[.pointer (some ⟨x, 0, none⟩)] w fun e w' => bytesV (s.size + n) e w w' := by
  have w1 : IntKind.i64.wrap ((s.size : Int) + (n : Int)) = ((s.size + n : Nat) : Int) := by rw [IntWalk.i64_in _ ⟨by omega, by omega⟩]; omega
  go_enter Try.func27, Try.ntmps27
  go_wp2_with fail
  go_quiet (fail)
  go_wp2_with fail
  go_ret
  exact ⟨ret_int (by first | exact w1 | (rw [Int.natCast_add])), _, rfl⟩
def RingPost (w : World) (e : Ending) (w' : World) : Prop := ∃ m, e = .returned (.agg #[.pointer (some ⟨m, 0, none⟩)]) ∧ w.heap.size ≤ m ∧ Whole w' m 63 #[.string ByteArray.empty, .slice none 0 0, .pointer (some ⟨m, 0, none⟩), .pointer (some ⟨m, 0, none⟩)] ∧ Below w.heap.size w w'
set_option maxHeartbeats 4000000 in
theorem newRing_any (w : World) : Calls Try.prog 21 #[] w (RingPost w) := by
  go_enter Try.func21, Try.ntmps21
  go_wp2_with fail
  exact bodyPost_ret (v := .agg #[.pointer (some ⟨w.heap.size + 1, 0, none⟩)]) (by simp [results, Try.results21, go_sem]) rfl
    ⟨w.heap.size + 1, rfl, by omega, heap_alloc2_new w _ _, ((Below.refl _ _).alloc (Nat.le_refl _) _).alloc (by simp) _⟩
end Go.Proofs.Ythbgijpakjfjkaa
