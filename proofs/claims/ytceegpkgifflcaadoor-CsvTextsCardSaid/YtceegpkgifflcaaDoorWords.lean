/- Words for memory that all walks of this seat share: a slice of small numbers that reads as a list; a block whose cells are all known. -/
import Derived.WalkKit
import Derived.Laws.Rows
namespace Go.Proofs.YtceegpkgifflcaaDoor
open Go.RowKit

theorem add_none (b off i : Nat) : (⟨b, off, none⟩ : Addr).add i = ⟨b, off + i, none⟩ := by unfold Addr.add; split <;> simp_all

/-- The slice that begins at 'a' reads as the numbers l (naturals), and lies below block B. -/
def Nums (k : IntKind) (w : World) (B : Nat) (a : Option Addr) (l : List Nat) : Prop :=
  0 < l.length → ∃ b off, a = some ⟨b, off, none⟩ ∧ b < B ∧ ∀ i, i < l.length → w.cell? ⟨b, off + i, none⟩ = some (.int k ((l.getD i 0 : Nat) : Int))

section
variable {k : IntKind} {w w' : World} {B B' : Nat} {a : Option Addr} {l : List Nat}
theorem Nums.nil_ : Nums k w B a [] := fun h => absurd h (by simp)
theorem Nums.keep (h : Nums k w B a l) (hk : ∀ p : Addr, p.block < B → w'.cell? p = w.cell? p) : Nums k w' B a l := fun hl => by
  obtain ⟨b, off, rfl, hb, hc⟩ := h hl
  exact ⟨b, off, rfl, hb, fun i hi => (hk _ hb).trans (hc i hi)⟩
theorem Nums.below (h : Nums k w B a l) (hb : Below B w w') : Nums k w' B a l := h.keep fun _ hp => hb.cell hp
theorem Nums.more (h : Nums k w B a l) (hB : B ≤ B') : Nums k w B' a l := fun hl => by
  obtain ⟨b, off, rfl, hb, hc⟩ := h hl
  exact ⟨b, off, rfl, by omega, hc⟩
end

/-- Block g is the cells cs of type t, all of them there to be written. -/
def Whole (w : World) (g : Nat) (t : TypeId) (cs : Array Value) : Prop := w.heap[g]? = some (.cells cs t (0, 0))

section
variable {w w' : World} {g B : Nat} {t : TypeId} {cs : Array Value}
theorem Whole.lt (h : Whole w g t cs) : g < w.heap.size := (Array.getElem?_eq_some_iff.1 h).1
theorem Whole.cell (h : Whole w g t cs) (i : Nat) : w.cell? ⟨g, i, none⟩ = cs[i]? := cell_of_row w g i cs t (0, 0) h
theorem Whole.frozen (h : Whole w g t cs) (i : Nat) : w.frozen? ⟨g, i, none⟩ = false := frozen_of_row w g i cs t h
theorem Whole.new (w : World) (t : TypeId) (cs : Array Value) : Whole (w.alloc (.cells cs t)) w.heap.size t cs := heap_alloc_new w _
theorem Whole.alloc (h : Whole w g t cs) (o : Obj) : Whole (w.alloc o) g t cs := (Below.heap_alloc w o g h.lt).trans h
theorem Whole.drew (h : Whole w g t cs) : Whole w.drew g t cs := h
theorem Whole.set (h : Whole w g t cs) (i : Nat) (v : Value) : Whole (w.setCell ⟨g, i, none⟩ v) g t (cs.setIfInBounds i v) := heap_setCell_same w g i cs t v h
theorem Whole.far (h : Whole w g t cs) {p : Addr} (hp : g ≠ p.block) (v : Value) : Whole (w.setCell p v) g t cs := (heap_setCell_other w p g v hp).trans h
theorem Whole.row (h : Whole w g t cs) (cs' : Array Value) : Whole (w.setRow g cs') g t cs' := setRow_heap w g cs cs' t (0, 0) h
theorem Whole.rowFar (h : Whole w g t cs) {g' : Nat} (hp : g ≠ g') (cs' : Array Value) : Whole (w.setRow g' cs') g t cs := (setRow_other w g' g cs' hp).trans h
theorem Whole.below (h : Whole w g t cs) (hb : Below B w w') (hg : g < B) : Whole w' g t cs := (hb.block g hg).trans h
end

theorem Nums.of_block {k : IntKind} {w : World} {g : Nat} {t : TypeId} {fr : Nat × Nat} {l : List Nat} (h : w.heap[g]? = some (.cells (l.map fun n : Nat => Value.int k (n : Int)).toArray t fr)) :
    Nums k w w.heap.size (some ⟨g, 0, none⟩) l := fun _ => by
  refine ⟨g, 0, rfl, (Array.getElem?_eq_some_iff.1 h).1, fun i hi => ?_⟩
  rw [cell_of_row w g _ _ t fr h]
  simp [hi]

theorem below_setRow {B g : Nat} {a w : World} (h : Below B a w) (hg : B ≤ g) (cs : Array Value) : Below B a (w.setRow g cs) :=
  h.trans ⟨rfl, rfl, rfl, by simp, fun k hk => setRow_other w g k cs (by omega)⟩

/-! Blocks that the call itself has made, behind a callee that turned nothing of what was there -/
section
variable {w w1 : World} {ca cb : Array Value} {ta tb : TypeId}
theorem one_kept (h : Below (w.alloc (.cells ca ta)).heap.size (w.alloc (.cells ca ta)) w1) : Whole w1 w.heap.size ta ca ∧ Below w.heap.size w w1 ∧ w.heap.size < w1.heap.size := by
  have hs := h.size
  simp at hs
  exact ⟨(Whole.new w ta ca).below h (by simp), ((Below.refl _ _).alloc (Nat.le_refl _) _).trans (h.mono (by simp)), by omega⟩
theorem two_kept (h : Below ((w.alloc (.cells ca ta)).alloc (.cells cb tb)).heap.size ((w.alloc (.cells ca ta)).alloc (.cells cb tb)) w1) :
    Whole w1 w.heap.size ta ca ∧ Whole w1 (w.heap.size + 1) tb cb ∧ Below w.heap.size w w1 ∧ w.heap.size + 1 < w1.heap.size := by
  have hs := h.size
  simp at hs
  exact ⟨Whole.below (B := ((w.alloc (.cells ca ta)).alloc (.cells cb tb)).heap.size) ((Whole.new w ta ca).alloc _) h (by simp; omega), Whole.below (heap_alloc2_new w _ _) h (by simp),
    (((Below.refl _ _).alloc (Nat.le_refl _) _).alloc (by simp) _).trans (h.mono (by simp; omega)), by omega⟩
end

theorem ret_int {k : IntKind} {a b : Int} (h : a = b) : Ending.returned (.int k a) = .returned (.int k b) := by rw [h]
theorem ret_bool {a b : Bool} (h : a = b) : Ending.returned (.bool a) = .returned (.bool b) := by rw [h]
theorem ret_ints {k k' : IntKind} {a b c d : Int} (h : a = c) (h' : b = d) : Ending.returned (.tuple #[.int k a, .int k' b]) = .returned (.tuple #[.int k c, .int k' d]) := by rw [h, h']
end Go.Proofs.YtceegpkgifflcaaDoor
