/- Rows of bytes of the call's own. -/
import Derived.Test.YtceegpkgifflcaaDoorRows
import Derived.Test.YtceegpkgifflcaaDoorOnly
import Derived.WalkKit
import Derived.Handy
import Derived.Lib.Hide
import Derived.Deep.RegionHeld3
import Derived.Deep.DrawnRows
import Derived.WalkLawsBesides
import Derived.WalkSpells
import Derived.RegionTactic
import Derived.BigRegion
import Derived.BigQuiet
import Derived.Deep.QuietTactic
import Derived.Outline
import Derived.Lib.BufferRead
namespace Go.Proofs.YtceegpkgifflcaaDoor
open Go.RowKit
set_option linter.unusedVariables false
set_option maxRecDepth 100000

def u8s (l : List Nat) : List Value := l.map fun n : Nat => Value.int .u8 (n : Int)
theorem u8info : (Tryd.prog.info? 5).map (fun i => (i.zero, i.size, i.bytes)) = some (some (.int .u8 0), 1, 1) := by kernel_rfl
theorem u8s_length (l : List Nat) : (u8s l).length = l.length := by simp [u8s]
theorem u8s_append (l m : List Nat) : u8s (l ++ m) = u8s l ++ u8s m := by simp [u8s]
theorem u8s_one (l : List Nat) : ∀ u ∈ u8s l, u.oneCell' = true := by
  intro u hu
  simp only [u8s, List.mem_map] at hu
  obtain ⟨n, _, rfl⟩ := hu
  rfl

/-- v is a row of bytes of the call's own (its blocks from 'base' on), and reads as l. -/
def Own8 (w : World) (base : Nat) (v : Value) (l : List Nat) : Prop := w.ownsRow base 5 1 v l.length (u8s l)

theorem Own8.nil_ (w : World) (base : Nat) : Own8 w base (.slice none 0 0) [] := ⟨rfl, .inl ⟨rfl, rfl⟩⟩
theorem Own8.only {S : Nat → Prop} {w w' : World} {base : Nat} {v : Value} {l : List Nat} (h : Own8 w base v l) (ho : Only S w w') (hn : ∀ b, v.ownBlock = some b → ¬ S b) : Own8 w' base v l := own_only h ho hn
theorem Own8.below {w w' : World} {base : Nat} {v : Value} {l : List Nat} (h : Own8 w base v l) (hb : Below w.heap.size w w') : Own8 w' base v l :=
  h.only (Only.of_below hb (fun _ => False)) (fun _ _ h => h)
theorem Own8.alloc {w : World} {base : Nat} {v : Value} {l : List Nat} (h : Own8 w base v l) (o : Obj) : Own8 (w.alloc o) base v l := World.ownsRow.alloc h o
theorem Own8.drew {w : World} {base : Nat} {v : Value} {l : List Nat} (h : Own8 w base v l) : Own8 w.drew base v l := h
theorem Own8.nums {w : World} {base : Nat} {v : Value} {l : List Nat} (h : Own8 w base v l) : ∃ a c, v = .slice a l.length c ∧ l.length ≤ c ∧ c ≤ maxLen ∧ (a = none → c = 0 ∧ l = []) ∧ Nums .u8 w w.heap.size a l := by
  have hnil : v.ownBlock = none → v = .slice none 0 0 ∧ l = [] := by
    intro e
    obtain ⟨hl, (⟨rfl, h0⟩ | ⟨k, cap, cur, rfl, _⟩)⟩ := h
    · exact ⟨rfl, List.eq_nil_of_length_eq_zero h0⟩
    · cases e
  obtain ⟨a, c, rfl, h1, h2, hV⟩ := Vals.of_own h
  exact ⟨a, c, rfl, h1, h2, fun e => by subst e; obtain ⟨h1, h2⟩ := hnil rfl; injection h1 with _ _ h3; exact ⟨h3, h2⟩, Vals.to_nums hV⟩
theorem Own8.lt {w : World} {base : Nat} {v : Value} {l : List Nat} (h : Own8 w base v l) : ∀ k, v.ownBlock = some k → base ≤ k ∧ k < w.heap.size := fun k hk => World.ownsRow.lt h k hk

/-- What stood where after a call that appends to a row of the call's own. -/
structure Gone (w : World) (base : Nat) (v : Value) (l : List Nat) (v' : Value) (w' : World) : Prop where
  own : Own8 w' base v' l
  only : Only (fun k => v.ownBlock = some k) w w'
  at_ : v'.ownBlock = v.ownBlock ∨ ∃ k, v'.ownBlock = some k ∧ w.heap.size ≤ k

theorem Gone.refl {w : World} {base : Nat} {v : Value} {l : List Nat} (h : Own8 w base v l) : Gone w base v l v w := ⟨h, Only.refl _ _, .inl rfl⟩
theorem Gone.undrew {w w' : World} {base : Nat} {v v' : Value} {l : List Nat} (h : Gone w.drew base v l v' w') : Gone w base v l v' w' := ⟨h.own, ⟨h.only.os, h.only.tape, h.only.output, h.only.size, h.only.block⟩, h.at_⟩
theorem Gone.trans {w w1 w2 : World} {base : Nat} {v v1 v2 : Value} {l m : List Nat} (h : Gone w base v l v1 w1) (k : Gone w1 base v1 m v2 w2) : Gone w base v m v2 w2 := by
  refine ⟨k.own, h.only.trans k.only ?_, ?_⟩
  · intro b hb e
    rcases h.at_ with h1 | ⟨j, h1, h2⟩
    · rw [← h1]; exact e
    · rw [h1] at e; injection e with e; omega
  · rcases k.at_ with e | ⟨j, e, hj⟩
    · rcases h.at_ with h1 | ⟨j, h1, h2⟩
      · exact .inl (by rw [e, h1])
      · exact .inr ⟨j, by rw [e, h1], h2⟩
    · exact .inr ⟨j, e, Nat.le_trans h.only.size hj⟩
theorem Gone.below {w w' : World} {base : Nat} {v v' : Value} {l m : List Nat} (h : Gone w base v l v' w') (hown : Own8 w base v m) (hB : base ≤ w.heap.size) : Below base w w' :=
  h.only.below (fun b hb e => by have := (hown.lt b e).1; omega) hB

theorem Gone.grown {w w' : World} {base : Nat} {v v' : Value} {l : List Nat} {n : Nat} {xs : List Value} (h : w'.ownsRow base 5 1 v' n xs) (hn : n = l.length) (hx : xs = u8s l) (hg : w.grownBy w' v.ownBlock)
    (hat : v'.ownBlock = v.ownBlock ∨ ∃ g, v'.ownBlock = some g ∧ w.heap.size ≤ g) : Gone w base v l v' w' := by
  subst hn hx
  exact ⟨h, Only.of_grown hg (fun b e => e), hat⟩

end Go.Proofs.YtceegpkgifflcaaDoor
