/- Rows of ints (not negative) of the call's own. -/
import Derived.Test.YtmheafadahdbfaaU8
namespace Go.Proofs.Ytmheafadahdbfaa
open Go.RowKit
set_option linter.unusedVariables false
set_option maxRecDepth 100000

def i64s (l : List Nat) : List Value := l.map fun n : Nat => Value.int .i64 (n : Int)
theorem i64info : (Try.prog.info? 3).map (fun i => (i.zero, i.size, i.bytes)) = some (some (.int .i64 0), 1, 8) := by kernel_rfl
theorem i64s_length (l : List Nat) : (i64s l).length = l.length := by simp [i64s]
theorem i64s_append (l m : List Nat) : i64s (l ++ m) = i64s l ++ i64s m := by simp [i64s]
theorem i64s_one (l : List Nat) : ∀ u ∈ i64s l, u.oneCell' = true := by
  intro u hu
  simp only [i64s, List.mem_map] at hu
  obtain ⟨n, _, rfl⟩ := hu
  rfl

/-- v is a row of bytes of the call's own (its blocks from 'base' on), and reads as l. -/
def Own64 (w : World) (base : Nat) (v : Value) (l : List Nat) : Prop := w.ownsRow base 3 1 v l.length (i64s l)

theorem Own64.nil_ (w : World) (base : Nat) : Own64 w base (.slice none 0 0) [] := ⟨rfl, .inl ⟨rfl, rfl⟩⟩
theorem Own64.only {S : Nat → Prop} {w w' : World} {base : Nat} {v : Value} {l : List Nat} (h : Own64 w base v l) (ho : Only S w w') (hn : ∀ b, v.ownBlock = some b → ¬ S b) : Own64 w' base v l := own_only h ho hn
theorem Own64.below {w w' : World} {base : Nat} {v : Value} {l : List Nat} (h : Own64 w base v l) (hb : Below w.heap.size w w') : Own64 w' base v l :=
  h.only (Only.of_below hb (fun _ => False)) (fun _ _ h => h)
theorem Own64.alloc {w : World} {base : Nat} {v : Value} {l : List Nat} (h : Own64 w base v l) (o : Obj) : Own64 (w.alloc o) base v l := World.ownsRow.alloc h o
theorem Own64.drew {w : World} {base : Nat} {v : Value} {l : List Nat} (h : Own64 w base v l) : Own64 w.drew base v l := h
theorem Own64.nums {w : World} {base : Nat} {v : Value} {l : List Nat} (h : Own64 w base v l) : ∃ a c, v = .slice a l.length c ∧ l.length ≤ c ∧ c ≤ maxLen ∧ (a = none → c = 0 ∧ l = []) ∧ Nums .i64 w w.heap.size a l := by
  have hnil : v.ownBlock = none → v = .slice none 0 0 ∧ l = [] := by
    intro e
    obtain ⟨hl, (⟨rfl, h0⟩ | ⟨k, cap, cur, rfl, _⟩)⟩ := h
    · exact ⟨rfl, List.eq_nil_of_length_eq_zero h0⟩
    · cases e
  obtain ⟨a, c, rfl, h1, h2, hV⟩ := Vals.of_own h
  exact ⟨a, c, rfl, h1, h2, fun e => by subst e; obtain ⟨h1, h2⟩ := hnil rfl; injection h1 with _ _ h3; exact ⟨h3, h2⟩, Vals.to_nums hV⟩
theorem Own64.lt {w : World} {base : Nat} {v : Value} {l : List Nat} (h : Own64 w base v l) : ∀ k, v.ownBlock = some k → base ≤ k ∧ k < w.heap.size := fun k hk => World.ownsRow.lt h k hk

/-- What stood where after a call that appends to a row of the call's own. -/
structure Gone64 (w : World) (base : Nat) (v : Value) (l : List Nat) (v' : Value) (w' : World) : Prop where
  own : Own64 w' base v' l
  only : Only (fun k => v.ownBlock = some k) w w'
  at_ : v'.ownBlock = v.ownBlock ∨ ∃ k, v'.ownBlock = some k ∧ w.heap.size ≤ k

theorem Gone64.refl {w : World} {base : Nat} {v : Value} {l : List Nat} (h : Own64 w base v l) : Gone64 w base v l v w := ⟨h, Only.refl _ _, .inl rfl⟩
theorem Gone64.undrew {w w' : World} {base : Nat} {v v' : Value} {l : List Nat} (h : Gone64 w.drew base v l v' w') : Gone64 w base v l v' w' := ⟨h.own, ⟨h.only.os, h.only.tape, h.only.output, h.only.size, h.only.block⟩, h.at_⟩
theorem Gone64.trans {w w1 w2 : World} {base : Nat} {v v1 v2 : Value} {l m : List Nat} (h : Gone64 w base v l v1 w1) (k : Gone64 w1 base v1 m v2 w2) : Gone64 w base v m v2 w2 := by
  refine ⟨k.own, h.only.trans k.only ?_, ?_⟩
  · intro b hb e
    rcases h.at_ with h1 | ⟨j, h1, h2⟩
    · rw [← h1]; exact e
    · rw [h1] at e; injection e with e; omega
  · rcases k.at_ with e | ⟨j, e, hj⟩
    · rcases h.at_ with h1 | ⟨j, h1, h2⟩
      · exact .inl (by rw [e, h1])
      · exact .inr ⟨j, by rw [e, h1], h2⟩
    · exact .inr ⟨j, e, Nat.le_trans h.only.size hj⟩
theorem Gone64.below {w w' : World} {base : Nat} {v v' : Value} {l m : List Nat} (h : Gone64 w base v l v' w') (hown : Own64 w base v m) (hB : base ≤ w.heap.size) : Below base w w' :=
  h.only.below (fun b hb e => by have := (hown.lt b e).1; omega) hB

theorem Gone64.grown {w w' : World} {base : Nat} {v v' : Value} {l : List Nat} {n : Nat} {xs : List Value} (h : w'.ownsRow base 3 1 v' n xs) (hn : n = l.length) (hx : xs = i64s l) (hg : w.grownBy w' v.ownBlock)
    (hat : v'.ownBlock = v.ownBlock ∨ ∃ g, v'.ownBlock = some g ∧ w.heap.size ≤ g) : Gone64 w base v l v' w' := by
  subst hn hx
  exact ⟨h, Only.of_grown hg (fun b e => e), hat⟩

end Go.Proofs.Ytmheafadahdbfaa
