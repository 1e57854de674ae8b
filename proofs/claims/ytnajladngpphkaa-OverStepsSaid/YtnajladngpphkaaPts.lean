/- Rows of points. -/
import Derived.Test.YtnajladngpphkaaU8
import Derived.Test.YtnajladngpphkaaHeld
import Derived.Outline
namespace Go.Proofs.Ytnajladngpphkaa
open Go.RowKit
set_option linter.unusedVariables false
set_option maxRecDepth 100000

section
variable {P : Program} {w : World}
/-- append(s, u) where one element of several cells was just laid into a block of its own. -/
theorem app_rec {ops : Array Oper} {rest : List Oper} {o : Oper} {a : Act} {Q : Exit → Act → World → Prop} (hgd : o.guard = none) (s x : Operand) (t : TypeId)
    (ho : o.op = .call { callee := .builtin .append, args := #[s, x], argTypes := #[t, t] })
    (base : Nat) (e : TypeId) (i : TypeInfo) (z : Value) (size bytes : Nat) (ht : P.underlying t = some (.slice e)) (hi : P.info? e = some i) (hz : i.zero = some z)
    (hsize : i.size = size) (hby : i.bytes = bytes) (hzs : z.cells.size = size) (hsz : 0 < size)
    (v : Value) (n : Nat) (xs : List Value) (hs : a.eval s = v) (hown : w.ownsRow base e size v n xs)
    (us : List Value) (hu : us.length = size) (c : Nat) (hx : a.eval x = .slice (some ⟨w.heap.size, 0, none⟩) 1 c) (h1 : ∀ u ∈ us, u.oneCell' = true)
    (h63 : n + 1 ≤ maxLen) (hbytes : (n + 1) * bytes ≤ 140737488355328) (hbase : base ≤ w.heap.size)
    (h : ∀ v' w', w'.ownsRow base e size v' (n + 1) (xs ++ us) → w.grownBy w' v.ownBlock → (v'.ownBlock = v.ownBlock ∨ ∃ g, v'.ownBlock = some g ∧ w.heap.size ≤ g) → wpList P ops Q rest (a.put o.dst v') w') :
    wpList P ops Q (o :: rest) a (w.alloc (.cells us.toArray e)) := by
  refine app_vals hgd s x t ho base e i z size bytes ht hi hz hsize hby hzs hsz v n xs hs (hown.alloc _) ((w.alloc (.cells us.toArray e)).heap.size) _ 1 c us hx
    (Vals.of_block (xs := us) (heap_alloc_new w _) (by omega)) h1 h63 hbytes (by simp; omega) ?_
  intro v' w' h2 h3 h5
  refine h v' w' h2 ((World.grownBy_alloc w _ _).trans h3) ?_
  rcases h5 with h5 | h5
  · exact .inl h5
  · exact .inr ⟨_, h5, by simp⟩
end

abbrev P2 := Int × Int
def pts (l : List P2) : List Value := l.flatMap fun p => [.int .i64 p.1, .int .i64 p.2]
theorem ptinfo : (Try.prog.info? 41).map (fun i => (i.zero, i.size, i.bytes)) = some (some (.agg #[.int .i64 0, .int .i64 0]), 2, 16) := by kernel_rfl
theorem pts_length (l : List P2) : (pts l).length = l.length * 2 := by
  induction l with
  | nil => rfl
  | cons p l ih => simp only [pts, List.flatMap_cons, List.length_append, List.length_cons, List.length_nil] at ih ⊢; omega
theorem pts_append (l m : List P2) : pts (l ++ m) = pts l ++ pts m := by simp [pts]
theorem pts_one (l : List P2) : ∀ u ∈ pts l, u.oneCell' = true := by
  intro u hu
  simp only [pts, List.mem_flatMap] at hu
  obtain ⟨p, _, hp⟩ := hu
  simp at hp
  rcases hp with rfl | rfl <;> rfl
theorem pts_get : ∀ (l : List P2) (i : Nat) (h : i < l.length), (pts l)[i * 2]? = some (.int .i64 l[i].1) ∧ (pts l)[i * 2 + 1]? = some (.int .i64 l[i].2)
  | [], i, h => by simp at h
  | p :: l, 0, h => by simp [pts]
  | p :: l, i + 1, h => by
    have := pts_get l i (by simpa using h)
    have e1 : pts (p :: l) = .int .i64 p.1 :: .int .i64 p.2 :: pts l := by simp [pts]
    rw [e1, show (i + 1) * 2 = i * 2 + 1 + 1 by omega, show i * 2 + 1 + 1 + 1 = (i * 2 + 1) + 1 + 1 by omega]
    simpa using this

/-- v is a row of points of the call's own, and reads as l. -/
def OwnP (w : World) (base : Nat) (v : Value) (l : List P2) : Prop := w.ownsRow base 41 2 v l.length (pts l)
theorem OwnP.nil_ (w : World) (base : Nat) : OwnP w base (.slice none 0 0) [] := ⟨rfl, .inl ⟨rfl, rfl⟩⟩
theorem OwnP.only {S : Nat → Prop} {w w' : World} {base : Nat} {v : Value} {l : List P2} (h : OwnP w base v l) (ho : Only S w w') (hn : ∀ b, v.ownBlock = some b → ¬ S b) : OwnP w' base v l := own_only h ho hn
theorem OwnP.below {w w' : World} {base : Nat} {v : Value} {l : List P2} (h : OwnP w base v l) (hb : Below w.heap.size w w') : OwnP w' base v l :=
  h.only (Only.of_below hb (fun _ => False)) (fun _ _ h => h)
theorem OwnP.alloc {w : World} {base : Nat} {v : Value} {l : List P2} (h : OwnP w base v l) (o : Obj) : OwnP (w.alloc o) base v l := World.ownsRow.alloc h o
theorem OwnP.lt {w : World} {base : Nat} {v : Value} {l : List P2} (h : OwnP w base v l) : ∀ k, v.ownBlock = some k → base ≤ k ∧ k < w.heap.size := fun k hk => World.ownsRow.lt h k hk

structure GoneP (w : World) (base : Nat) (v : Value) (l : List P2) (v' : Value) (w' : World) : Prop where
  own : OwnP w' base v' l
  only : Only (fun k => v.ownBlock = some k) w w'
  at_ : v'.ownBlock = v.ownBlock ∨ ∃ k, v'.ownBlock = some k ∧ w.heap.size ≤ k
theorem GoneP.below {w w' : World} {base : Nat} {v v' : Value} {l m : List P2} (h : GoneP w base v l v' w') (hown : OwnP w base v m) (hB : base ≤ w.heap.size) : Below base w w' :=
  h.only.below (fun b hb e => by have := (hown.lt b e).1; omega) hB
theorem GoneP.grown {w w' : World} {base : Nat} {v v' : Value} {l : List P2} {n : Nat} {xs : List Value} (h : w'.ownsRow base 41 2 v' n xs) (hn : n = l.length) (hx : xs = pts l) (hg : w.grownBy w' v.ownBlock)
    (hat : v'.ownBlock = v.ownBlock ∨ ∃ g, v'.ownBlock = some g ∧ w.heap.size ≤ g) : GoneP w base v l v' w' := by
  subst hn hx
  exact ⟨h, Only.of_grown hg (fun b e => e), hat⟩

/-- The slice that begins at a reads as the points l. -/
def PAt (w : World) (B : Nat) (a : Option Addr) (l : List P2) : Prop := Vals w B 2 a l.length (pts l)
theorem PAt.at {w : World} {B : Nat} {a : Option Addr} {l : List P2} (h : PAt w B a l) (i : Nat) (hi : i < l.length) : ∃ b off, a = some ⟨b, off, none⟩ ∧ b < B ∧ w.cell? ⟨b, off + i * 2, none⟩ = some (.int .i64 l[i].1) ∧ w.cell? ⟨b, off + i * 2 + 1, none⟩ = some (.int .i64 l[i].2) := by
  have hl := h.1
  obtain ⟨b, off, rfl, hb, hc⟩ := h.2 (by omega)
  obtain ⟨g0, g1⟩ := pts_get l i hi
  refine ⟨b, off, rfl, hb, ?_, ?_⟩
  · rw [hc (i * 2) (by omega)]; exact g0
  · rw [Nat.add_assoc, hc (i * 2 + 1) (by omega)]; exact g1
theorem PAt.below {w w' : World} {B : Nat} {a : Option Addr} {l : List P2} (h : PAt w B a l) (hb : Below B w w') : PAt w' B a l := Vals.below h hb
theorem PAt.more {w : World} {B B' : Nat} {a : Option Addr} {l : List P2} (h : PAt w B a l) (hB : B ≤ B') : PAt w B' a l := Vals.more h hB
/-- v is a slice that reads as l. -/
def RdP (w : World) (B : Nat) (v : Value) (l : List P2) : Prop := ∃ a c, v = .slice a l.length c ∧ l.length ≤ c ∧ c ≤ maxLen ∧ PAt w B a l
theorem RdP.below {w w' : World} {B : Nat} {v : Value} {l : List P2} (h : RdP w B v l) (hb : Below B w w') : RdP w' B v l := by
  obtain ⟨a, c, h1, h2, h3, h4⟩ := h
  exact ⟨a, c, h1, h2, h3, h4.below hb⟩
theorem RdP.more {w : World} {B B' : Nat} {v : Value} {l : List P2} (h : RdP w B v l) (hB : B ≤ B') : RdP w B' v l := by
  obtain ⟨a, c, h1, h2, h3, h4⟩ := h
  exact ⟨a, c, h1, h2, h3, h4.more hB⟩
theorem OwnP.rd {w : World} {base : Nat} {v : Value} {l : List P2} (h : OwnP w base v l) : RdP w w.heap.size v l := by
  obtain ⟨a, c, h1, h2, h3, h4⟩ := Vals.of_own h
  exact ⟨a, c, h1, h2, h3, h4⟩

theorem below_drawnP {B : Nat} {w w' : World} (h : Below B w w') (n : Nat) : Below B w (w'.drewN n) := ⟨h.os, h.tape, h.output, h.size, h.block⟩

/-- What a call that makes points leaves. -/
def PPost (w : World) (l : List P2) (e : Ending) (w' : World) : Prop := ∃ v, e = .returned v ∧ RdP w' w'.heap.size v l ∧ Below w.heap.size w w' ∧ ∀ b, v.ownBlock = some b → w.heap.size ≤ b

end Go.Proofs.Ytnajladngpphkaa
