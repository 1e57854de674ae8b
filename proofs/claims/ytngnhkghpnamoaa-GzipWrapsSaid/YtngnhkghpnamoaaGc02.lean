/- U8 I64 Str Held -/
import Derived.Test.YtngnhkghpnamoaaRows
import Derived.Test.YtngnhkghpnamoaaGc01
import Derived.WalkKit
import Derived.Handy
import Derived.Lib.Hide
import Derived.Deep.RegionHeld3
import Derived.Deep.DrawnRows
import Derived.WalkLawsBesides
import Derived.WalkSpells
import Derived.RegionTactic
import Derived.BigRegion
import Derived.BigQuiet
import Derived.Deep.QuietTactic
import Derived.Outline
import Derived.Lib.BufferRead
import Derived.Laws.IdiomStrings
import Derived.Below
namespace Go.Proofs.Ytngnhkghpnamoaa
open Go.RowKit
set_option linter.unusedVariables false
set_option maxRecDepth 100000

def u8s (l : List Nat) : List Value := l.map fun n : Nat => Value.int .u8 (n : Int)
theorem u8info : (Try.prog.info? 5).map (fun i => (i.zero, i.size, i.bytes)) = some (some (.int .u8 0), 1, 1) := by kernel_rfl
theorem u8s_length (l : List Nat) : (u8s l).length = l.length := by simp [u8s]
theorem u8s_append (l m : List Nat) : u8s (l ++ m) = u8s l ++ u8s m := by simp [u8s]
theorem u8s_one (l : List Nat) : ∀ u ∈ u8s l, u.oneCell' = true := by
  intro u hu
  simp only [u8s, List.mem_map] at hu
  obtain ⟨n, _, rfl⟩ := hu
  rfl

/-- v is a row of bytes of the call's own (its blocks from 'base' on), and reads as l. -/
def Own8 (w : World) (base : Nat) (v : Value) (l : List Nat) : Prop := w.ownsRow base 5 1 v l.length (u8s l)

theorem Own8.nil_ (w : World) (base : Nat) : Own8 w base (.slice none 0 0) [] := ⟨rfl, .inl ⟨rfl, rfl⟩⟩
theorem Own8.only {S : Nat → Prop} {w w' : World} {base : Nat} {v : Value} {l : List Nat} (h : Own8 w base v l) (ho : Only S w w') (hn : ∀ b, v.ownBlock = some b → ¬ S b) : Own8 w' base v l := own_only h ho hn
theorem Own8.below {w w' : World} {base : Nat} {v : Value} {l : List Nat} (h : Own8 w base v l) (hb : Below w.heap.size w w') : Own8 w' base v l :=
  h.only (Only.of_below hb (fun _ => False)) (fun _ _ h => h)
theorem Own8.alloc {w : World} {base : Nat} {v : Value} {l : List Nat} (h : Own8 w base v l) (o : Obj) : Own8 (w.alloc o) base v l := World.ownsRow.alloc h o
theorem Own8.drew {w : World} {base : Nat} {v : Value} {l : List Nat} (h : Own8 w base v l) : Own8 w.drew base v l := h
theorem Own8.nums {w : World} {base : Nat} {v : Value} {l : List Nat} (h : Own8 w base v l) : ∃ a c, v = .slice a l.length c ∧ l.length ≤ c ∧ c ≤ maxLen ∧ (a = none → c = 0 ∧ l = []) ∧ Nums .u8 w w.heap.size a l := by
  have hnil : v.ownBlock = none → v = .slice none 0 0 ∧ l = [] := by
    intro e
    obtain ⟨hl, (⟨rfl, h0⟩ | ⟨k, cap, cur, rfl, _⟩)⟩ := h
    · exact ⟨rfl, List.eq_nil_of_length_eq_zero h0⟩
    · cases e
  obtain ⟨a, c, rfl, h1, h2, hV⟩ := Vals.of_own h
  exact ⟨a, c, rfl, h1, h2, fun e => by subst e; obtain ⟨h1, h2⟩ := hnil rfl; injection h1 with _ _ h3; exact ⟨h3, h2⟩, Vals.to_nums hV⟩
theorem Own8.lt {w : World} {base : Nat} {v : Value} {l : List Nat} (h : Own8 w base v l) : ∀ k, v.ownBlock = some k → base ≤ k ∧ k < w.heap.size := fun k hk => World.ownsRow.lt h k hk

/-- What stood where after a call that appends to a row of the call's own. -/
structure Gone (w : World) (base : Nat) (v : Value) (l : List Nat) (v' : Value) (w' : World) : Prop where
  own : Own8 w' base v' l
  only : Only (fun k => v.ownBlock = some k) w w'
  at_ : v'.ownBlock = v.ownBlock ∨ ∃ k, v'.ownBlock = some k ∧ w.heap.size ≤ k

theorem Gone.refl {w : World} {base : Nat} {v : Value} {l : List Nat} (h : Own8 w base v l) : Gone w base v l v w := ⟨h, Only.refl _ _, .inl rfl⟩
theorem Gone.undrew {w w' : World} {base : Nat} {v v' : Value} {l : List Nat} (h : Gone w.drew base v l v' w') : Gone w base v l v' w' := ⟨h.own, ⟨h.only.os, h.only.tape, h.only.output, h.only.size, h.only.block⟩, h.at_⟩
theorem Gone.trans {w w1 w2 : World} {base : Nat} {v v1 v2 : Value} {l m : List Nat} (h : Gone w base v l v1 w1) (k : Gone w1 base v1 m v2 w2) : Gone w base v m v2 w2 := by
  refine ⟨k.own, h.only.trans k.only ?_, ?_⟩
  · intro b hb e
    rcases h.at_ with h1 | ⟨j, h1, h2⟩
    · rw [← h1]; exact e
    · rw [h1] at e; injection e with e; omega
  · rcases k.at_ with e | ⟨j, e, hj⟩
    · rcases h.at_ with h1 | ⟨j, h1, h2⟩
      · exact .inl (by rw [e, h1])
      · exact .inr ⟨j, by rw [e, h1], h2⟩
    · exact .inr ⟨j, e, Nat.le_trans h.only.size hj⟩
theorem Gone.below {w w' : World} {base : Nat} {v v' : Value} {l m : List Nat} (h : Gone w base v l v' w') (hown : Own8 w base v m) (hB : base ≤ w.heap.size) : Below base w w' :=
  h.only.below (fun b hb e => by have := (hown.lt b e).1; omega) hB

theorem Gone.grown {w w' : World} {base : Nat} {v v' : Value} {l : List Nat} {n : Nat} {xs : List Value} (h : w'.ownsRow base 5 1 v' n xs) (hn : n = l.length) (hx : xs = u8s l) (hg : w.grownBy w' v.ownBlock)
    (hat : v'.ownBlock = v.ownBlock ∨ ∃ g, v'.ownBlock = some g ∧ w.heap.size ≤ g) : Gone w base v l v' w' := by
  subst hn hx
  exact ⟨h, Only.of_grown hg (fun b e => e), hat⟩

end Go.Proofs.Ytngnhkghpnamoaa

namespace Go.Proofs.Ytngnhkghpnamoaa
open Go.RowKit
set_option linter.unusedVariables false
set_option maxRecDepth 100000

def i64s (l : List Nat) : List Value := l.map fun n : Nat => Value.int .i64 (n : Int)
theorem i64info : (Try.prog.info? 3).map (fun i => (i.zero, i.size, i.bytes)) = some (some (.int .i64 0), 1, 8) := by kernel_rfl
theorem i64s_length (l : List Nat) : (i64s l).length = l.length := by simp [i64s]
theorem i64s_append (l m : List Nat) : i64s (l ++ m) = i64s l ++ i64s m := by simp [i64s]
theorem i64s_one (l : List Nat) : ∀ u ∈ i64s l, u.oneCell' = true := by
  intro u hu
  simp only [i64s, List.mem_map] at hu
  obtain ⟨n, _, rfl⟩ := hu
  rfl

/-- v is a row of bytes of the call's own (its blocks from 'base' on), and reads as l. -/
def Own64 (w : World) (base : Nat) (v : Value) (l : List Nat) : Prop := w.ownsRow base 3 1 v l.length (i64s l)

theorem Own64.nil_ (w : World) (base : Nat) : Own64 w base (.slice none 0 0) [] := ⟨rfl, .inl ⟨rfl, rfl⟩⟩
theorem Own64.only {S : Nat → Prop} {w w' : World} {base : Nat} {v : Value} {l : List Nat} (h : Own64 w base v l) (ho : Only S w w') (hn : ∀ b, v.ownBlock = some b → ¬ S b) : Own64 w' base v l := own_only h ho hn
theorem Own64.below {w w' : World} {base : Nat} {v : Value} {l : List Nat} (h : Own64 w base v l) (hb : Below w.heap.size w w') : Own64 w' base v l :=
  h.only (Only.of_below hb (fun _ => False)) (fun _ _ h => h)
theorem Own64.alloc {w : World} {base : Nat} {v : Value} {l : List Nat} (h : Own64 w base v l) (o : Obj) : Own64 (w.alloc o) base v l := World.ownsRow.alloc h o
theorem Own64.drew {w : World} {base : Nat} {v : Value} {l : List Nat} (h : Own64 w base v l) : Own64 w.drew base v l := h
theorem Own64.nums {w : World} {base : Nat} {v : Value} {l : List Nat} (h : Own64 w base v l) : ∃ a c, v = .slice a l.length c ∧ l.length ≤ c ∧ c ≤ maxLen ∧ (a = none → c = 0 ∧ l = []) ∧ Nums .i64 w w.heap.size a l := by
  have hnil : v.ownBlock = none → v = .slice none 0 0 ∧ l = [] := by
    intro e
    obtain ⟨hl, (⟨rfl, h0⟩ | ⟨k, cap, cur, rfl, _⟩)⟩ := h
    · exact ⟨rfl, List.eq_nil_of_length_eq_zero h0⟩
    · cases e
  obtain ⟨a, c, rfl, h1, h2, hV⟩ := Vals.of_own h
  exact ⟨a, c, rfl, h1, h2, fun e => by subst e; obtain ⟨h1, h2⟩ := hnil rfl; injection h1 with _ _ h3; exact ⟨h3, h2⟩, Vals.to_nums hV⟩
theorem Own64.lt {w : World} {base : Nat} {v : Value} {l : List Nat} (h : Own64 w base v l) : ∀ k, v.ownBlock = some k → base ≤ k ∧ k < w.heap.size := fun k hk => World.ownsRow.lt h k hk

/-- What stood where after a call that appends to a row of the call's own. -/
structure Gone64 (w : World) (base : Nat) (v : Value) (l : List Nat) (v' : Value) (w' : World) : Prop where
  own : Own64 w' base v' l
  only : Only (fun k => v.ownBlock = some k) w w'
  at_ : v'.ownBlock = v.ownBlock ∨ ∃ k, v'.ownBlock = some k ∧ w.heap.size ≤ k

theorem Gone64.refl {w : World} {base : Nat} {v : Value} {l : List Nat} (h : Own64 w base v l) : Gone64 w base v l v w := ⟨h, Only.refl _ _, .inl rfl⟩
theorem Gone64.undrew {w w' : World} {base : Nat} {v v' : Value} {l : List Nat} (h : Gone64 w.drew base v l v' w') : Gone64 w base v l v' w' := ⟨h.own, ⟨h.only.os, h.only.tape, h.only.output, h.only.size, h.only.block⟩, h.at_⟩
theorem Gone64.trans {w w1 w2 : World} {base : Nat} {v v1 v2 : Value} {l m : List Nat} (h : Gone64 w base v l v1 w1) (k : Gone64 w1 base v1 m v2 w2) : Gone64 w base v m v2 w2 := by
  refine ⟨k.own, h.only.trans k.only ?_, ?_⟩
  · intro b hb e
    rcases h.at_ with h1 | ⟨j, h1, h2⟩
    · rw [← h1]; exact e
    · rw [h1] at e; injection e with e; omega
  · rcases k.at_ with e | ⟨j, e, hj⟩
    · rcases h.at_ with h1 | ⟨j, h1, h2⟩
      · exact .inl (by rw [e, h1])
      · exact .inr ⟨j, by rw [e, h1], h2⟩
    · exact .inr ⟨j, e, Nat.le_trans h.only.size hj⟩
theorem Gone64.below {w w' : World} {base : Nat} {v v' : Value} {l m : List Nat} (h : Gone64 w base v l v' w') (hown : Own64 w base v m) (hB : base ≤ w.heap.size) : Below base w w' :=
  h.only.below (fun b hb e => by have := (hown.lt b e).1; omega) hB

theorem Gone64.grown {w w' : World} {base : Nat} {v v' : Value} {l : List Nat} {n : Nat} {xs : List Value} (h : w'.ownsRow base 3 1 v' n xs) (hn : n = l.length) (hx : xs = i64s l) (hg : w.grownBy w' v.ownBlock)
    (hat : v'.ownBlock = v.ownBlock ∨ ∃ g, v'.ownBlock = some g ∧ w.heap.size ≤ g) : Gone64 w base v l v' w' := by
  subst hn hx
  exact ⟨h, Only.of_grown hg (fun b e => e), hat⟩

end Go.Proofs.Ytngnhkghpnamoaa

namespace Go.Proofs.Ytngnhkghpnamoaa
open Go.RowKit

/-- The string of the bytes l. -/
def strOf (l : List Nat) : ByteArray := ⟨(l.map UInt8.ofNat).toArray⟩

theorem str_of_nums {P : Program} (W : World) (B : Nat) (src dst e : TypeId) (a : Option Addr) (c : Nat) (l : List Nat) (hs : P.underlying src = some (.slice e)) (he : P.underlying e = some (.int .u8)) (hd : P.underlying dst = some .string)
    (h : Nums .u8 W B a l) (hl : ∀ x ∈ l, x < 256) :
    (convert src dst (.slice a l.length c)).run P W = .ok (.string (strOf l)) W := by
  cases a with
  | none =>
    have h0 : l = [] := by
      rcases l with _ | ⟨x, l⟩
      · rfl
      · obtain ⟨b, off, e, _⟩ := h (by simp)
        cases e
    subst h0
    exact Lib.run_convert_nil_bytes W src dst e c hs he hd
  | some A =>
    have hx : l.length = (l.map UInt8.ofNat).length := by simp
    rw [hx]
    refine run_convert_bytes_back W src dst e A c (l.map UInt8.ofNat) hs he hd ?_
    intro j hj
    have hj' : j < l.length := by simpa using hj
    obtain ⟨b, off, e1, _, h2⟩ := h (by omega)
    injection e1 with e1
    subst e1
    have := h2 j hj'
    have ha : (⟨b, off, none⟩ : Addr).add j = ⟨b, off + j, none⟩ := by
      unfold Addr.add
      split
      · next h => subst h; rfl
      · rfl
    rw [ha, this]
    have hlt := hl l[j] (List.getElem_mem hj')
    simp [List.getD, hj']
    omega
end Go.Proofs.Ytngnhkghpnamoaa

namespace Go.Proofs.Ytngnhkghpnamoaa
open Go.RowKit

/-- Nothing of what stood in X has turned. -/
def Kp (X W : World) : Prop := Below X.heap.size X W
theorem Kp.refl (X : World) : Kp X X := Below.refl _ _
theorem keepBelow {w w1 W : World} (h2 : Below w1.heap.size w1 W) (h : Below w.heap.size w w1) : Below w.heap.size w W := h.trans ⟨h2.os, h2.tape, h2.output, h2.size, fun k hk => h2.block k (Nat.lt_of_lt_of_le hk h.size)⟩
section
variable {P : Program} {md : Region.Mode} {ops : Array Oper} {Q : Exit → Act → World → Prop} {S S' : World → Prop}
theorem wpAnyH_more (hs : ∀ w, S' w → S w) : ∀ (fuel : Nat) (listed : Array Bool) (a : Act) (w : World), wpAnyH P md ops Q S' fuel listed a w → wpAnyH P md ops Q S fuel listed a w
  | 0, _, _, _, h => h
  | fuel + 1, _, _, _, h => ⟨h.1, fun i hi => wpOp_mono (fun a' w' h' => ⟨hs _ h'.1, wpAnyH_more hs fuel _ a' w' h'.2⟩) (h.2 i hi)⟩
theorem held_more {X Y : World} (hb : Below X.heap.size X Y) {fuel : Nat} {listed : Array Bool} {a : Act} (h : wpAnyH P md ops Q (Kp Y) fuel listed a Y) : wpAnyH P md ops Q (Kp X) fuel listed a Y :=
  wpAnyH_more (fun _ hw => keepBelow hw hb) fuel listed a Y h
theorem held_start {id : Nat} {a : Act} {w : World} (hm : P.follows .mixedOrders = true) (h : wpAnyH P .any ops Q (Kp w.drew) ops.size (Array.replicate ops.size false) a w.drew) : (Code.region id ops true).wp P Q a w :=
  wp_region_held hm h
/-- append(s, x) whose run is known, within the region. -/
theorem held_app {w w' : World} {o : Oper} {a : Act} {K : Act → World → Prop} {N : Prop} (hw : Region.wanted o (yielded ops a.tmps) = true) (s x : Operand) (t : TypeId)
    (ho : o.op = .call { callee := .builtin .append, args := #[s, x], argTypes := #[t, t] }) (v u v' : Value) (hs : a.eval s = v) (hx : a.eval x = u)
    (hrun : (Builtin.append_ #[t, t] o.type #[v, u]).run P w = .ok v' w') (h : K (a.put o.dst v') w') : if Region.wanted o (yielded ops a.tmps) = true then Oper.wp P o a w K Q else N := by
  simp only [hw, if_true]
  unfold Oper.wp execOp
  simp only [ho, resolve, invoke, builtin, Sem.run_bind, Sem.run_pure, Result.andThen_ok, List.map_toArray, List.map_cons, List.map_nil, hs, hx, hrun]
  exact h
end
end Go.Proofs.Ytngnhkghpnamoaa
