/- Rows of strings. -/
import Derived.Test.YtceegpkgifflcaaDoorU8
import Derived.Test.YtceegpkgifflcaaDoorHeld
import Derived.Test.YtceegpkgifflcaaDoorBs
import Derived.Outline
namespace Go.Proofs.YtceegpkgifflcaaDoor
open Go.RowKit
set_option linter.unusedVariables false
set_option maxRecDepth 100000

def txs (l : List ByteArray) : List Value := l.map fun t => .string t
theorem txinfo : (Tryd.prog.info? 9).map (fun i => (i.zero, i.size, i.bytes)) = some (some (.string ByteArray.empty), 1, 16) := by kernel_rfl
theorem txs_length (l : List ByteArray) : (txs l).length = l.length := by simp [txs]
theorem txs_append (l m : List ByteArray) : txs (l ++ m) = txs l ++ txs m := by simp [txs]
theorem txs_one (l : List ByteArray) : ∀ u ∈ txs l, u.oneCell' = true := by
  intro u hu
  simp only [txs, List.mem_map] at hu
  obtain ⟨p, _, rfl⟩ := hu
  rfl
theorem txs_get (l : List ByteArray) (i : Nat) (h : i < l.length) : (txs l)[i]? = some (.string l[i]) := by simp [txs, h]
/-- v is a row of strings of the call's own, and reads as l. -/
def OwnT (w : World) (base : Nat) (v : Value) (l : List ByteArray) : Prop := w.ownsRow base 9 1 v l.length (txs l)
theorem OwnT.nil_ (w : World) (base : Nat) : OwnT w base (.slice none 0 0) [] := ⟨rfl, .inl ⟨rfl, rfl⟩⟩
theorem OwnT.only {S : Nat → Prop} {w w' : World} {base : Nat} {v : Value} {l : List ByteArray} (h : OwnT w base v l) (ho : Only S w w') (hn : ∀ b, v.ownBlock = some b → ¬ S b) : OwnT w' base v l := own_only h ho hn
theorem OwnT.below {w w' : World} {base : Nat} {v : Value} {l : List ByteArray} (h : OwnT w base v l) (hb : Below w.heap.size w w') : OwnT w' base v l :=
  h.only (Only.of_below hb (fun _ => False)) (fun _ _ h => h)
theorem OwnT.alloc {w : World} {base : Nat} {v : Value} {l : List ByteArray} (h : OwnT w base v l) (o : Obj) : OwnT (w.alloc o) base v l := World.ownsRow.alloc h o
theorem OwnT.lt {w : World} {base : Nat} {v : Value} {l : List ByteArray} (h : OwnT w base v l) : ∀ k, v.ownBlock = some k → base ≤ k ∧ k < w.heap.size := fun k hk => World.ownsRow.lt h k hk

structure GoneT (w : World) (base : Nat) (v : Value) (l : List ByteArray) (v' : Value) (w' : World) : Prop where
  own : OwnT w' base v' l
  only : Only (fun k => v.ownBlock = some k) w w'
  at_ : v'.ownBlock = v.ownBlock ∨ ∃ k, v'.ownBlock = some k ∧ w.heap.size ≤ k
theorem GoneT.below {w w' : World} {base : Nat} {v v' : Value} {l m : List ByteArray} (h : GoneT w base v l v' w') (hown : OwnT w base v m) (hB : base ≤ w.heap.size) : Below base w w' :=
  h.only.below (fun b hb e => by have := (hown.lt b e).1; omega) hB
theorem GoneT.grown {w w' : World} {base : Nat} {v v' : Value} {l : List ByteArray} {n : Nat} {xs : List Value} (h : w'.ownsRow base 9 1 v' n xs) (hn : n = l.length) (hx : xs = txs l) (hg : w.grownBy w' v.ownBlock)
    (hat : v'.ownBlock = v.ownBlock ∨ ∃ g, v'.ownBlock = some g ∧ w.heap.size ≤ g) : GoneT w base v l v' w' := by
  subst hn hx
  exact ⟨h, Only.of_grown hg (fun b e => e), hat⟩

/-- The slice that begins at a reads as the points l. -/
def TAt (w : World) (B : Nat) (a : Option Addr) (l : List ByteArray) : Prop := Vals w B 1 a l.length (txs l)
theorem TAt.at {w : World} {B : Nat} {a : Option Addr} {l : List ByteArray} (h : TAt w B a l) (i : Nat) (hi : i < l.length) : ∃ b off, a = some ⟨b, off, none⟩ ∧ b < B ∧ w.cell? ⟨b, off + i, none⟩ = some (.string l[i]) := by
  have hl := h.1
  obtain ⟨b, off, rfl, hb, hc⟩ := h.2 (by rw [txs_length]; omega)
  exact ⟨b, off, rfl, hb, by rw [hc i (by rw [txs_length]; omega)]; exact txs_get l i hi⟩
theorem TAt.below {w w' : World} {B : Nat} {a : Option Addr} {l : List ByteArray} (h : TAt w B a l) (hb : Below B w w') : TAt w' B a l := Vals.below h hb
theorem TAt.more {w : World} {B B' : Nat} {a : Option Addr} {l : List ByteArray} (h : TAt w B a l) (hB : B ≤ B') : TAt w B' a l := Vals.more h hB
/-- v is a slice that reads as l. -/
def RdT (w : World) (B : Nat) (v : Value) (l : List ByteArray) : Prop := ∃ a c, v = .slice a l.length c ∧ l.length ≤ c ∧ c ≤ maxLen ∧ TAt w B a l
theorem RdT.below {w w' : World} {B : Nat} {v : Value} {l : List ByteArray} (h : RdT w B v l) (hb : Below B w w') : RdT w' B v l := by
  obtain ⟨a, c, h1, h2, h3, h4⟩ := h
  exact ⟨a, c, h1, h2, h3, h4.below hb⟩
theorem RdT.more {w : World} {B B' : Nat} {v : Value} {l : List ByteArray} (h : RdT w B v l) (hB : B ≤ B') : RdT w B' v l := by
  obtain ⟨a, c, h1, h2, h3, h4⟩ := h
  exact ⟨a, c, h1, h2, h3, h4.more hB⟩
theorem OwnT.rd {w : World} {base : Nat} {v : Value} {l : List ByteArray} (h : OwnT w base v l) : RdT w w.heap.size v l := by
  obtain ⟨a, c, h1, h2, h3, h4⟩ := Vals.of_own h
  exact ⟨a, c, h1, h2, h3, h4⟩

theorem ttinfo : (Tryd.prog.info? 31).map (fun i => (i.zero, i.size, i.bytes)) = some (some (.slice none 0 0), 1, 24) := by kernel_rfl
/-- The points' cells, none of them in the block 'own'. -/
def TAtN (w : World) (own : Option Nat) (a : Option Addr) (l : List ByteArray) : Prop := l = [] ∨ ∃ b off, a = some ⟨b, off, none⟩ ∧ b < w.heap.size ∧ own ≠ some b ∧ ∀ i, i < (txs l).length → w.cell? ⟨b, off + i, none⟩ = (txs l)[i]?
def RdTN (w : World) (own : Option Nat) (u : Value) (l : List ByteArray) : Prop := ∃ a c, u = .slice a l.length c ∧ l.length ≤ c ∧ c ≤ maxLen ∧ TAtN w own a l
theorem RdTN.rd {w : World} {own : Option Nat} {u : Value} {l : List ByteArray} (h : RdTN w own u l) : RdT w w.heap.size u l := by
  obtain ⟨a, c, h1, h2, h3, h4⟩ := h
  refine ⟨a, c, h1, h2, h3, by rw [txs_length, Nat.mul_one], fun hp => ?_⟩
  rcases h4 with rfl | ⟨b, off, e, hb, _, hc⟩
  · simp [txs] at hp
  · exact ⟨b, off, e, hb, hc⟩
theorem RdTN.of_rd {w : World} {own : Option Nat} {u : Value} {l : List ByteArray} (h : RdT w w.heap.size u l) (hn : ∀ b, u.ownBlock = some b → own ≠ some b) : RdTN w own u l := by
  obtain ⟨a, c, h1, h2, h3, h4⟩ := h
  refine ⟨a, c, h1, h2, h3, ?_⟩
  rcases Nat.eq_zero_or_pos l.length with h0 | h0
  · exact .inl (List.eq_nil_of_length_eq_zero h0)
  · obtain ⟨b, off, e, hb, hc⟩ := h4.2 (by rw [txs_length]; omega)
    refine .inr ⟨b, off, e, hb, hn b ?_, hc⟩
    rw [h1, e]; rfl
theorem RdTN.only {S : Nat → Prop} {w w' : World} {own own' : Option Nat} {u : Value} {l : List ByteArray} (h : RdTN w own u l) (ho : Only S w w') (hS : ∀ b, S b → own = some b) (hn : ∀ b, b < w.heap.size → own ≠ some b → own' ≠ some b) : RdTN w' own' u l := by
  obtain ⟨a, c, h1, h2, h3, h4⟩ := h
  refine ⟨a, c, h1, h2, h3, ?_⟩
  rcases h4 with e | ⟨b, off, e, hb, hk, hc⟩
  · exact .inl e
  · exact .inr ⟨b, off, e, Nat.lt_of_lt_of_le hb ho.size, hn b hb hk, fun i hi => (ho.cell (p := ⟨b, off + i, none⟩) hb (fun e => hk (hS b e))).trans (hc i hi)⟩
def OwnTT (w : World) (base : Nat) (v : Value) (ll : List (List ByteArray)) : Prop := ∃ xs, w.ownsRow base 31 1 v ll.length xs ∧ ∀ i (h : i < ll.length), ∃ u, xs[i]? = some u ∧ RdTN w v.ownBlock u ll[i]
/-- v is a slice of slices that reads as ll. -/
def RdTT (w : World) (B : Nat) (v : Value) (ll : List (List ByteArray)) : Prop := ∃ a c xs, v = .slice a ll.length c ∧ ll.length ≤ c ∧ c ≤ maxLen ∧ Vals w B 1 a ll.length xs ∧ ∀ i (h : i < ll.length), ∃ u, xs[i]? = some u ∧ RdT w B u ll[i]
theorem OwnTT.nil_ (w : World) (base : Nat) : OwnTT w base (.slice none 0 0) [] := ⟨[], ⟨rfl, .inl ⟨rfl, rfl⟩⟩, fun i h => by simp at h⟩
theorem OwnTT.rd {w : World} {base : Nat} {v : Value} {ll : List (List ByteArray)} (h : OwnTT w base v ll) : RdTT w w.heap.size v ll := by
  obtain ⟨xs, h1, h2⟩ := h
  obtain ⟨a, c, e, h3, h4, h5⟩ := Vals.of_own h1
  refine ⟨a, c, xs, e, h3, h4, h5, fun i hi => ?_⟩
  obtain ⟨u, k1, k2⟩ := h2 i hi
  exact ⟨u, k1, k2.rd⟩
theorem OwnTT.lt {w : World} {base : Nat} {v : Value} {ll : List (List ByteArray)} (h : OwnTT w base v ll) : ∀ k, v.ownBlock = some k → base ≤ k ∧ k < w.heap.size := by
  obtain ⟨xs, h1, _⟩ := h
  exact fun k hk => World.ownsRow.lt h1 k hk
theorem OwnTT.below {w w' : World} {base : Nat} {v : Value} {ll : List (List ByteArray)} (h : OwnTT w base v ll) (hb : Below w.heap.size w w') : OwnTT w' base v ll := by
  obtain ⟨xs, h1, h2⟩ := h
  have ho := Only.of_below hb (fun _ => False)
  refine ⟨xs, own_only h1 ho (fun _ _ h => h), fun i hi => ?_⟩
  obtain ⟨u, k1, k2⟩ := h2 i hi
  exact ⟨u, k1, k2.only ho (fun _ h => h.elim) (fun _ _ h => h)⟩
theorem RdTT.below {w w' : World} {B : Nat} {v : Value} {ll : List (List ByteArray)} (h : RdTT w B v ll) (hb : Below B w w') : RdTT w' B v ll := by
  obtain ⟨a, c, xs, e, h3, h4, h5, h6⟩ := h
  refine ⟨a, c, xs, e, h3, h4, h5.below hb, fun i hi => ?_⟩
  obtain ⟨u, k1, k2⟩ := h6 i hi
  exact ⟨u, k1, k2.below hb⟩
theorem RdTT.more {w : World} {B B' : Nat} {v : Value} {ll : List (List ByteArray)} (h : RdTT w B v ll) (hB : B ≤ B') : RdTT w B' v ll := by
  obtain ⟨a, c, xs, e, h3, h4, h5, h6⟩ := h
  refine ⟨a, c, xs, e, h3, h4, h5.more hB, fun i hi => ?_⟩
  obtain ⟨u, k1, k2⟩ := h6 i hi
  exact ⟨u, k1, k2.more hB⟩
/-- The slice's cells: each element a slice that reads. -/
def TTAt (w : World) (B : Nat) (a : Option Addr) (ll : List (List ByteArray)) : Prop := ∀ i (h : i < ll.length), ∃ b off u, a = some ⟨b, off, none⟩ ∧ b < B ∧ w.cell? ⟨b, off + i, none⟩ = some u ∧ RdT w B u ll[i]
theorem RdTT.at {w : World} {B : Nat} {v : Value} {ll : List (List ByteArray)} (h : RdTT w B v ll) : ∃ a c, v = .slice a ll.length c ∧ ll.length ≤ c ∧ c ≤ maxLen ∧ TTAt w B a ll := by
  obtain ⟨a, c, xs, e, h3, h4, h5, h6⟩ := h
  refine ⟨a, c, e, h3, h4, fun i hi => ?_⟩
  obtain ⟨u, k1, k2⟩ := h6 i hi
  have hl := h5.1
  obtain ⟨b, off, e2, hb, hc⟩ := h5.2 (by omega)
  exact ⟨b, off, u, e2, hb, by rw [hc i (by omega)]; exact k1, k2⟩
theorem TTAt.below {w w' : World} {B : Nat} {a : Option Addr} {ll : List (List ByteArray)} (h : TTAt w B a ll) (hb : Below B w w') : TTAt w' B a ll := fun i hi => by
  obtain ⟨b, off, u, e, h1, h2, h3⟩ := h i hi
  exact ⟨b, off, u, e, h1, (hb.cell h1).trans h2, h3.below hb⟩
theorem TTAt.more {w : World} {B B' : Nat} {a : Option Addr} {ll : List (List ByteArray)} (h : TTAt w B a ll) (hB : B ≤ B') : TTAt w B' a ll := fun i hi => by
  obtain ⟨b, off, u, e, h1, h2, h3⟩ := h i hi
  exact ⟨b, off, u, e, by omega, h2, h3.more hB⟩

theorem own_grow {w w' : World} {base : Nat} {v v' u : Value} {ll : List (List ByteArray)} {l : List ByteArray} {xs : List Value} (hx : ∀ i (h : i < ll.length), ∃ u, xs[i]? = some u ∧ RdTN w v.ownBlock u ll[i]) (hl : xs.length = ll.length) (hu : RdTN w v.ownBlock u l)
    (h2 : w'.ownsRow base 31 1 v' (ll.length + 1) (xs ++ [u])) (h3 : w.grownBy w' v.ownBlock) (h5 : v'.ownBlock = v.ownBlock ∨ ∃ g, v'.ownBlock = some g ∧ w.heap.size ≤ g) : OwnTT w' base v' (ll ++ [l]) := by
  have ho : Only (fun k => v.ownBlock = some k) w w' := Only.of_grown h3 (fun b e => e)
  have hn : ∀ b, b < w.heap.size → v.ownBlock ≠ some b → v'.ownBlock ≠ some b := fun b hb hk => by
    rcases h5 with e | ⟨k, e, hk'⟩
    · rw [e]; exact hk
    · rw [e]; intro e'; injection e' with e'; omega
  refine ⟨xs ++ [u], by simpa using h2, fun i hi => ?_⟩
  by_cases hlt : i < ll.length
  · obtain ⟨u', k1, k2⟩ := hx i hlt
    refine ⟨u', by rw [List.getElem?_append_left (by omega)]; exact k1, ?_⟩
    have e : (ll ++ [l])[i] = ll[i] := by simp [List.getElem_append, hlt]
    rw [e]
    exact k2.only ho (fun _ h => h) hn
  · have hi2 : i = ll.length := by simp at hi; omega
    subst hi2
    refine ⟨u, by rw [List.getElem?_append_right (by omega), hl]; simp, ?_⟩
    have e : (ll ++ [l])[ll.length] = l := by simp
    rw [e]
    exact hu.only ho (fun _ h => h) hn
theorem rdt_one {w : World} {B : Nat} {u : Value} {l : List ByteArray} (h : RdT w B u l) : u.oneCell' = true := by
  obtain ⟨a, c, rfl, _⟩ := h
  rfl

end Go.Proofs.YtceegpkgifflcaaDoor
