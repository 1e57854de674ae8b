/- Rows of rows of points. -/
import Derived.Test.YtnajladngpphkaaPts
namespace Go.Proofs.Ytnajladngpphkaa
open Go.RowKit
set_option linter.unusedVariables false
set_option maxRecDepth 100000

theorem ppinfo : (Try.prog.info? 22).map (fun i => (i.zero, i.size, i.bytes)) = some (some (.slice none 0 0), 1, 24) := by kernel_rfl
/-- The points' cells, none of them in the block 'own'. -/
def PAtN (w : World) (own : Option Nat) (a : Option Addr) (l : List P2) : Prop := l = [] ∨ ∃ b off, a = some ⟨b, off, none⟩ ∧ b < w.heap.size ∧ own ≠ some b ∧ ∀ i, i < (pts l).length → w.cell? ⟨b, off + i, none⟩ = (pts l)[i]?
def RdN (w : World) (own : Option Nat) (u : Value) (l : List P2) : Prop := ∃ a c, u = .slice a l.length c ∧ l.length ≤ c ∧ c ≤ maxLen ∧ PAtN w own a l
theorem RdN.rd {w : World} {own : Option Nat} {u : Value} {l : List P2} (h : RdN w own u l) : RdP w w.heap.size u l := by
  obtain ⟨a, c, h1, h2, h3, h4⟩ := h
  refine ⟨a, c, h1, h2, h3, pts_length l, fun hp => ?_⟩
  rcases h4 with rfl | ⟨b, off, e, hb, _, hc⟩
  · simp [pts] at hp
  · exact ⟨b, off, e, hb, hc⟩
theorem RdN.of_rd {w : World} {own : Option Nat} {u : Value} {l : List P2} (h : RdP w w.heap.size u l) (hn : ∀ b, u.ownBlock = some b → own ≠ some b) : RdN w own u l := by
  obtain ⟨a, c, h1, h2, h3, h4⟩ := h
  refine ⟨a, c, h1, h2, h3, ?_⟩
  rcases Nat.eq_zero_or_pos l.length with h0 | h0
  · exact .inl (List.eq_nil_of_length_eq_zero h0)
  · obtain ⟨b, off, e, hb, hc⟩ := h4.2 (by rw [pts_length]; omega)
    refine .inr ⟨b, off, e, hb, hn b ?_, hc⟩
    rw [h1, e]; rfl
theorem RdN.only {S : Nat → Prop} {w w' : World} {own own' : Option Nat} {u : Value} {l : List P2} (h : RdN w own u l) (ho : Only S w w') (hS : ∀ b, S b → own = some b) (hn : ∀ b, b < w.heap.size → own ≠ some b → own' ≠ some b) : RdN w' own' u l := by
  obtain ⟨a, c, h1, h2, h3, h4⟩ := h
  refine ⟨a, c, h1, h2, h3, ?_⟩
  rcases h4 with e | ⟨b, off, e, hb, hk, hc⟩
  · exact .inl e
  · exact .inr ⟨b, off, e, Nat.lt_of_lt_of_le hb ho.size, hn b hb hk, fun i hi => (ho.cell (p := ⟨b, off + i, none⟩) hb (fun e => hk (hS b e))).trans (hc i hi)⟩
def OwnPP (w : World) (base : Nat) (v : Value) (ll : List (List P2)) : Prop := ∃ xs, w.ownsRow base 22 1 v ll.length xs ∧ ∀ i (h : i < ll.length), ∃ u, xs[i]? = some u ∧ RdN w v.ownBlock u ll[i]
/-- v is a slice of slices that reads as ll. -/
def RdPP (w : World) (B : Nat) (v : Value) (ll : List (List P2)) : Prop := ∃ a c xs, v = .slice a ll.length c ∧ ll.length ≤ c ∧ c ≤ maxLen ∧ Vals w B 1 a ll.length xs ∧ ∀ i (h : i < ll.length), ∃ u, xs[i]? = some u ∧ RdP w B u ll[i]
theorem OwnPP.nil_ (w : World) (base : Nat) : OwnPP w base (.slice none 0 0) [] := ⟨[], ⟨rfl, .inl ⟨rfl, rfl⟩⟩, fun i h => by simp at h⟩
theorem OwnPP.rd {w : World} {base : Nat} {v : Value} {ll : List (List P2)} (h : OwnPP w base v ll) : RdPP w w.heap.size v ll := by
  obtain ⟨xs, h1, h2⟩ := h
  obtain ⟨a, c, e, h3, h4, h5⟩ := Vals.of_own h1
  refine ⟨a, c, xs, e, h3, h4, h5, fun i hi => ?_⟩
  obtain ⟨u, k1, k2⟩ := h2 i hi
  exact ⟨u, k1, k2.rd⟩
theorem OwnPP.lt {w : World} {base : Nat} {v : Value} {ll : List (List P2)} (h : OwnPP w base v ll) : ∀ k, v.ownBlock = some k → base ≤ k ∧ k < w.heap.size := by
  obtain ⟨xs, h1, _⟩ := h
  exact fun k hk => World.ownsRow.lt h1 k hk
theorem OwnPP.below {w w' : World} {base : Nat} {v : Value} {ll : List (List P2)} (h : OwnPP w base v ll) (hb : Below w.heap.size w w') : OwnPP w' base v ll := by
  obtain ⟨xs, h1, h2⟩ := h
  have ho := Only.of_below hb (fun _ => False)
  refine ⟨xs, own_only h1 ho (fun _ _ h => h), fun i hi => ?_⟩
  obtain ⟨u, k1, k2⟩ := h2 i hi
  exact ⟨u, k1, k2.only ho (fun _ h => h.elim) (fun _ _ h => h)⟩
theorem RdPP.below {w w' : World} {B : Nat} {v : Value} {ll : List (List P2)} (h : RdPP w B v ll) (hb : Below B w w') : RdPP w' B v ll := by
  obtain ⟨a, c, xs, e, h3, h4, h5, h6⟩ := h
  refine ⟨a, c, xs, e, h3, h4, h5.below hb, fun i hi => ?_⟩
  obtain ⟨u, k1, k2⟩ := h6 i hi
  exact ⟨u, k1, k2.below hb⟩
theorem RdPP.more {w : World} {B B' : Nat} {v : Value} {ll : List (List P2)} (h : RdPP w B v ll) (hB : B ≤ B') : RdPP w B' v ll := by
  obtain ⟨a, c, xs, e, h3, h4, h5, h6⟩ := h
  refine ⟨a, c, xs, e, h3, h4, h5.more hB, fun i hi => ?_⟩
  obtain ⟨u, k1, k2⟩ := h6 i hi
  exact ⟨u, k1, k2.more hB⟩
/-- The slice's cells: each element a slice that reads. -/
def PPAt (w : World) (B : Nat) (a : Option Addr) (ll : List (List P2)) : Prop := ∀ i (h : i < ll.length), ∃ b off u, a = some ⟨b, off, none⟩ ∧ b < B ∧ w.cell? ⟨b, off + i, none⟩ = some u ∧ RdP w B u ll[i]
theorem RdPP.at {w : World} {B : Nat} {v : Value} {ll : List (List P2)} (h : RdPP w B v ll) : ∃ a c, v = .slice a ll.length c ∧ ll.length ≤ c ∧ c ≤ maxLen ∧ PPAt w B a ll := by
  obtain ⟨a, c, xs, e, h3, h4, h5, h6⟩ := h
  refine ⟨a, c, e, h3, h4, fun i hi => ?_⟩
  obtain ⟨u, k1, k2⟩ := h6 i hi
  have hl := h5.1
  obtain ⟨b, off, e2, hb, hc⟩ := h5.2 (by omega)
  exact ⟨b, off, u, e2, hb, by rw [hc i (by omega)]; exact k1, k2⟩
theorem PPAt.below {w w' : World} {B : Nat} {a : Option Addr} {ll : List (List P2)} (h : PPAt w B a ll) (hb : Below B w w') : PPAt w' B a ll := fun i hi => by
  obtain ⟨b, off, u, e, h1, h2, h3⟩ := h i hi
  exact ⟨b, off, u, e, h1, (hb.cell h1).trans h2, h3.below hb⟩
theorem PPAt.more {w : World} {B B' : Nat} {a : Option Addr} {ll : List (List P2)} (h : PPAt w B a ll) (hB : B ≤ B') : PPAt w B' a ll := fun i hi => by
  obtain ⟨b, off, u, e, h1, h2, h3⟩ := h i hi
  exact ⟨b, off, u, e, by omega, h2, h3.more hB⟩

theorem own_grow {w w' : World} {base : Nat} {v v' u : Value} {ll : List (List P2)} {l : List P2} {xs : List Value} (hx : ∀ i (h : i < ll.length), ∃ u, xs[i]? = some u ∧ RdN w v.ownBlock u ll[i]) (hl : xs.length = ll.length) (hu : RdN w v.ownBlock u l)
    (h2 : w'.ownsRow base 22 1 v' (ll.length + 1) (xs ++ [u])) (h3 : w.grownBy w' v.ownBlock) (h5 : v'.ownBlock = v.ownBlock ∨ ∃ g, v'.ownBlock = some g ∧ w.heap.size ≤ g) : OwnPP w' base v' (ll ++ [l]) := by
  have ho : Only (fun k => v.ownBlock = some k) w w' := Only.of_grown h3 (fun b e => e)
  have hn : ∀ b, b < w.heap.size → v.ownBlock ≠ some b → v'.ownBlock ≠ some b := fun b hb hk => by
    rcases h5 with e | ⟨k, e, hk'⟩
    · rw [e]; exact hk
    · rw [e]; intro e'; injection e' with e'; omega
  refine ⟨xs ++ [u], by simpa using h2, fun i hi => ?_⟩
  by_cases hlt : i < ll.length
  · obtain ⟨u', k1, k2⟩ := hx i hlt
    refine ⟨u', by rw [List.getElem?_append_left (by omega)]; exact k1, ?_⟩
    have e : (ll ++ [l])[i] = ll[i] := by simp [List.getElem_append, hlt]
    rw [e]
    exact k2.only ho (fun _ h => h) hn
  · have hi2 : i = ll.length := by simp at hi; omega
    subst hi2
    refine ⟨u, by rw [List.getElem?_append_right (by omega), hl]; simp, ?_⟩
    have e : (ll ++ [l])[ll.length] = l := by simp
    rw [e]
    exact hu.only ho (fun _ h => h) hn
theorem rdp_one {w : World} {B : Nat} {u : Value} {l : List P2} (h : RdP w B u l) : u.oneCell' = true := by
  obtain ⟨a, c, rfl, _⟩ := h
  rfl

end Go.Proofs.Ytnajladngpphkaa
