/- Lists that lie in memory, and append onto a row of the call's own: laws that speak of nil, empty and other slices in one. -/
import Derived.Test.YtceegpkgifflcaaDoorWords
import Derived.Maps.AppendAt
import Derived.Deep.AppendLies
import Derived.Deep.Draws
import Derived.OwnWalk
namespace Go.Proofs.YtceegpkgifflcaaDoor
open Go.RowKit

/-- The slice that begins at 'a' and has n elements of 'size' cells each reads as the cells xs, below block B. -/
def Vals (w : World) (B size : Nat) (a : Option Addr) (n : Nat) (xs : List Value) : Prop :=
  xs.length = n * size ∧ (0 < xs.length → ∃ b off, a = some ⟨b, off, none⟩ ∧ b < B ∧ ∀ i, i < xs.length → w.cell? ⟨b, off + i, none⟩ = xs[i]?)

section
variable {w w' : World} {B B' size n : Nat} {a : Option Addr} {xs : List Value}
theorem Vals.nil_ : Vals w B size a 0 [] := ⟨by simp, fun h => absurd h (by simp)⟩
theorem Vals.keep (h : Vals w B size a n xs) (hk : ∀ p : Addr, p.block < B → w'.cell? p = w.cell? p) : Vals w' B size a n xs :=
  ⟨h.1, fun hl => by
    obtain ⟨b, off, rfl, hb, hc⟩ := h.2 hl
    exact ⟨b, off, rfl, hb, fun i hi => (hk _ hb).trans (hc i hi)⟩⟩
theorem Vals.below (h : Vals w B size a n xs) (hb : Below B w w') : Vals w' B size a n xs := h.keep fun _ hp => hb.cell hp
theorem Vals.more (h : Vals w B size a n xs) (hB : B ≤ B') : Vals w B' size a n xs :=
  ⟨h.1, fun hl => by
    obtain ⟨b, off, rfl, hb, hc⟩ := h.2 hl
    exact ⟨b, off, rfl, by omega, hc⟩⟩
theorem Vals.of_nums {k : IntKind} {l : List Nat} (h : Nums k w B a l) : Vals w B 1 a l.length (l.map fun m : Nat => Value.int k (m : Int)) :=
  ⟨by simp, fun hl => by
    obtain ⟨b, off, rfl, hb, hc⟩ := h (by simpa using hl)
    refine ⟨b, off, rfl, hb, fun i hi => ?_⟩
    have hi' : i < l.length := by simpa using hi
    rw [hc i hi']
    simp [hi']⟩
theorem Vals.to_nums {k : IntKind} {l : List Nat} (h : Vals w B 1 a n (l.map fun m : Nat => Value.int k (m : Int))) : Nums k w B a l := fun hl => by
  obtain ⟨b, off, rfl, hb, hc⟩ := h.2 (by simpa using hl)
  refine ⟨b, off, rfl, hb, fun i hi => ?_⟩
  rw [hc i (by simpa using hi)]
  simp [hi]
theorem Vals.of_block {g : Nat} {t : TypeId} {fr : Nat × Nat} (h : w.heap[g]? = some (.cells xs.toArray t fr)) (hl : xs.length = n * size) : Vals w w.heap.size size (some ⟨g, 0, none⟩) n xs :=
  ⟨hl, fun _ => ⟨g, 0, rfl, (Array.getElem?_eq_some_iff.1 h).1, fun i _ => by rw [cell_of_row w g _ _ t fr h]; simp⟩⟩
theorem Vals.of_own {base : Nat} {e : TypeId} {v : Value} (h : w.ownsRow base e size v n xs) : ∃ a c, v = .slice a n c ∧ n ≤ c ∧ c ≤ maxLen ∧ Vals w w.heap.size size a n xs := by
  rcases h.2 with ⟨rfl, rfl⟩ | ⟨g, cap, cur, rfl, hb, hh, hnc, hcm, hs, ht⟩
  · exact ⟨none, 0, rfl, Nat.le_refl _, by unfold maxLen; omega, by have := h.1; simp at this; subst this; exact Vals.nil_⟩
  · refine ⟨_, cap, rfl, hnc, hcm, h.1, fun _ => ⟨g, 0, rfl, (Array.getElem?_eq_some_iff.1 hh).1, fun i hi => ?_⟩⟩
    rw [cell_of_row w g _ _ e (0, 0) hh, ← ht, Nat.zero_add, List.getElem?_take, if_pos (by rw [← h.1]; exact hi)]
    simp
theorem len_le {x cap : Nat} (h : x ≤ cap) (hc : cap ≤ maxLen) : x ≤ maxLen := Nat.le_trans h hc
end

section
variable {P : Program} {w : World}

theorem run_append_vals (base : Nat) (t ty e : TypeId) (i : TypeInfo) (z : Value) (size bytes : Nat) (ht : P.underlying t = some (.slice e)) (hi : P.info? e = some i) (hz : i.zero = some z)
    (hsize : i.size = size) (hby : i.bytes = bytes) (hzs : z.cells.size = size) (hsz : 0 < size)
    (v : Value) (n : Nat) (xs : List Value) (hown : w.ownsRow base e size v n xs)
    (B : Nat) (a : Option Addr) (m c : Nat) (news : List Value) (hr : Vals w B size a m news) (h1 : ∀ u ∈ news, u.oneCell' = true)
    (h63 : n + m ≤ maxLen) (hbytes : (n + m) * bytes ≤ 140737488355328) (hbase : base ≤ w.heap.size) :
    ∃ v' w', (Builtin.append_ #[t, t] ty #[v, .slice a m c]).run P w = .ok v' w' ∧ w'.ownsRow base e size v' (n + m) (xs ++ news) ∧ w.grownBy w' v.ownBlock ∧
      (v'.ownBlock = v.ownBlock ∨ v'.ownBlock = some w.heap.size) := by
  rcases Nat.eq_zero_or_pos m with rfl | hm
  · have hn : news = [] := List.eq_nil_of_length_eq_zero (by simpa using hr.1)
    subst hn
    cases a with
    | none =>
      have hrun : (Builtin.append_ #[t, t] ty #[v, .slice none 0 c]).run P w = .ok v w := by
        rcases hown.2 with ⟨rfl, rfl⟩ | ⟨g, cap, cur, rfl, _, _, hnc, _⟩
        · simp [Builtin.append_, run_underlying ht, sizeOf, typeInfo, hi, Builtin.lenOf, Builtin.firstCells]
        · simp [Builtin.append_, run_underlying ht, sizeOf, typeInfo, hi, Builtin.lenOf, Builtin.firstCells, hnc, storeCells]
      exact ⟨v, w, hrun, by simpa using hown, World.grownBy.refl w _, .inl rfl⟩
    | some ad =>
      obtain ⟨v', w', hrun, h2, h3, _, h5⟩ := run_append_own_at (P := P) w base t ty e i z size bytes ht hi hz hsize hby hzs hsz v n xs hown ad 0 c [] (by simp) (by simp) (by simp) h63 hbytes hbase
      exact ⟨v', w', hrun, h2, h3, h5⟩
  · obtain ⟨b, off, rfl, hb, hc⟩ := hr.2 (by rw [hr.1]; exact Nat.mul_pos hm hsz)
    obtain ⟨v', w', hrun, h2, h3, _, h5⟩ := run_append_own_at (P := P) w base t ty e i z size bytes ht hi hz hsize hby hzs hsz v n xs hown ⟨b, off, none⟩ m c news hr.1
      (fun j u hj => by rw [add_none, hc j (List.getElem?_eq_some_iff.1 hj).1, hj]) h1 h63 hbytes hbase
    exact ⟨v', w', hrun, h2, h3, h5⟩

/-- append(s, x...) in a plain region: s a row of the call's own, x whatever reads as a list. -/
theorem app_vals {ops : Array Oper} {rest : List Oper} {o : Oper} {a : Act} {Q : Exit → Act → World → Prop} (hgd : o.guard = none) (s x : Operand) (t : TypeId)
    (ho : o.op = .call { callee := .builtin .append, args := #[s, x], argTypes := #[t, t] })
    (base : Nat) (e : TypeId) (i : TypeInfo) (z : Value) (size bytes : Nat) (ht : P.underlying t = some (.slice e)) (hi : P.info? e = some i) (hz : i.zero = some z)
    (hsize : i.size = size) (hby : i.bytes = bytes) (hzs : z.cells.size = size) (hsz : 0 < size)
    (v : Value) (n : Nat) (xs : List Value) (hs : a.eval s = v) (hown : w.ownsRow base e size v n xs)
    (B : Nat) (A : Option Addr) (m c : Nat) (news : List Value) (hx : a.eval x = .slice A m c) (hr : Vals w B size A m news) (h1 : ∀ u ∈ news, u.oneCell' = true)
    (h63 : n + m ≤ maxLen) (hbytes : (n + m) * bytes ≤ 140737488355328) (hbase : base ≤ w.heap.size)
    (h : ∀ v' w', w'.ownsRow base e size v' (n + m) (xs ++ news) → w.grownBy w' v.ownBlock → (v'.ownBlock = v.ownBlock ∨ v'.ownBlock = some w.heap.size) → wpList P ops Q rest (a.put o.dst v') w') :
    wpList P ops Q (o :: rest) a w := by
  refine wpList_plain hgd fun K hK => ?_
  obtain ⟨v', w', hrun, h2, h3, h5⟩ := run_append_vals (P := P) (w := w) base t o.type e i z size bytes ht hi hz hsize hby hzs hsz v n xs hown B A m c news hr h1 h63 hbytes hbase
  unfold Oper.wp execOp
  simp only [ho, resolve, invoke, builtin, Sem.run_bind, Sem.run_pure, Result.andThen_ok, List.map_toArray, List.map_cons, List.map_nil, hs, hx, hrun]
  exact hK _ _ (h v' w' h2 h3 h5)

/-- The same where one element was just laid into a block of its own: append(s, u). -/
theorem app_one {ops : Array Oper} {rest : List Oper} {o : Oper} {a : Act} {Q : Exit → Act → World → Prop} (hgd : o.guard = none) (s x : Operand) (t : TypeId)
    (ho : o.op = .call { callee := .builtin .append, args := #[s, x], argTypes := #[t, t] })
    (base : Nat) (e : TypeId) (i : TypeInfo) (z : Value) (bytes : Nat) (ht : P.underlying t = some (.slice e)) (hi : P.info? e = some i) (hz : i.zero = some z)
    (hsize : i.size = 1) (hby : i.bytes = bytes) (hzs : z.cells.size = 1)
    (v : Value) (n : Nat) (xs : List Value) (hs : a.eval s = v) (hown : w.ownsRow base e 1 v n xs)
    (u : Value) (c : Nat) (hx : a.eval x = .slice (some ⟨w.heap.size, 0, none⟩) 1 c) (h1 : u.oneCell' = true)
    (h63 : n + 1 ≤ maxLen) (hbytes : (n + 1) * bytes ≤ 140737488355328) (hbase : base ≤ w.heap.size)
    (h : ∀ v' w', w'.ownsRow base e 1 v' (n + 1) (xs ++ [u]) → w.grownBy w' v.ownBlock → (v'.ownBlock = v.ownBlock ∨ ∃ g, v'.ownBlock = some g ∧ w.heap.size ≤ g) → wpList P ops Q rest (a.put o.dst v') w') :
    wpList P ops Q (o :: rest) a (w.alloc (.cells #[u] e)) := by
  refine app_vals hgd s x t ho base e i z 1 bytes ht hi hz hsize hby hzs (by omega) v n xs hs (hown.alloc _) ((w.alloc (.cells #[u] e)).heap.size) _ 1 c [u] hx
    (Vals.of_block (xs := [u]) (heap_alloc_new w _) rfl) (by simpa using h1) h63 hbytes (by simp; omega) ?_
  intro v' w' h2 h3 h5
  refine h v' w' h2 ((World.grownBy_alloc w _ _).trans h3) ?_
  rcases h5 with h5 | h5
  · exact .inl h5
  · exact .inr ⟨_, h5, by simp⟩
end

theorem below_of_grown {base e size n : Nat} {v : Value} {xs : List Value} {a w w' : World} (h : Below base a w) (hown : w.ownsRow base e size v n xs) (hg : w.grownBy w' v.ownBlock) (hB : base ≤ w.heap.size) : Below base a w' :=
  h.grown hg hB fun k hk => (hown.lt k hk).1
end Go.Proofs.YtceegpkgifflcaaDoor
