/- Layer 34: what turns, in words of the state. -/
import Derived.Test.YthbgijpakjfjkaaLru2
import Derived.Maps.Keyed
namespace Go.Proofs.Ythbgijpakjfjkaa
open Go.RowKit
set_option linter.unusedVariables false
set_option maxRecDepth 100000

/-- A block that is a cache's. -/
def LS (base : Nat) (w : World) (b : Nat) : Prop := base ≤ b ∧ ((∃ es cl, w.heap[b]? = some (.map es cl)) ∨ ∃ cs t f, w.heap[b]? = some (.cells cs t f) ∧ (t = 58 ∨ t = 63))
theorem LS.back {w w' : World} {base b : Nat} (ho : Only (LS base w) w w') (hb : b < w.heap.size) (h : LS base w' b) : LS base w b := by
  by_cases e : LS base w b
  · exact e
  · have := ho.block b hb e
    unfold LS at h
    rw [this] at h
    exact h
theorem Only.low {base : Nat} {w w' : World} (h : Only (LS base w) w w') (hb : base ≤ w.heap.size) : Below base w w' := h.below (fun b hb e => by have := e.1; omega) hb
theorem Only.ls {base : Nat} {w w1 w2 : World} (h : Only (LS base w) w w1) (k : Only (LS base w1) w1 w2) : Only (LS base w) w w2 := h.trans k fun b hb hl => LS.back h hb hl
open Go.ChangeMaps Go.MapKept Go.WideShapes Go.WideMaps in
theorem keyOf_str (s : ByteArray) (hs : s.size ≤ maxLen) : keyOf Try.prog 9 (.string s) = some (kl s) := keyOf_string_mk (P := Try.prog) Try.underlying9 hs
theorem K9 : Maps.Keyed Try.prog 9 := Maps.string_keyed Try.underlying9
theorem ownsMap_tight {w : World} {k : TypeId} {b n : Nat} {D : DataW Unit} (h : w.ownsMap Try.prog k RP b n D) : w.ownsMap Try.prog k RP b (Maps.size D) D := by
  obtain ⟨es, clock, hb, F, _, rfl⟩ := h
  exact ⟨es, clock, hb, F, by simp [Maps.size, length_sorted], rfl⟩
section
variable {w w' : World} {base g mp n : Nat} {cs : Array Value} {D : DataW Unit} {nodes : List Nat} {es : List En} {ring : List Nat}
theorem St.ls_node (h : St w base g mp n cs D nodes es ring) {b : Nat} (hb : b ∈ nodes) : LS base w b := by
  obtain ⟨⟨cs', h1, _⟩, h2⟩ := h.nds b hb
  exact ⟨h2, .inr ⟨_, _, _, h1, .inr rfl⟩⟩
theorem St.ls_g (h : St w base g mp n cs D nodes es ring) : LS base w g := ⟨h.lo.1, .inr ⟨_, _, _, h.cache, .inl rfl⟩⟩
theorem St.ls_mp (h : St w base g mp n cs D nodes es ring) : LS base w mp := by
  obtain ⟨es, cl, hh, _⟩ := h.map
  exact ⟨h.lo.2, .inl ⟨es, cl, hh⟩⟩
theorem seq_dropLast (m : Nat) (es : List En) : (seqOf m es).dropLast = m :: blks es := by
  unfold seqOf
  rw [← List.cons_append, List.dropLast_concat]
theorem seq_tail (m : Nat) (es : List En) : (seqOf m es).tail = blks es ++ [m] := rfl
theorem seq_mem {m b : Nat} {es : List En} (h : b ∈ seqOf m es) : b ∈ m :: blks es := by
  unfold seqOf at h
  simp at h ⊢
  rcases h with h | h | h
  · exact .inl h
  · exact .inr h
  · exact .inl h
theorem nodup_tail {m : Nat} {es : List En} (h : (m :: blks es).Nodup) : (blks es ++ [m]).Nodup := by
  have : (blks es ++ [m]).Perm (m :: blks es) := List.perm_append_singleton _ _
  exact this.nodup_iff.2 h
theorem around (m : Nat) (l1 l2 : List En) (x : En) : ∃ L1 p q L2, seqOf m (l1 ++ x :: l2) = L1 ++ p :: x.blk :: q :: L2 ∧ seqOf m (l1 ++ l2) = L1 ++ p :: q :: L2 := by
  obtain ⟨q, L2, hq⟩ : ∃ q L2, blks l2 ++ [m] = q :: L2 := by
    cases l2 with
    | nil => exact ⟨m, [], rfl⟩
    | cons a l => exact ⟨a.blk, blks l ++ [m], rfl⟩
  have hp : ∃ L1 p, m :: blks l1 = L1 ++ [p] := ⟨(m :: blks l1).dropLast, (m :: blks l1).getLast (by simp), (List.dropLast_concat_getLast (by simp)).symm⟩
  obtain ⟨L1, p, hp⟩ := hp
  refine ⟨L1, p, q, L2, ?_, ?_⟩
  · have : seqOf m (l1 ++ x :: l2) = (m :: blks l1) ++ x.blk :: (blks l2 ++ [m]) := by simp [seqOf, blks]
    rw [this, hp, hq]; simp
  · have : seqOf m (l1 ++ l2) = (m :: blks l1) ++ (blks l2 ++ [m]) := by simp [seqOf, blks]
    rw [this, hp, hq]; simp

/-- x is taken out of the ring. -/
theorem St.removed {m : Nat} {l1 l2 : List En} {x : En} (h : St w base g mp n cs D (m :: blks (l1 ++ x :: l2)) es (seqOf m (l1 ++ x :: l2))) (hd : (m :: blks (l1 ++ x :: l2)).Nodup) :
    ∃ p q, Calls Try.prog 22 #[.agg #[.pointer (some ⟨m, 0, none⟩)], .pointer (some ⟨x.blk, 0, none⟩)] w (RemPost w p q) ∧
      ∀ w', Below (tie w p q).heap.size (tie w p q) w' → St w' base g mp n cs D (m :: blks (l1 ++ x :: l2)) es (seqOf m (l1 ++ l2)) ∧ Only (LS base w) w w' := by
  obtain ⟨L1, p, q, L2, e1, e2⟩ := around m l1 l2 x
  have hch := h.ch
  have hsd := seq_dropLast m (l1 ++ x :: l2)
  have hst := seq_tail m (l1 ++ x :: l2)
  have hmem : ∀ b ∈ L1 ++ p :: x.blk :: q :: L2, b ∈ m :: blks (l1 ++ x :: l2) := fun b hb => seq_mem (by rw [e1]; exact hb)
  have hmem2 : ∀ b ∈ seqOf m (l1 ++ l2), b ∈ m :: blks (l1 ++ x :: l2) := fun b hb => hmem b (by
    rw [e2] at hb
    simp at hb ⊢
    rcases hb with h | h | h | h
    · exact .inl h
    · exact .inr (.inl h)
    · exact .inr (.inr (.inr (.inl h)))
    · exact .inr (.inr (.inr (.inr h))))
  rw [e1] at hch hsd hst
  have hd1 : (L1 ++ p :: x.blk :: q :: L2).dropLast.Nodup := by rw [hsd]; exact hd
  have hd2 : (L1 ++ p :: x.blk :: q :: L2).tail.Nodup := by rw [hst]; exact nodup_tail hd
  have hp := hmem p (by simp)
  have hx := hmem x.blk (by simp)
  have hq := hmem q (by simp)
  have hl := (Ch_split w L1 p _).1 hch
  have hpx : p ≠ x.blk := by
    intro e
    have h9 : (L1 ++ p :: x.blk :: (q :: L2).dropLast).Nodup := by
      have : (L1 ++ p :: x.blk :: q :: L2).dropLast = L1 ++ p :: x.blk :: (q :: L2).dropLast := by
        rw [List.dropLast_append_of_ne_nil (by simp)]
        simp [List.dropLast]
      rwa [this] at hd1
    have := (List.nodup_cons.1 (List.nodup_append.1 h9).2.1).1
    exact this (by rw [e]; simp)
  have hqx : q ≠ x.blk := by
    intro e
    have h9 : ((L1 ++ [p]).tail ++ x.blk :: q :: L2).Nodup := by
      have : (L1 ++ p :: x.blk :: q :: L2).tail = (L1 ++ [p]).tail ++ x.blk :: q :: L2 := by cases L1 <;> simp
      rwa [this] at hd2
    have := (List.nodup_cons.1 (List.nodup_append.1 h9).2.1).1
    exact this (by rw [e]; simp)
  refine ⟨p, q, remove_any m p x.blk q w hl.2.1 hl.2.2.1 (h.nds p hp).1.free (h.nds q hq).1.free (h.nds p hp).1.lt (h.nds _ hx).1.lt (h.nds q hq).1.lt hpx hqx, fun w' hb => ?_⟩
  have ht := tie_only w p q
  have hS1 : St (tie w p q) base g mp n cs D (m :: blks (l1 ++ x :: l2)) es (seqOf m (l1 ++ l2)) := by
    refine h.links ht (fun b hb => ?_) (fun b hb => hb.tie) (fun b i hi => tie_cell (by omega) (by omega)) ?_ hmem2
    · rcases hb with rfl | rfl
      · exact hp
      · exact hq
    · rw [e2]
      exact Ch_remove hch hd1 hd2
  refine ⟨hS1.below hb, ?_⟩
  have h2 : Only (LS base w) w (tie w p q) := ht.mono fun b _ hb => by
    rcases hb with rfl | rfl
    · exact h.ls_node hp
    · exact h.ls_node hq
  exact h2.trans (Only.of_below hb (LS base w)) fun b _ e => e
/-- x is laid in as the newest. -/
theorem St.added {m : Nat} {l : List En} {x : En} (h : St w base g mp n cs D nodes es (seqOf m l)) (hx : x.blk ∈ nodes) (hd : (m :: blks (x :: l)).Nodup) :
    ∃ q, Calls Try.prog 23 #[.agg #[.pointer (some ⟨m, 0, none⟩)], .pointer (some ⟨x.blk, 0, none⟩)] w (AddPost w m x.blk q) ∧
      ∀ w', Below (lay4 w m x.blk q).heap.size (lay4 w m x.blk q) w' → St w' base g mp n cs D nodes es (seqOf m (x :: l)) ∧ Only (LS base w) w w' := by
  obtain ⟨q, L2, hq⟩ : ∃ q L2, blks l ++ [m] = q :: L2 := by
    cases l with
    | nil => exact ⟨m, [], rfl⟩
    | cons a l => exact ⟨a.blk, blks l ++ [m], rfl⟩
  have e1 : seqOf m l = m :: q :: L2 := by unfold seqOf; rw [hq]
  have e2 : seqOf m (x :: l) = m :: x.blk :: q :: L2 := by
    have : seqOf m (x :: l) = m :: x.blk :: (blks l ++ [m]) := rfl
    rw [this, hq]
  have hch := h.ch
  have hrin := h.rin
  have hsd := seq_dropLast m (x :: l)
  have hst := seq_tail m (x :: l)
  rw [e1] at hch hrin
  rw [e2] at hsd hst
  have hd1 : (m :: x.blk :: q :: L2).dropLast.Nodup := by rw [hsd]; exact hd
  have hd2 : (m :: x.blk :: q :: L2).tail.Nodup := by rw [hst]; exact nodup_tail hd
  have hm := hrin m (by simp)
  have hqn := hrin q (by simp)
  have hmx : m ≠ x.blk := fun e => (List.nodup_cons.1 hd).1 (by rw [e]; exact List.mem_cons_self ..)
  have hqx : q ≠ x.blk := fun e => (List.nodup_cons.1 (show (x.blk :: q :: L2).Nodup from hd2)).1 (by rw [e]; simp)
  have hxf := (h.nds _ hx).1
  obtain ⟨u, hu⟩ := Option.isSome_iff_exists.1 (hxf.free 3 (by omega)).1
  obtain ⟨v, hv⟩ := Option.isSome_iff_exists.1 (hxf.free 2 (by omega)).1
  refine ⟨q, add_any m x.blk q w hch.1 hxf.free (h.nds m hm).1.free (h.nds q hqn).1.free (h.nds m hm).1.lt hxf.lt (h.nds q hqn).1.lt hmx hqx, fun w' hb => ?_⟩
  have ht := lay4_only w m x.blk q
  have hS1 : St (lay4 w m x.blk q) base g mp n cs D nodes es (seqOf m (x :: l)) := by
    refine h.links ht (fun b hb => ?_) (fun b hb => hb.lay4) (fun b i hi => lay4_cell (by omega) (by omega) (by omega)) ?_ ?_
    · rcases hb with rfl | rfl | rfl
      · exact hm
      · exact hx
      · exact hqn
    · rw [e2]
      exact Ch_add hch hu hv hd1 hd2 hmx
    · rw [e2]
      intro b hb
      rcases List.mem_cons.1 hb with rfl | hb
      · exact hm
      rcases List.mem_cons.1 hb with rfl | hb
      · exact hx
      · exact hrin b (List.mem_cons_of_mem _ hb)
  refine ⟨hS1.below hb, ?_⟩
  have h2 : Only (LS base w) w (lay4 w m x.blk q) := ht.mono fun b _ hb => by
    rcases hb with rfl | rfl | rfl
    · exact h.ls_node hm
    · exact h.ls_node hx
    · exact h.ls_node hqn
  exact h2.trans (Only.of_below hb (LS base w)) fun b _ e => e
end
end Go.Proofs.Ythbgijpakjfjkaa
