/- Layer 34: Put, up to its loop. -/
import Derived.Test.YthbgijpakjfjkaaLru5
namespace Go.Proofs.Ythbgijpakjfjkaa
open Go.RowKit
set_option linter.unusedVariables false
set_option maxRecDepth 100000

def wo (es : List En) (s : ByteArray) : List En := es.filter fun e => decide (kb e.key ≠ kb s)
theorem wo_none {es : List En} {s : ByteArray} (h : fnd es s = none) : wo es s = es := by
  unfold wo
  rw [List.filter_eq_self]
  intro e he
  simp
  intro e2
  exact fnd_none h (List.mem_map.2 ⟨e, he, e2⟩)
theorem wo_mid {l1 l2 : List En} {x : En} {s : ByteArray} (hk : (keysOf (l1 ++ x :: l2)).Nodup) (h : kb x.key = kb s) : wo (l1 ++ x :: l2) s = l1 ++ l2 := by
  have hn : fnd (l1 ++ l2) s = none := by rw [fnd_mid l1 l2 x s hk, if_pos h]
  have := wo_none hn
  unfold wo at this ⊢
  rw [List.filter_append] at this ⊢
  rw [List.filter_cons]
  simp [h]
  simpa using this
def evict (ent sz : Nat) : Nat → List En → List En
  | 0, es => es
  | f + 1, es => if ent < es.length ∨ sz < tot es then evict ent sz f es.dropLast else es
theorem evict_stop {ent sz f : Nat} {es : List En} (h1 : ¬ ent < es.length) (h2 : ¬ sz < tot es) : evict ent sz f es = es := by
  cases f with
  | zero => rfl
  | succ f => unfold evict; rw [if_neg (by omega)]
theorem evict_go {ent sz f : Nat} {es : List En} (h : ent < es.length ∨ sz < tot es) : evict ent sz (f + 1) es = evict ent sz f es.dropLast := by
  conv => lhs; unfold evict
  rw [if_pos h]
/-- How many there are, read off the memory. -/
def mu (g : Nat) (W : World) : Nat := match W.cell? ⟨g, 3, none⟩ with
  | some (.map (some b)) => match W.heap[b]? with
    | some (.map es _) => es.size
    | _ => 0
  | _ => 0
theorem Lru.mu {W : World} {base g ent sz h m : Nat} {es : List En} (H : Lru W base g ent sz h m es) : mu g W = es.length := by
  obtain ⟨mark, mp, n, D, hS, hM, _, _⟩ := H.ex
  have c3 : W.cell? ⟨g, 3, none⟩ = some (.map (some mp)) := by rw [hS.cache.cell]; rfl
  obtain ⟨es', clock, hb, F, _, rfl⟩ := hS.map
  have := hM.size
  unfold Go.Proofs.Ythbgijpakjfjkaa.mu
  rw [c3]
  simp only [hb]
  rw [← this]
  simp [Maps.size, length_sorted]
/-- The new one lies in memory. -/
theorem St.born {Y : World} {base g mp n : Nat} {cs : Array Value} {D : DataW Unit} {es : List En} {mark : Nat} (h : St Y base g mp n cs D (mark :: blks es) es (seqOf mark es)) (s : ByteArray) (v : Value) (bs : List Nat) (b0 : Nat) (hb0 : base ≤ b0) (hv : Own8 Y b0 v bs) (hlt : ∀ x ∈ bs, x < 256) :
    St (Y.alloc (.cells #[.string s, v, .pointer none, .pointer none] 63)) base g mp n cs D (Y.heap.size :: mark :: blks es) ((⟨Y.heap.size, s, v, bs⟩ : En) :: es) (seqOf mark es) := by
  have h1 := h.below (w' := Y.alloc (.cells #[.string s, v, .pointer none, .pointer none] 63)) ((Below.refl _ _).alloc (Nat.le_refl _) _)
  have hW : Whole (Y.alloc (.cells #[.string s, v, .pointer none, .pointer none] 63)) Y.heap.size 63 #[.string s, v, .pointer none, .pointer none] := Whole.new Y _ _
  have hbs : base ≤ Y.heap.size := Nat.le_trans h.lo.1 (Nat.le_of_lt h.cache.lt)
  refine ⟨h1.cache, h1.map, h1.ch, fun b hb => ?_, fun e he => ?_, h1.lo, fun b hb => List.mem_cons_of_mem _ (h1.rin b hb)⟩
  · rcases List.mem_cons.1 hb with rfl | hb
    · exact ⟨⟨_, hW, rfl⟩, hbs⟩
    · exact h1.nds b hb
  · rcases List.mem_cons.1 he with rfl | he
    · exact ⟨⟨by rw [hW.cell]; rfl, by rw [hW.cell]; rfl, (hv.lower hb0).alloc _, hlt⟩, List.mem_cons_self ..⟩
    · exact ⟨(h1.dat e he).1, List.mem_cons_of_mem _ (h1.dat e he).2⟩
/-- It stands in the map, in the ring, and in the count. -/
theorem St.done {Y : World} {base g mp n ent sz hh m mark : Nat} {D : DataW Unit} {es : List En} {x : En} (h : St Y base g mp n (cacheCells ent sz (tot (x :: es)) mp mark hh m) (D.put (kl x.key) (.lit (.int .i64 (x.blk : Int)))) (x.blk :: mark :: blks es) (x :: es) (seqOf mark (x :: es)))
    (hM : MapOK D es) (hx : fnd es x.key = none) (hN : (mark :: blks (x :: es)).Nodup) (hK : (keysOf es).Nodup) : Lru Y base g ent sz hh m (x :: es) := by
  refine ⟨mark, mp, n, _, ⟨h.cache, h.map, h.ch, fun b hb => h.nds b ?_, fun e he => ⟨(h.dat e he).1, ?_⟩, h.lo, fun b hb => seq_mem hb⟩, hM.put hx, hN, ?_⟩
  · unfold blks at hb ⊢
    simp at hb ⊢
    rcases hb with h | h | h
    · exact .inr (.inl h)
    · exact .inl h
    · exact .inr (.inr h)
  · unfold blks
    exact List.mem_cons_of_mem _ (List.mem_map_of_mem he)
  · unfold keysOf at hK ⊢
    rw [List.map_cons]
    exact List.nodup_cons.2 ⟨fnd_none hx, hK⟩
theorem blks_new {Y : World} {base g mp n : Nat} {cs : Array Value} {D : DataW Unit} {es : List En} {mark : Nat} {x : En} {ring : List Nat} (h : St Y base g mp n cs D (mark :: blks es) es ring) (hN : (mark :: blks es).Nodup) (hx : x.blk = Y.heap.size) : (mark :: blks (x :: es)).Nodup := by
  have hlt : ∀ b ∈ mark :: blks es, b ≠ x.blk := fun b hb e => by
    have := (h.nds b hb).1.lt
    omega
  have h2 : (x.blk :: mark :: blks es).Nodup := List.nodup_cons.2 ⟨fun hm => hlt _ hm rfl, hN⟩
  exact (List.Perm.swap mark x.blk (blks es)).nodup_iff.1 h2
/-- The oldest stands ahead of the mark. -/
theorem St.oldest {w : World} {base g mp n : Nat} {cs : Array Value} {D : DataW Unit} {nodes : List Nat} {es l : List En} {mark : Nat} {y : En} (h : St w base g mp n cs D nodes es (seqOf mark (l ++ [y]))) : w.cell? ⟨mark, 2, none⟩ = some (.pointer (some ⟨y.blk, 0, none⟩)) := by
  have hch := h.ch
  have : seqOf mark (l ++ [y]) = (mark :: blks l) ++ y.blk :: [mark] := by simp [seqOf, blks]
  rw [this] at hch
  exact ((Ch_split w _ _ _).1 hch).2.1.2
def PutNo (w : World) (e : Ending) (w' : World) : Prop := e = .returned (.bool false) ∧ w = w'
theorem put_nil (s : ByteArray) (v : Value) (w : World) : Calls Try.prog 13 #[.pointer none, .string s, v] w (PutNo w) := by
  go_enter Try.func13, Try.ntmps13
  go_wp2_with fail
  go_ret
  exact ⟨rfl, rfl⟩
set_option maxHeartbeats 4000000 in
theorem put_no (g base ent sz h m n c : Nat) (a : Option Addr) (es : List En) (s : ByteArray) (w : World) (H : Lru w base g ent sz h m es) (hs : s.size ≤ 1000000000) (hn : n ≤ 1000000000) (hno : ent = 0 ∨ sz < s.size + n) :
    Calls Try.prog 13 #[.pointer (some ⟨g, 0, none⟩), .string s, .slice a n c] w (PutNo w) := by
  obtain ⟨mark, mp, n', D, hS, hM, hN, hKy⟩ := H.ex
  have c0 : w.cell? ⟨g, 0, none⟩ = some (.int .i64 (ent : Int)) := by rw [hS.cache.cell]; rfl
  have c1 : w.cell? ⟨g, 1, none⟩ = some (.int .i64 (sz : Int)) := by rw [hS.cache.cell]; rfl
  clear hS hM hN hKy H
  by_cases h0 : ent = 0
  · subst h0
    go_enter Try.func13, Try.ntmps13
    go_wp2_with fail
    go_ret
    exact ⟨rfl, rfl⟩
  · have d0 : decide ((ent : Int) = 0) = false := decide_eq_false (by omega)
    have d1 : decide ((sz : Int) < ((s.size : Int) + (n : Int))) = true := decide_eq_true (by omega)
    go_enter Try.func13, Try.ntmps13
    go_wp2_with fail
    go_ret
    exact ⟨rfl, rfl⟩
end Go.Proofs.Ythbgijpakjfjkaa
