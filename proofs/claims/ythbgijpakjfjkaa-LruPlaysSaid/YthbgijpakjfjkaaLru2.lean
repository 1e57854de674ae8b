/- Layer 34: what the cache is in memory; New, drop. -/
import Derived.Test.YthbgijpakjfjkaaLru1
namespace Go.Proofs.Ythbgijpakjfjkaa
open Go.RowKit
set_option linter.unusedVariables false
set_option maxRecDepth 100000

/-- One that is kept: its node, its key, its bytes. -/
structure En where
  blk : Nat
  key : ByteArray
  v : Value
  bs : List Nat
def En.size (e : En) : Nat := e.key.size + e.bs.length
def tot (es : List En) : Nat := (es.map En.size).sum
def blks (es : List En) : List Nat := es.map En.blk
def kb (s : ByteArray) : List UInt8 := s.data.toList
def kl (s : ByteArray) : Lit := .string (kb s)
def fnd (es : List En) (s : ByteArray) : Option En := es.find? fun e => decide (kb e.key = kb s)

/-- How a pointer to a node reads, in the map. -/
def RP (v : Value) : Option (DataW Unit × List MemPlace) := match v with
  | .pointer none => some (.lit (.bool false), [])
  | .pointer (some ⟨b, 0, none⟩) => some (.lit (.int .i64 (b : Int)), [])
  | _ => none
theorem RP_nil : RP (.pointer none) = some (.lit (.bool false), []) := rfl
theorem RP_ptr (b : Nat) : RP (.pointer (some ⟨b, 0, none⟩)) = some (.lit (.int .i64 (b : Int)), []) := rfl
theorem RP_inv {v : Value} {b : Nat} {ps : List MemPlace} (h : RP v = some (.lit (.int .i64 (b : Int)), ps)) : v = .pointer (some ⟨b, 0, none⟩) := by
  unfold RP at h
  split at h
  · cases h
  · next b' =>
    injection h with h
    injection h with h1 _
    injection h1 with h1
    injection h1 with _ h1
    have : b' = b := by omega
    rw [this]
  · cases h
theorem RP_no {v : Value} {ps : List MemPlace} (h : RP v = some (.lit (.bool false), ps)) : v = .pointer none := by
  unfold RP at h
  split at h
  · rfl
  · injection h with h
    injection h with h1 _
    injection h1 with h1
    cases h1
  · cases h

/-- The map tells where each key's node is. -/
structure MapOK (D : DataW Unit) (es : List En) : Prop where
  tidy : Maps.Tidy D
  at_ : ∀ s, D.atKey (kl s) (.lit (.bool false)) = match fnd es s with | some e => .lit (.int .i64 (e.blk : Int)) | none => .lit (.bool false)
  has : ∀ s, Maps.has D (kl s) = (fnd es s).isSome
  size : Maps.size D = es.length

theorem fnd_cons (e : En) (es : List En) (s : ByteArray) : fnd (e :: es) s = if kb e.key = kb s then some e else fnd es s := by
  unfold fnd
  rw [List.find?_cons]
  by_cases h : kb e.key = kb s
  · rw [if_pos h]; simp [h]
  · rw [if_neg h]; simp [h]
def keysOf (es : List En) : List (List UInt8) := es.map fun e => kb e.key
theorem fnd_some {es : List En} {s : ByteArray} {e : En} (h : fnd es s = some e) : e ∈ es ∧ kb e.key = kb s := by
  unfold fnd at h
  have h2 := List.find?_some h
  simp at h2
  exact ⟨List.mem_of_find?_eq_some h, h2⟩
theorem fnd_none {es : List En} {s : ByteArray} (h : fnd es s = none) : kb s ∉ keysOf es := by
  unfold fnd at h
  intro hm
  obtain ⟨e, he, h2⟩ := List.mem_map.1 hm
  have := List.find?_eq_none.1 h e he
  simp [h2] at this
theorem fnd_not {es : List En} {s : ByteArray} (h : kb s ∉ keysOf es) : fnd es s = none := by
  unfold fnd
  rw [List.find?_eq_none]
  intro e he
  simp
  intro h2
  exact h (List.mem_map.2 ⟨e, he, h2⟩)
/-- One is taken out of the list. -/
theorem fnd_mid (l1 l2 : List En) (x : En) (s : ByteArray) (hk : (keysOf (l1 ++ x :: l2)).Nodup) : fnd (l1 ++ l2) s = if kb x.key = kb s then none else fnd (l1 ++ x :: l2) s := by
  by_cases h : kb x.key = kb s
  · rw [if_pos h]
    apply fnd_not
    unfold keysOf at hk ⊢
    rw [List.map_append, List.map_cons] at hk
    rw [List.map_append, List.mem_append]
    obtain ⟨h1, h2, h3⟩ := List.nodup_append.1 hk
    rintro (hm | hm)
    · exact h3 _ hm _ (List.mem_cons_self ..) h.symm
    · exact (List.nodup_cons.1 h2).1 (by rw [h]; exact hm)
  · rw [if_neg h]
    unfold fnd
    rw [List.find?_append, List.find?_append, List.find?_cons]
    simp [h]
theorem kl_inj {s t : ByteArray} (h : kb s ≠ kb t) : kl s ≠ kl t := fun e => h (by unfold kl at e; injection e)
theorem kl_key (s : ByteArray) : WideAt.IsKeyLit (kl s) := by
  unfold kl WideAt.IsKeyLit
  trivial
theorem tot_mid (l1 l2 : List En) (x : En) : tot (l1 ++ x :: l2) = tot (l1 ++ l2) + x.size := by
  unfold tot
  simp only [List.map_append, List.map_cons, List.sum_append, List.sum_cons]
  omega
theorem MapOK.del {D : DataW Unit} {l1 l2 : List En} {x : En} (h : MapOK D (l1 ++ x :: l2)) (hk : (keysOf (l1 ++ x :: l2)).Nodup) : MapOK (D.del (kl x.key)) (l1 ++ l2) := by
  have hx : fnd (l1 ++ x :: l2) x.key ≠ none := by
    intro h2
    have := fnd_none h2
    exact this (by unfold keysOf; simp)
  refine ⟨h.tidy.del _, fun s => ?_, fun s => ?_, ?_⟩
  · rw [fnd_mid l1 l2 x s hk]
    by_cases e : kb x.key = kb s
    · rw [if_pos e, show kl s = kl x.key from by unfold kl; rw [e], Maps.atKey_del_same]
    · rw [if_neg e, Maps.atKey_del_other (kl_inj (fun h2 => e h2.symm)), h.at_ s]
  · rw [fnd_mid l1 l2 x s hk]
    by_cases e : kb x.key = kb s
    · rw [if_pos e, show kl s = kl x.key from by unfold kl; rw [e], Maps.has_del_same]; rfl
    · rw [if_neg e, Maps.has_del_other (kl_inj (fun h2 => e h2.symm)), h.has s]
  · have h1 := Maps.size_del (k := kl x.key) h.tidy
    have h2 : Maps.has D (kl x.key) = true := by
      rw [h.has]
      cases h9 : fnd (l1 ++ x :: l2) x.key with
      | none => exact absurd h9 hx
      | some e => rfl
    rw [h2, if_pos rfl, h.size] at h1
    simp at h1 ⊢
    omega
theorem MapOK.put {D : DataW Unit} {es : List En} {x : En} (h : MapOK D es) (hx : fnd es x.key = none) : MapOK (D.put (kl x.key) (.lit (.int .i64 (x.blk : Int)))) (x :: es) := by
  refine ⟨h.tidy.put (kl_key _) _, fun s => ?_, fun s => ?_, ?_⟩
  · rw [fnd_cons]
    by_cases e : kb x.key = kb s
    · rw [if_pos e, show kl s = kl x.key from by unfold kl; rw [e], Maps.atKey_put_same h.tidy.isMap (kl_key _)]
    · rw [if_neg e, Maps.atKey_put_other (kl_inj (fun h2 => e h2.symm)), h.at_ s]
  · rw [fnd_cons]
    by_cases e : kb x.key = kb s
    · rw [if_pos e, show kl s = kl x.key from by unfold kl; rw [e], Maps.has_put_same h.tidy.isMap (kl_key _)]; rfl
    · rw [if_neg e, Maps.has_put_other (kl_inj (fun h2 => e h2.symm)), h.has s]
  · rw [Maps.size_put h.tidy, h.has, hx]
    simp [h.size]
theorem mapOK_nil : MapOK (.map []) [] := ⟨Maps.tidy_empty, fun s => rfl, fun s => rfl, rfl⟩

/-- Its key and its bytes lie where they should. -/
structure Dat (w : World) (base : Nat) (e : En) : Prop where
  key : w.cell? ⟨e.blk, 0, none⟩ = some (.string e.key)
  val : w.cell? ⟨e.blk, 1, none⟩ = some e.v
  own : Own8 w base e.v e.bs
  lt : ∀ x ∈ e.bs, x < 256

/-- What stands where. -/
structure St (w : World) (base g mp n : Nat) (cs : Array Value) (D : DataW Unit) (nodes : List Nat) (es : List En) (ring : List Nat) : Prop where
  cache : Whole w g 58 cs
  map : w.ownsMap Try.prog 9 RP mp n D
  ch : Ch w ring
  nds : ∀ b ∈ nodes, NodeW w b ∧ base ≤ b
  dat : ∀ e ∈ es, Dat w base e ∧ e.blk ∈ nodes
  lo : base ≤ g ∧ base ≤ mp
  rin : ∀ b ∈ ring, b ∈ nodes
theorem own8_type {w : World} {base b : Nat} {v : Value} {l : List Nat} (h : Own8 w base v l) (hb : v.ownBlock = some b) : ∃ cs, w.heap[b]? = some (.cells cs 5 (0, 0)) := by
  obtain ⟨_, (⟨rfl, _⟩ | ⟨k, cap, cur, rfl, _, hh, _⟩)⟩ := h
  · cases hb
  · injection hb with hb
    subst hb
    exact ⟨cur, hh⟩
theorem cells_inj {w : World} {b : Nat} {cs cs' : Array Value} {t t' : TypeId} {f f' : Nat × Nat} (h : w.heap[b]? = some (.cells cs t f)) (h' : w.heap[b]? = some (.cells cs' t' f')) : t = t' := by
  rw [h] at h'
  injection h' with h'
  injection h' with _ h2 _
theorem map_cells {w : World} {b n : Nat} {D : DataW Unit} {cs : Array Value} {t : TypeId} {f : Nat × Nat} (h : w.ownsMap Try.prog 9 RP b n D) (h' : w.heap[b]? = some (.cells cs t f)) : False := by
  obtain ⟨es, cl, hh, _⟩ := h
  rw [hh] at h'
  injection h' with h'
  cases h'
section
variable {w w' : World} {base g mp n : Nat} {cs : Array Value} {D : DataW Unit} {nodes : List Nat} {es : List En} {ring : List Nat}
theorem St.g_node (h : St w base g mp n cs D nodes es ring) {b : Nat} (hb : b ∈ nodes) : g ≠ b := fun e => by
  obtain ⟨⟨cs', h1, _⟩, _⟩ := h.nds b hb
  subst e
  have := cells_inj h.cache h1
  exact absurd this (by decide)
theorem St.mp_node (h : St w base g mp n cs D nodes es ring) {b : Nat} (hb : b ∈ nodes) : mp ≠ b := fun e => by
  obtain ⟨⟨cs', h1, _⟩, _⟩ := h.nds b hb
  subst e
  exact map_cells h.map h1
theorem St.mp_g (h : St w base g mp n cs D nodes es ring) : mp ≠ g := fun e => by
  subst e
  exact map_cells h.map h.cache
theorem ownsMap_only {S : Nat → Prop} {b n : Nat} {D : DataW Unit} (h : w.ownsMap Try.prog 9 RP b n D) (ho : Only S w w') (hn : ¬ S b) : w'.ownsMap Try.prog 9 RP b n D := by
  obtain ⟨es, cl, hh, r⟩ := h
  exact ⟨es, cl, (ho.block b (Array.getElem?_eq_some_iff.1 hh).1 hn).trans hh, r⟩
/-- A node's links turn. -/
theorem St.links (h : St w base g mp n cs D nodes es ring) {S : Nat → Prop} {ring' : List Nat} (ho : Only S w w') (hS : ∀ b, S b → b ∈ nodes) (hN : ∀ b, NodeW w b → NodeW w' b) (h01 : ∀ b i, i < 2 → w'.cell? ⟨b, i, none⟩ = w.cell? ⟨b, i, none⟩) (hc : Ch w' ring') (hrin : ∀ b ∈ ring', b ∈ nodes) :
    St w' base g mp n cs D nodes es ring' := by
  refine ⟨h.cache.only ho (fun e => h.g_node (hS _ e) rfl), ownsMap_only h.map ho (fun e => h.mp_node (hS _ e) rfl), hc, fun b hb => ⟨hN b (h.nds b hb).1, (h.nds b hb).2⟩, fun e he => ⟨?_, (h.dat e he).2⟩, h.lo, hrin⟩
  have hd := (h.dat e he).1
  refine ⟨(h01 _ 0 (by omega)).trans hd.key, (h01 _ 1 (by omega)).trans hd.val, hd.own.only ho (fun b hb e2 => ?_), hd.lt⟩
  obtain ⟨cs1, h1⟩ := own8_type hd.own hb
  obtain ⟨⟨cs2, h2, _⟩, _⟩ := h.nds b (hS b e2)
  exact absurd (cells_inj h1 h2) (by decide)
theorem St.below (h : St w base g mp n cs D nodes es ring) (hb : Below w.heap.size w w') : St w' base g mp n cs D nodes es ring := by
  have ho := Only.of_below hb (fun _ => False)
  have hcell : ∀ (p : Addr) (u : Value), w.cell? p = some u → w'.cell? p = some u := fun p u hu => (hb.cell (block_lt_of_cell hu)).trans hu
  refine ⟨h.cache.below hb h.cache.lt, ownsMap_only h.map ho (fun e => e), ?_, fun b hb2 => ⟨(h.nds b hb2).1.below hb, (h.nds b hb2).2⟩, fun e he => ⟨⟨hcell _ _ (h.dat e he).1.key, hcell _ _ (h.dat e he).1.val, (h.dat e he).1.own.below hb, (h.dat e he).1.lt⟩, (h.dat e he).2⟩, h.lo, h.rin⟩
  have go : ∀ l : List Nat, Ch w l → Ch w' l := by
    intro l
    induction l with
    | nil => intro _; trivial
    | cons p l ih =>
      cases l with
      | nil => intro _; trivial
      | cons q r => exact fun hh => ⟨⟨hcell _ _ hh.1.1, hcell _ _ hh.1.2⟩, ih hh.2⟩
  exact go ring h.ch
theorem St.drewN (h : St w base g mp n cs D nodes es ring) (k : Nat) : St (w.drewN k) base g mp n cs D nodes es ring := h.below ⟨rfl, rfl, rfl, Nat.le_refl _, fun _ _ => rfl⟩
/-- A block that is no node turns: the cache's own, or the map. -/
theorem St.other (h : St w base g mp n cs D nodes es ring) {c : Nat} {cs' : Array Value} {n' : Nat} {D' : DataW Unit} (ho : Only (fun b => b = c) w w') (hc : c = g ∨ c = mp) (hW : Whole w' g 58 cs') (hM : w'.ownsMap Try.prog 9 RP mp n' D') :
    St w' base g mp n' cs' D' nodes es ring := by
  have hnode : ∀ b ∈ nodes, ¬ b = c := fun b hb e => by
    rcases hc with e2 | e2
    · exact h.g_node hb (by rw [← e2, e])
    · exact h.mp_node hb (by rw [← e2, e])
  have hblk : ∀ b ∈ nodes, w'.heap[b]? = w.heap[b]? := fun b hb => ho.block b (h.nds b hb).1.lt (hnode b hb)
  have hcell : ∀ b ∈ nodes, ∀ i, w'.cell? ⟨b, i, none⟩ = w.cell? ⟨b, i, none⟩ := fun b hb i => World.cell?_of_block (w := w) (hblk b hb)
  refine ⟨hW, hM, ?_, fun b hb => ⟨(h.nds b hb).1.block (hblk b hb), (h.nds b hb).2⟩, fun e he => ⟨⟨(hcell _ (h.dat e he).2 0).trans (h.dat e he).1.key, (hcell _ (h.dat e he).2 1).trans (h.dat e he).1.val, ?_, (h.dat e he).1.lt⟩, (h.dat e he).2⟩, h.lo, h.rin⟩
  · have hcl : ∀ (p : Addr) (u : Value), w.cell? p = some u → p.block ≠ c → w'.cell? p = some u := fun p u hu hne => (ho.cell (block_lt_of_cell hu) hne).trans hu
    have go : ∀ l : List Nat, (∀ b ∈ l, b ∈ nodes) → Ch w l → Ch w' l := by
      intro l
      induction l with
      | nil => intro _ _; trivial
      | cons p l ih =>
        cases l with
        | nil => intro _ _; trivial
        | cons q r =>
          intro hm hh
          exact ⟨⟨(hcell p (hm p (by simp)) 3).trans hh.1.1, (hcell q (hm q (by simp)) 2).trans hh.1.2⟩, ih (fun b hb => hm b (List.mem_cons_of_mem _ hb)) hh.2⟩
    exact go ring h.rin h.ch
  · refine (h.dat e he).1.own.only ho (fun b hb e2 => ?_)
    obtain ⟨cs1, h1⟩ := own8_type (h.dat e he).1.own hb
    rcases hc with e3 | e3
    · rw [e2, e3] at h1; exact absurd (cells_inj h1 h.cache) (by decide)
    · rw [e2, e3] at h1; exact map_cells h.map h1
end

def cacheCells (ent sz t mp mark h m : Nat) : Array Value := #[.int .i64 (ent : Int), .int .i64 (sz : Int), .int .i64 (t : Int), .map (some mp), .pointer (some ⟨mark, 0, none⟩), .int .i64 (h : Int), .int .i64 (m : Int)]
def seqOf (mark : Nat) (es : List En) : List Nat := mark :: (blks es ++ [mark])
/-- The cache that lies at block g. -/
structure Lru (w : World) (base g ent sz h m : Nat) (es : List En) : Prop where
  ex : ∃ (mark mp n : Nat) (D : DataW Unit), St w base g mp n (cacheCells ent sz (tot es) mp mark h m) D (mark :: blks es) es (seqOf mark es) ∧ MapOK D es ∧ (mark :: blks es).Nodup ∧ (keysOf es).Nodup
theorem Lru.start {w X X2 : World} {m : Nat} {ent sz : Nat} (hm : (w.alloc (.map #[] 0)).heap.size ≤ m) (hB : Below (w.alloc (.map #[] 0)).heap.size (w.alloc (.map #[] 0)) X)
    (hW : Whole X m 63 #[.string ByteArray.empty, .slice none 0 0, .pointer (some ⟨m, 0, none⟩), .pointer (some ⟨m, 0, none⟩)])
    (h2 : X2 = X.alloc (.cells #[.int .i64 (ent : Int), .int .i64 (sz : Int), .int .i64 0, .map (some w.heap.size), .pointer (some ⟨m, 0, none⟩), .int .i64 0, .int .i64 0] 58)) :
    Lru X2 w.heap.size X.heap.size ent sz 0 0 [] ∧ Below w.heap.size w X2 := by
  have hs : (w.alloc (.map #[] 0)).heap.size = w.heap.size + 1 := by simp
  have hown : X.ownsMap Try.prog 9 RP w.heap.size 0 (.map []) := by
    obtain ⟨es, cl, h, r⟩ := World.ownsMap_made (H := Unit) w Try.prog 9 RP
    exact ⟨es, cl, (hB.block w.heap.size (by omega)).trans h, r⟩
  have hWm : Whole X2 m 63 #[.string ByteArray.empty, .slice none 0 0, .pointer (some ⟨m, 0, none⟩), .pointer (some ⟨m, 0, none⟩)] := by rw [h2]; exact hW.alloc _
  have hXs : w.heap.size + 1 ≤ X.heap.size := by have := hB.size; omega
  refine ⟨⟨m, w.heap.size, 0, .map [], ⟨?_, ?_, ?_, ?_, ?_, ⟨by omega, Nat.le_refl _⟩, fun b hb => by simpa [seqOf, blks] using hb⟩, mapOK_nil, by simp [blks], by simp [keysOf]⟩, ?_⟩
  · rw [h2]; exact Whole.new X _ _
  · rw [h2]; exact hown.alloc _
  · exact ⟨⟨by rw [hWm.cell]; rfl, by rw [hWm.cell]; rfl⟩, trivial⟩
  · intro b hb
    have : b = m := by simpa [blks] using hb
    subst this
    exact ⟨⟨_, hWm, rfl⟩, by omega⟩
  · intro e he; cases he
  · rw [h2]
    exact ((((Below.refl _ _).alloc (Nat.le_refl _) _).trans (hB.mono (by omega))).alloc (by omega) _)
def NewPost (w : World) (ent sz : Nat) (e : Ending) (w' : World) : Prop := ∃ g, e = .returned (.pointer (some ⟨g, 0, none⟩)) ∧ Lru w' w.heap.size g ent sz 0 0 [] ∧ Below w.heap.size w w'
set_option maxHeartbeats 4000000 in
theorem new_any (ent sz : Int) (en sn : Nat) (w : World) (he : ent ≤ 0 ∧ en = 0 ∨ ent = en ∧ 0 < en) (hs : sz ≤ 0 ∧ sn = 0 ∨ sz = sn ∧ 0 < sn) :
    Calls Try.prog 8 #[.int .i64 ent, .int .i64 sz] w (NewPost w en sn) := by
  have Hr := Lib.hid newRing_any
  have hmm := @run_makeMap Try.prog
  rcases he with ⟨h1, rfl⟩ | ⟨rfl, h1⟩ <;> rcases hs with ⟨h2, rfl⟩ | ⟨rfl, h2⟩
  · have d1 : ¬ 0 < ent := by omega
    have d2 : ¬ 0 < sz := by omega
    go_enter Try.func8, Try.ntmps8
    go_wp2_with fail
    refine (Hr.out _).mono ?_
    rintro e X ⟨m, rfl, hm, hW, hB⟩
    have HS := Lib.hid fun X2 h2 => Lru.start (X2 := X2) (ent := 0) (sz := 0) hm hB hW h2
    clear hm hW hB
    go_wp2_with fail
    go_ret
    exact ⟨_, rfl, HS.out _ rfl⟩
  · have d1 : ¬ 0 < ent := by omega
    have d2 : (0 : Int) < (sn : Int) := by omega
    go_enter Try.func8, Try.ntmps8
    go_wp2_with fail
    refine (Hr.out _).mono ?_
    rintro e X ⟨m, rfl, hm, hW, hB⟩
    have HS := Lib.hid fun X2 h2 => Lru.start (X2 := X2) (ent := 0) (sz := sn) hm hB hW h2
    clear hm hW hB
    go_wp2_with fail
    go_ret
    exact ⟨_, rfl, HS.out _ rfl⟩
  · have d1 : (0 : Int) < (en : Int) := by omega
    have d2 : ¬ 0 < sz := by omega
    go_enter Try.func8, Try.ntmps8
    go_wp2_with fail
    refine (Hr.out _).mono ?_
    rintro e X ⟨m, rfl, hm, hW, hB⟩
    have HS := Lib.hid fun X2 h2 => Lru.start (X2 := X2) (ent := en) (sz := 0) hm hB hW h2
    clear hm hW hB
    go_wp2_with fail
    go_ret
    exact ⟨_, rfl, HS.out _ rfl⟩
  · have d1 : (0 : Int) < (en : Int) := by omega
    have d2 : (0 : Int) < (sn : Int) := by omega
    go_enter Try.func8, Try.ntmps8
    go_wp2_with fail
    refine (Hr.out _).mono ?_
    rintro e X ⟨m, rfl, hm, hW, hB⟩
    have HS := Lib.hid fun X2 h2 => Lru.start (X2 := X2) (ent := en) (sz := sn) hm hB hW h2
    clear hm hW hB
    go_wp2_with fail
    go_ret
    exact ⟨_, rfl, HS.out _ rfl⟩
end Go.Proofs.Ythbgijpakjfjkaa
