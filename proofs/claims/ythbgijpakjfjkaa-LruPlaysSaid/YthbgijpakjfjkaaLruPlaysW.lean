/- Layer 34: the walk of LruPlays. -/
import Derived.Test.YthbgijpakjfjkaaLruRef5
import Derived.Test.YthbgijpakjfjkaaLruCor
import Derived.Test.YthbgijpakjfjkaaLru10
import Derived.Test.YthbgijpakjfjkaaHeld
import Derived.Deep.OwnRows
import Derived.Deep.DeepCutAuto
import Derived.Deep.CutBlock
namespace Go.Proofs.Ythbgijpakjfjkaa
open Go.RowKit
set_option linter.unusedVariables false
set_option maxRecDepth 100000

theorem bulk_le2 (l : List Ac) (k : Nat) : bulk (l.take k) ≤ bulk l := by
  have e : l.take k ++ l.drop k = l := List.take_append_drop k l
  have : bulk l = bulk (l.take k) + bulk (l.drop k) := by
    conv => lhs; rw [← e]
    unfold bulk
    rw [List.map_append, List.sum_append]
  omega
theorem below_undrew {w Y : World} {k : Nat} (h : Below (w.drewN k).heap.size (w.drewN k) Y) : Below w.heap.size w Y := ⟨h.os, h.tape, h.output, h.size, h.block⟩
theorem not_ls {w : World} {base b : Nat} {cs : Array Value} {t : TypeId} (h : w.heap[b]? = some (.cells cs t (0, 0))) (h1 : t ≠ 58) (h2 : t ≠ 63) : ¬ LS base w b := fun hl => by
  rcases hl.2 with ⟨es, cl, h3⟩ | ⟨cs', t', f', h3, ht⟩
  · rw [h] at h3; injection h3 with h3; cases h3
  · have e := cells_inj h h3
    subst e
    exact ht.elim h1 h2
theorem whole_ls2 {w w' : World} {base b : Nat} {t : TypeId} {cs : Array Value} (h : Whole w b t cs) (ho : Only (LS base w) w w') (h1 : t ≠ 58) (h2 : t ≠ 63) : Whole w' b t cs := h.only ho (not_ls h h1 h2)
theorem own_ent_ls {w w' : World} {b0 base n : Nat} {v : Value} {xs : List Value} (h : w.ownsRow b0 43 2 v n xs) (ho : Only (LS base w) w w') : w'.ownsRow b0 43 2 v n xs := by
  refine own_only h ho (fun b hb => ?_)
  obtain ⟨cs, h1⟩ := own_ent_type h hb
  exact not_ls h1 (by decide) (by decide)
/-- Blocks of other types turn: the cache stands. -/
theorem Lru.typed {w w' : World} {base g ent sz h m : Nat} {es : List En} (H : Lru w base g ent sz h m es) {S : Nat → Prop} (ho : Only S w w') (hS : ∀ b, S b → ∃ cs t f, w.heap[b]? = some (.cells cs t f) ∧ t ≠ 58 ∧ t ≠ 63 ∧ t ≠ 5) : Lru w' base g ent sz h m es := by
  obtain ⟨mark, mp, n, D, hs, r⟩ := H.ex
  have hnode : ∀ b ∈ (mark :: blks es), ¬ S b := fun b hb e => by
    obtain ⟨cs, t, f, h1, _, h3, _⟩ := hS b e
    obtain ⟨⟨cs', h2, _⟩, _⟩ := hs.nds b hb
    exact h3 (cells_inj h1 h2)
  have hg : ¬ S g := fun e => by
    obtain ⟨cs, t, f, h1, h2, _⟩ := hS g e
    exact h2 (cells_inj h1 hs.cache)
  have hm : ¬ S mp := fun e => by
    obtain ⟨cs, t, f, h1, _⟩ := hS mp e
    exact map_cells hs.map h1
  have hcell : ∀ b ∈ (mark :: blks es), ∀ i, w'.cell? ⟨b, i, none⟩ = w.cell? ⟨b, i, none⟩ := fun b hb i => World.cell?_of_block (w := w) (ho.block b (hs.nds b hb).1.lt (hnode b hb))
  refine ⟨mark, mp, n, D, ⟨hs.cache.only ho hg, ownsMap_only hs.map ho hm, ?_, fun b hb => ⟨(hs.nds b hb).1.block (ho.block b (hs.nds b hb).1.lt (hnode b hb)), (hs.nds b hb).2⟩, fun e he => ⟨⟨(hcell _ (hs.dat e he).2 0).trans (hs.dat e he).1.key, (hcell _ (hs.dat e he).2 1).trans (hs.dat e he).1.val, ?_, (hs.dat e he).1.lt⟩, (hs.dat e he).2⟩, hs.lo, hs.rin⟩, r⟩
  · have go : ∀ l : List Nat, (∀ b ∈ l, b ∈ mark :: blks es) → Ch w l → Ch w' l := by
      intro l
      induction l with
      | nil => intro _ _; trivial
      | cons p l ih =>
        cases l with
        | nil => intro _ _; trivial
        | cons q r =>
          intro hm hh
          exact ⟨⟨(hcell p (hm p (by simp)) 3).trans hh.1.1, (hcell q (hm q (by simp)) 2).trans hh.1.2⟩, ih (fun b hb => hm b (List.mem_cons_of_mem _ hb)) hh.2⟩
    exact go _ hs.rin hs.ch
  · refine (hs.dat e he).1.own.only ho (fun b hb e2 => ?_)
    obtain ⟨cs1, h1⟩ := own8_type (hs.dat e he).1.own hb
    obtain ⟨cs, t, f, h2, _, _, h3⟩ := hS b e2
    exact h3 (cells_inj h2 h1)
def rcache (a : Option Addr) (n c en sn hh mm : Nat) : Array Value := #[.slice a n c, .int .i64 (en : Int), .int .i64 (sn : Int), .int .i64 (hh : Int), .int .i64 (mm : Int)]
/-- The cache and the reference's, side by side. -/
structure Pl (w W : World) (g b8 en sn : Nat) (es : List En) (rl : List REn) (a : Option Addr) (c hh mm : Nat) : Prop where
  lru : Lru W w.heap.size g en sn hh mm es
  cor : Cor es rl
  own : W.ownsRow w.heap.size 43 2 (.slice a rl.length c) rl.length (rcells rl)
  r : Whole W b8 29 (rcache a rl.length c en sn hh mm)
  by_ : RBy W w.heap.size rl
  lo : w.heap.size ≤ b8
  bel : Below w.heap.size w W
section
variable {w W W' : World} {g b8 en sn c hh mm : Nat} {es : List En} {rl : List REn} {a : Option Addr}
theorem Pl.below (H : Pl w W g b8 en sn es rl a c hh mm) (hb : Below W.heap.size W W') : Pl w W' g b8 en sn es rl a c hh mm :=
  ⟨H.lru.below hb, H.cor, own_only H.own (Only.of_below hb (fun _ => False)) (fun _ _ h => h), H.r.below hb H.r.lt, H.by_.below (hb.mono H.bel.size), H.lo, H.bel.trans (hb.mono H.bel.size)⟩
theorem Pl.drewN (H : Pl w W g b8 en sn es rl a c hh mm) (k : Nat) : Pl w (W.drewN k) g b8 en sn es rl a c hh mm := H.below ⟨rfl, rfl, rfl, Nat.le_refl _, fun _ _ => rfl⟩
theorem Pl.strs (H : Pl w W g b8 en sn es rl a c hh mm) {S : Nat → Prop} (ho : Only S W W') (hS : ∀ b, S b → ∃ cs f, W.heap[b]? = some (.cells cs 9 f)) (hlo : ∀ b, S b → w.heap.size ≤ b) : Pl w W' g b8 en sn es rl a c hh mm := by
  have hb : Below w.heap.size W W' := ho.below (fun b hb e => by have := hlo b e; omega) H.bel.size
  refine ⟨H.lru.strs ho hS, H.cor, own_only H.own ho (fun b hb e => ?_), H.r.only ho (fun e => ?_), H.by_.below hb, H.lo, H.bel.trans hb⟩
  · obtain ⟨cs, f, h1⟩ := hS b e
    obtain ⟨cs2, h2⟩ := own_ent_type H.own hb
    exact absurd (cells_inj h1 h2) (by decide)
  · obtain ⟨cs, f, h1⟩ := hS b8 e
    exact absurd (cells_inj h1 H.r) (by decide)
theorem Pl.vals (H : Pl w W g b8 en sn es rl a c hh mm) : Vals W W.heap.size 2 a rl.length (rcells rl) := by
  obtain ⟨a', c', e, _, _, h3⟩ := Vals.of_own H.own
  injection e with e1 e2 e3
  subst e1 e3
  exact h3
theorem Pl.cap (H : Pl w W g b8 en sn es rl a c hh mm) : rl.length ≤ c ∧ c ≤ maxLen := by
  obtain ⟨a', c', e, h1, h2, _⟩ := Vals.of_own H.own
  injection e with e1 e2 e3
  subst e1 e3
  exact ⟨h1, h2⟩
end
def PlB (l : List Ac) (k : Nat) (es : List En) (hh mm : Nat) : Prop := es.length ≤ k ∧ tot es ≤ bulk (l.take k) ∧ hh ≤ k ∧ mm ≤ k
theorem evictR_sub (ent sz : Nat) : ∀ (f : Nat) (l : List REn), ∀ r ∈ evictR ent sz f l, r ∈ l
  | 0, _, _, h => h
  | f + 1, l, r, h => by
    unfold evictR at h
    split at h
    · exact List.dropLast_subset _ (evictR_sub ent sz f _ r h)
    · exact h
theorem Lru.keys {W : World} {base g ent sz h m : Nat} {es : List En} (H : Lru W base g ent sz h m es) : (keysOf es).Nodup := by
  obtain ⟨mark, mp, n, D, hS, hM, hN, hKy⟩ := H.ex
  exact hKy
theorem cor_hit {es : List En} {rl : List REn} {s : ByteArray} {x : En} (hc : Cor es rl) (hk : (keysOf es).Nodup) (hf : fnd es s = some x) :
    ∃ l1 l2 n, ∃ hn : n < rl.length, es = l1 ++ x :: l2 ∧ (∀ j (hj : j < rl.length), j < n → kb (rl[j]'hj).key ≠ kb s) ∧ kb (rl[n]'hn).key = kb s ∧ x.key = (rl[n]'hn).key ∧ x.bs = (rl[n]'hn).bs ∧ Cor (x :: (l1 ++ l2)) (rl[n]'hn :: rwo rl s) := by
  obtain ⟨hx, hxk⟩ := fnd_some hf
  obtain ⟨l1, l2, rfl⟩ := List.append_of_mem hx
  obtain ⟨r1, r, r2, rfl, c1, k1, k2, c2⟩ := Cor.split hc
  have hn1 : fnd l1 s = none := by
    apply fnd_not
    unfold keysOf at hk ⊢
    rw [List.map_append, List.map_cons] at hk
    obtain ⟨h1, h2, h3⟩ := List.nodup_append.1 hk
    exact fun hm => h3 _ hm _ (List.mem_cons_self ..) hxk.symm
  have hno := Cor.none s c1 hn1
  have hr : (r1 ++ r :: r2)[r1.length]'(by simp) = r := by simp
  refine ⟨l1, l2, r1.length, by simp, rfl, fun j hj hlt => ?_, ?_, ?_, ?_, ?_⟩
  · rw [List.getElem_append_left hlt]
    exact hno _ (List.getElem_mem hlt)
  · rw [hr, ← k1]; exact hxk
  · rw [hr]; exact k1
  · rw [hr]; exact k2
  · rw [hr]
    refine ⟨k1, k2, ?_⟩
    have := Cor.wo s hc
    rw [wo_mid hk hxk] at this
    exact this
theorem only_setRow (W : World) (b8 : Nat) (T : Array Value) : Only (fun b => b = b8) W (W.setRow b8 T) := ⟨rfl, rfl, rfl, by simp, fun k hk hn => setRow_other W b8 k T hn⟩
theorem own_lower {W : World} {b0 b1 e size n : Nat} {v : Value} {xs : List Value} (h : W.ownsRow b0 e size v n xs) (hb : b1 ≤ b0) : W.ownsRow b1 e size v n xs := by
  obtain ⟨h1, (h2 | ⟨k, cap, cur, h2, hk, r⟩)⟩ := h
  · exact ⟨h1, .inl h2⟩
  · exact ⟨h1, .inr ⟨k, cap, cur, h2, by omega, r⟩⟩
theorem PlB.same {l : List Ac} {k hh mm : Nat} {es es' : List En} {hh' mm' n : Nat} (h : PlB l k es hh mm) (hb : bulk (l.take (k + 1)) = bulk (l.take k) + n) (h1 : es'.length ≤ es.length) (h2 : tot es' ≤ tot es) (h3 : hh' ≤ hh + 1) (h4 : mm' ≤ mm + 1) : PlB l (k + 1) es' hh' mm' := by
  obtain ⟨p1, p2, p3, p4⟩ := h
  exact ⟨by omega, by omega, by omega, by omega⟩
/-- The reference's part. -/
structure Pr (w W : World) (b8 en sn : Nat) (rl : List REn) (a : Option Addr) (c hh mm : Nat) : Prop where
  own : W.ownsRow w.heap.size 43 2 (.slice a rl.length c) rl.length (rcells rl)
  r : Whole W b8 29 (rcache a rl.length c en sn hh mm)
  by_ : RBy W w.heap.size rl
  lo : w.heap.size ≤ b8
  bel : Below w.heap.size w W
section
variable {w W W' : World} {g b8 en sn c hh mm : Nat} {es : List En} {rl : List REn} {a : Option Addr}
theorem Pl.pr (H : Pl w W g b8 en sn es rl a c hh mm) : Pr w W b8 en sn rl a c hh mm := ⟨H.own, H.r, H.by_, H.lo, H.bel⟩
theorem Pr.below (H : Pr w W b8 en sn rl a c hh mm) (hb : Below W.heap.size W W') : Pr w W' b8 en sn rl a c hh mm :=
  ⟨own_only H.own (Only.of_below hb (fun _ => False)) (fun _ _ h => h), H.r.below hb H.r.lt, H.by_.below (hb.mono H.bel.size), H.lo, H.bel.trans (hb.mono H.bel.size)⟩
theorem Pr.ls (H : Pr w W b8 en sn rl a c hh mm) (ho : Only (LS w.heap.size W) W W') : Pr w W' b8 en sn rl a c hh mm :=
  ⟨own_ent_ls H.own ho, whole_ls2 H.r ho (by decide) (by decide), H.by_.below (ho.low H.bel.size), H.lo, H.bel.trans (ho.low H.bel.size)⟩
theorem Pr.vals (H : Pr w W b8 en sn rl a c hh mm) : Vals W W.heap.size 2 a rl.length (rcells rl) := by
  obtain ⟨a', c', e, _, _, h3⟩ := Vals.of_own H.own
  injection e with e1 e2 e3
  subst e1 e3
  exact h3
theorem Pr.pl (H : Pr w W b8 en sn rl a c hh mm) (L : Lru W w.heap.size g en sn hh mm es) (C : Cor es rl) : Pl w W g b8 en sn es rl a c hh mm := ⟨L, C, H.own, H.r, H.by_, H.lo, H.bel⟩
theorem Pr.store {C0 : Array Value} (hown : W.ownsRow w.heap.size 43 2 (.slice a rl.length c) rl.length (rcells rl)) (hr : Whole W b8 29 C0) (hby : RBy W w.heap.size rl) (hlo : w.heap.size ≤ b8) (hb : Below w.heap.size w W) :
    Pr w (W.setRow b8 (rcache a rl.length c en sn hh mm)) b8 en sn rl a c hh mm := by
  have hB := below_setRow hb hlo (rcache a rl.length c en sn hh mm)
  refine ⟨own_only hown (only_setRow W b8 _) (fun b hb2 e => ?_), hr.row _, ?_, hlo, hB⟩
  · obtain ⟨cs, h9⟩ := own_ent_type hown hb2
    rw [e] at h9
    exact absurd (cells_inj h9 hr) (by decide)
  · refine hby.below ⟨rfl, rfl, rfl, by simp, fun k hk => setRow_other W b8 k _ (by omega)⟩
theorem Lru.setRow {C0 : Array Value} (L : Lru W w.heap.size g en sn hh mm es) (hr : Whole W b8 29 C0) (T : Array Value) : Lru (W.setRow b8 T) w.heap.size g en sn hh mm es :=
  L.typed (only_setRow W b8 T) (fun b e => ⟨C0, 29, (0, 0), by subst e; exact hr, by decide, by decide, by decide⟩)
end
/-- The keys of the reference's list. -/
def rkeys (rl : List REn) : List ByteArray := rl.map REn.key
theorem rkeys_take (rl : List REn) (j : Nat) (h : j < rl.length) : txt (rkeys (rl.take (j + 1))) = txt (rkeys (rl.take j)) ++ [.string (rl[j]).key] := by
  rw [List.take_succ_eq_append_getElem h]
  unfold txt rkeys
  rw [List.map_append, List.map_append]
  rfl
def PlEx (w : World) (g b8 en sn : Nat) (l : List Ac) (k : Nat) (W : World) : Prop := ∃ es rl a c hh mm, Pl w W g b8 en sn es rl a c hh mm ∧ PlB l k es hh mm
set_option maxHeartbeats 40000000 in
theorem lruPlays_walk (a0 a1 : Int) (v : Value) (w : World) (b0 : -9223372036854775808 ≤ a0 ∧ a0 < 9223372036854775808) (b1 : -9223372036854775808 ≤ a1 ∧ a1 < 9223372036854775808) (H : ∃ l, ActsArg w v l) :
    Calls Try.prog 3 #[.int .i64 a0, .int .i64 a1, v] w fun e w' => e = .returned (.bool true) ∧ Below w.heap.size w w' := by
  obtain ⟨l, H⟩ := H
  obtain ⟨en, hen⟩ : ∃ en : Nat, a0 ≤ 0 ∧ en = 0 ∨ a0 = en ∧ 0 < en := ⟨a0.toNat, by omega⟩
  obtain ⟨sn, hsn⟩ : ∃ sn : Nat, a1 ≤ 0 ∧ sn = 0 ∨ a1 = sn ∧ 0 < sn := ⟨a1.toNat, by omega⟩
  have HM := Lib.hid (much_any v l w H)
  have HE := Lib.hid hen
  have HSN := Lib.hid hsn
  obtain ⟨i0, hi0, hz0, hz1, hz2⟩ := info_parts strinfo
  obtain ⟨a, c, rfl, _, hcm, hall, hat⟩ := H
  have Hall := Lib.hid hall
  have Hat := Lib.hid hat
  have Hc := Lib.hid hcm
  clear hall hat hcm hen hsn
  go_enter Try.func3, Try.ntmps3
  go_wp2_with fail
  refine HM.out.mono ?_
  rintro e X ⟨t, rfl, ht, dk, rfl⟩
  clear HM
  cases t with
  | true =>
    go_wp2_with fail
    refine (live34_any _).mono ?_
    rintro e Y ⟨rfl, hB⟩
    have HB := Lib.hid (below_undrew hB)
    clear hB
    go_wp2_with fail
    go_ret
    exact ⟨rfl, HB.out⟩
  | false =>
    obtain ⟨h60, hbk⟩ := ht rfl
    clear ht
    have HN := Lib.hid (new_any a0 a1 en sn (w.drewN dk) HE.out HSN.out)
    have Hbk := Lib.hid hbk
    clear hbk
    go_wp2_with fail
    refine HN.out.mono ?_
    rintro e X0 ⟨g, rfl, hL, hB⟩
    have HB0 := Lib.hid (below_undrew hB)
    have HL0 : Hid (Lru X0 w.heap.size g en sn 0 0 []) := hL
    have HNR := Lib.hid (newR_any a0 a1 en sn X0 HE.out HSN.out)
    clear HN hL hB
    go_wp2_with fail
    refine HNR.out.mono ?_
    rintro e X1 ⟨rfl, hB1⟩
    have HL1 := Lib.hid (HL0.out.below hB1)
    have HB1 := Lib.hid (HB0.out.trans (hB1.mono HB0.out.size))
    clear HNR HL0 HB0 hB1
    go_upto_region 4 with (fail)
    obtain ⟨b8, hb8⟩ : ∃ z, z = X1.heap.size := ⟨_, rfl⟩
    obtain ⟨W0, hW0⟩ : ∃ z, z = X1.alloc (.cells #[.slice none 0 0, .int .i64 (en : Int), .int .i64 (sn : Int), .int .i64 0, .int .i64 0] 29) := ⟨_, rfl⟩
    have P0 : Hid (PlEx w g b8 en sn l 0 W0) := by
      have hbX : Below X1.heap.size X1 W0 := by rw [hW0]; exact (Below.refl _ _).alloc (Nat.le_refl _) _
      exact ⟨[], [], none, 0, 0, 0, ⟨HL1.out.below hbX, trivial, ⟨rfl, .inl ⟨rfl, rfl⟩⟩, by rw [hW0, hb8]; exact Whole.new X1 _ _, (fun r hr => by cases hr), by rw [hb8]; exact HB1.out.size, HB1.out.trans (hbX.mono HB1.out.size)⟩, Nat.zero_le _, Nat.zero_le _, Nat.zero_le _, Nat.zero_le _⟩
    rw [← hW0, ← hb8]
    clear hW0 hb8 HL1 HB1
    go_wp2_with fail
    go_loopw [9] (fun i W => ∃ k : Nat, i = .int .i64 (k : Int) ∧ k ≤ l.length ∧ Hid (PlEx w g b8 en sn l k W)) (fun i _ => l.length - (intOf i).toNat)
    case atStart => exact ⟨0, rfl, Nat.zero_le _, P0⟩
    case round =>
      obtain ⟨k, rfl, hk, HP⟩ := hrel
      clear P0
      by_cases hlt : k < l.length
      · have d1 : decide ((k : Int) < (l.length : Int)) = true := decide_eq_true (by omega)
        obtain ⟨b, off, ad, cc, rfl, hbl, hc0, hc1, hc2, hnum, hnil⟩ := Hat.out k hlt
        obtain ⟨r1, r2, r3⟩ := Hall.out _ (List.getElem_mem hlt)
        have hbt := bulk_take l k hlt
        have hbt2 := bulk_le2 l (k + 1)
        have hbk := Hbk.out
        obtain ⟨kd, hkd⟩ : ∃ z, z = (l[k]).k := ⟨_, rfl⟩
        obtain ⟨s, hs⟩ : ∃ z, z = (l[k]).key := ⟨_, rfl⟩
        obtain ⟨bs, hbs⟩ : ∃ z, z = (l[k]).bs := ⟨_, rfl⟩
        rw [← hkd] at hc0
        rw [← hs] at hc1 r1 hbt
        rw [← hbs] at hc2 r2 r3 hbt hnum
        have hs2 : s.size + bs.length ≤ 2000 := by omega
        obtain ⟨es, rl, a2, c2, hh, mm, P, B⟩ := HP.out
        have w0 : wr.cell? ⟨b, off + k * 3, none⟩ = some (.int .i64 kd) := (P.bel.cell hbl).trans hc0
        have w1 : wr.cell? ⟨b, off + k * 3 + 1, none⟩ = some (.string s) := (P.bel.cell hbl).trans hc1
        have w2 : wr.cell? ⟨b, off + k * 3 + 2, none⟩ = some (.slice ad bs.length cc) := (P.bel.cell hbl).trans hc2
        have HBt : Hid (bulk (l.take (k + 1)) = bulk (l.take k) + (s.size + bs.length)) := hbt
        have HNum := Lib.hid (hnum.below P.bel)
        have Hnil : Hid (ad = none → cc = 0 ∧ bs = []) := fun e => by
          refine ⟨hnil e, ?_⟩
          rcases bs with _ | ⟨x, bs⟩
          · rfl
          · obtain ⟨b', off', e', _⟩ := hnum (by simp)
            rw [e] at e'
            cases e'
        have Hlt8 := Lib.hid r3
        have Hlt := Lib.hid hlt
        have HPl := Lib.hid P
        have HB := Lib.hid B
        clear hc0 hc1 hc2 hnum hnil hbt hbt2 hbk hkd hs hbs r1 r2 r3 hbl P B HP hlt
        go_upto_block 2 with (fail)
        obtain ⟨bX, hbX⟩ : ∃ z, z = wr.heap.size := ⟨_, rfl⟩
        obtain ⟨X, hX⟩ : ∃ z, z = wr.alloc (.cells #[.int .i64 kd, .string s, .slice ad bs.length cc] 33) := ⟨_, rfl⟩
        have hwX : Below wr.heap.size wr X := by rw [hX]; exact (Below.refl _ _).alloc (Nat.le_refl _) _
        have HWx : Hid (Whole X bX 33 #[.int .i64 kd, .string s, .slice ad bs.length cc]) := by rw [hX, hbX]; exact Whole.new wr _ _
        have HPx := Lib.hid (HPl.out.below hwX)
        have HNx := Lib.hid (HNum.out.below (hwX.mono HPl.out.bel.size))
        rw [← hX, ← hbX]
        clear hX hbX HPl HNum w0 w1 w2 hwX
        go_cut [] (fun W => Hid (PlEx w g b8 en sn l (k + 1) W))
        case first =>
          have q0 : X.cell? ⟨bX, 0, none⟩ = some (.int .i64 kd) := HWx.out.cell 0
          have hcor := HPx.out.cor.length
          have hn60 : rl.length ≤ 60 := by rw [← hcor]; have := HB.out.1; omega
          have HBn : Hid (tot es ≤ 2000 ∧ hh ≤ 60 ∧ mm ≤ 60 ∧ es.length ≤ 60) := by obtain ⟨p1, p2, p3, p4⟩ := HB.out; have h2 := bulk_le2 l k; have h3 := Hbk.out; exact ⟨by omega, by omega, by omega, by omega⟩
          obtain ⟨n, hn⟩ : ∃ n, n = rl.length := ⟨_, rfl⟩
          have Hn := Lib.hid hn
          rw [← hn] at hn60
          clear hcor hn
          by_cases k0 : kd = 0
          · subst k0
            cases hf : fnd es s with
            | none =>
              have HG := Lib.hid (get_no g w.heap.size en sn hh mm es s X HPx.out.lru hf (by omega) (by have := HBn.out; omega))
              have HCN := Lib.hid (Cor.none s HPx.out.cor hf)
              clear q0
              have q0 : X.cell? ⟨bX, 0, none⟩ = some (.int .i64 0) := HWx.out.cell 0
              have q1 : X.cell? ⟨bX, 1, none⟩ = some (.string s) := HWx.out.cell 1
              clear hf
              go_wp2_with fail
              refine HG.out.mono ?_
              rintro e Y ⟨rfl, hLe, hOe⟩
              have HLy := Lib.hid hLe
              have HPy := Lib.hid (HPx.out.pr.ls hOe)
              have HCy := Lib.hid HPx.out.cor
              have hWy := whole_ls2 HWx.out hOe (by decide) (by decide)
              have q1 : Y.cell? ⟨bX, 1, none⟩ = some (.string s) := hWy.cell 1
              have z0 : Y.cell? ⟨b8, 0, none⟩ = some (.slice a2 n c2) := by rw [Hn.out]; exact HPy.out.r.cell 0
              have z1 : Y.cell? ⟨b8, 1, none⟩ = some (.int .i64 (en : Int)) := HPy.out.r.cell 1
              have z2 : Y.cell? ⟨b8, 2, none⟩ = some (.int .i64 (sn : Int)) := HPy.out.r.cell 2
              have z3 : Y.cell? ⟨b8, 3, none⟩ = some (.int .i64 (hh : Int)) := HPy.out.r.cell 3
              have z4 : Y.cell? ⟨b8, 4, none⟩ = some (.int .i64 (mm : Int)) := HPy.out.r.cell 4
              have HGR := Lib.hid (getR_no a2 c2 Y.heap.size en sn hh mm rl s Y HPy.out.vals (Nat.le_refl _) (by have := Hn.out; omega) (by have := HBn.out; omega) HCN.out)
              rw [← Hn.out] at HGR
              clear HG hLe hOe q0 HPx HWx HNx
              go_wp2_with fail
              refine HGR.out.mono ?_
              rintro e Z ⟨rfl, hBZ⟩
              have HLz := Lib.hid (HLy.out.below hBZ)
              have HPz := Lib.hid (HPy.out.below hBZ)
              have HOn := Lib.hid HPz.out.own
              have HBn2 := Lib.hid HPz.out.by_
              have HPb := Lib.hid (HB.out.same HBt.out (Nat.le_refl _) (Nat.le_refl _) (Nat.le_succ hh) (Nat.le_refl (mm + 1)))
              clear HGR hBZ HLy HPy z0 z1 z2 z3 z4 q1 hWy
              go_upto_region 12 with (fail)
              obtain ⟨T, hT⟩ : ∃ T, T = rcache a2 rl.length c2 en sn hh (mm + 1) := ⟨_, rfl⟩
              obtain ⟨Z1, hZ1⟩ : ∃ z, z = Z.alloc (.cells #[.slice a2 n c2, .int .i64 (en : Int), .int .i64 (sn : Int), .int .i64 (hh : Int), .int .i64 ((mm : Int) + 1)] 29) := ⟨_, rfl⟩
              obtain ⟨b13, hb13⟩ : ∃ z, z = Z.heap.size := ⟨_, rfl⟩
              have hT2 : T = #[.slice a2 n c2, .int .i64 (en : Int), .int .i64 (sn : Int), .int .i64 (hh : Int), .int .i64 ((mm : Int) + 1)] := by rw [hT, Hn.out]; rfl
              have hZZ : Below Z.heap.size Z Z1 := by rw [hZ1]; exact (Below.refl _ _).alloc (Nat.le_refl _) _
              have H13 : Hid (Whole Z1 b13 29 T) := by rw [hT2, hZ1, hb13]; exact Whole.new Z _ _
              have HLa := Lib.hid (HLz.out.below hZZ)
              have HPa := Lib.hid (HPz.out.below hZZ)
              have HOa := own_only HOn.out (Only.of_below hZZ (fun _ => False)) (fun _ _ h => h)
              have HBa := HBn2.out.below (hZZ.mono HPz.out.bel.size)
              have HT0 : Hid (Whole Z1 b8 29 (rcache a2 rl.length c2 en sn hh mm)) := HPa.out.r
              have Hs1 : Hid ((Try.prog.info? 29).map (·.size) = some T.size) := by rw [hT2]; show _ = _; kernel_rfl
              have Hs0 : Hid ((rcache a2 rl.length c2 en sn hh mm).size = T.size) := by rw [hT2]; rfl
              have Hal : Hid (T.all (·.oneCell') = true) := by rw [hT2]; show _ = _; simp [Value.oneCell']
              have HPf : Hid (Pr w (Z1.setRow b8 T) b8 en sn rl a2 c2 hh (mm + 1)) := by
                have := Pr.store (hh := hh) (mm := (mm + 1)) (en := en) (sn := sn) HOa HPa.out.r HBa HPa.out.lo HPa.out.bel
                rw [← hT] at this
                exact this
              have HLf := Lib.hid (HLa.out.setRow HPa.out.r T)
              have HFIN : Hid (PlEx w g b8 en sn l (k + 1) (Z1.setRow b8 T)) := ⟨es, rl, a2, c2, hh, mm + 1, HPf.out.pl HLf.out HCy.out, HPb.out⟩
              have Hst := str_of_nums (Z1.setRow b8 T) 0 31 9 5 none 0 [] Try.underlying31 Try.underlying5 Try.underlying9 Nums.nil_ (by simp)
              have hst : (convert 31 9 (.slice none 0 0)).run Try.prog (Z1.setRow b8 T) = .ok (.string (strOf [])) (Z1.setRow b8 T) := Hst
              clear Hst
              rw [← hZ1, ← hb13]
              clear hT hT2 hZ1 hb13 hZZ HLz HPz HLa HPa HOa HBa HOn HBn2
              go_wp2_with (first
                | (refine wpList_load_row rfl 29 (.tmp 13) rfl b13 rfl 29 T (0, 0) _ H13.out Try.underlying29 rfl Hs1.out ?_)
                | (refine wpList_store_row rfl 29 (.tmp 8) (.tmp 60) rfl b8 T rfl rfl 29 (rcache a2 rl.length c2 en sn hh mm) HT0.out Hs1.out Hs0.out Hal.out ?_))
              go_meet
              exact HFIN
            | some x =>
              obtain ⟨l1, l2, m, hm, rfl, hno, hyes, hxk, hxb, hcor2⟩ := cor_hit HPx.out.cor HPx.out.lru.keys hf
              have HG := Lib.hid (get_yes g w.heap.size en sn hh mm l1 l2 x s X HPx.out.lru hf (by omega) (by have := HBn.out; omega) (by have h1 := HBn.out; have h2 := tot_mid l1 l2 x; unfold En.size at h2; omega))
              obtain ⟨a9, c9, hv9, hnm9, hnl9, hlt9⟩ := HPx.out.by_ _ (List.getElem_mem hm)
              have htt : tot (x :: (l1 ++ l2)) ≤ tot (l1 ++ x :: l2) := by rw [tot_mid]; unfold tot; simp; omega
              have hll : (x :: (l1 ++ l2)).length ≤ (l1 ++ x :: l2).length := by simp; omega
              have HPb := Lib.hid (HB.out.same HBt.out hll htt (Nat.le_refl (hh + 1)) (Nat.le_succ mm))
              obtain ⟨r9, hr9⟩ : ∃ r, r = rl[m]'hm := ⟨_, rfl⟩
              obtain ⟨bx, hbx⟩ : ∃ z, z = x.bs := ⟨_, rfl⟩
              obtain ⟨R, hR⟩ : ∃ R, R = rl[m]'hm :: rwo rl s := ⟨_, rfl⟩
              have hlm : (rl[m]'hm).bs = bx := by rw [hbx]; exact hxb.symm
              rw [hlm] at hv9 hnm9 hlt9
              have HGRr := fun (Y : World) (P : Pr w Y b8 en sn rl a2 c2 hh mm) => getR_yes a2 c2 Y.heap.size en sn hh mm rl m hm s Y P.vals (Nat.le_refl _) P.by_.one (by have := Hn.out; omega) (by have := HBn.out; omega) hno hyes a9 bx.length c9 hv9
              have HGRr := Lib.hid HGRr
              rw [← hR] at HGRr hcor2
              rw [← Hn.out] at HGRr
              have HRb : Hid (∀ (Z : World), RBy Z w.heap.size rl → RBy Z w.heap.size R) := fun Z h r hr => by
                rw [hR] at hr
                rcases List.mem_cons.1 hr with rfl | hr
                · exact h _ (List.getElem_mem hm)
                · exact h r (List.mem_filter.1 hr).1
              have Hcor2 := Lib.hid hcor2
              have Hl9 := Lib.hid hlt9
              have HN9 : Hid (∀ Z, Below w.heap.size X Z → Nums .u8 Z w.heap.size a9 bx) := fun Z h => hnm9.below h
              rw [← hbx] at HG
              clear hf hno hyes hxk hxb hcor2 hv9 hnm9 hnl9 hlt9 htt hll hr9 hbx hR hlm
              have q0 : X.cell? ⟨bX, 0, none⟩ = some (.int .i64 0) := HWx.out.cell 0
              have q1 : X.cell? ⟨bX, 1, none⟩ = some (.string s) := HWx.out.cell 1
              go_wp2_with fail
              refine HG.out.mono ?_
              rintro e Y ⟨v7, rfl, hv7, hLe, hOe⟩
              obtain ⟨a7, c7, rfl, _, _, _, _⟩ := hv7.nums
              have HLy := Lib.hid hLe
              have HPy := Lib.hid (HPx.out.pr.ls hOe)
              have HV7 := Lib.hid hv7
              have hWy := whole_ls2 HWx.out hOe (by decide) (by decide)
              have q1 : Y.cell? ⟨bX, 1, none⟩ = some (.string s) := hWy.cell 1
              have z0 : Y.cell? ⟨b8, 0, none⟩ = some (.slice a2 n c2) := by rw [Hn.out]; exact HPy.out.r.cell 0
              have z1 : Y.cell? ⟨b8, 1, none⟩ = some (.int .i64 (en : Int)) := HPy.out.r.cell 1
              have z2 : Y.cell? ⟨b8, 2, none⟩ = some (.int .i64 (sn : Int)) := HPy.out.r.cell 2
              have z3 : Y.cell? ⟨b8, 3, none⟩ = some (.int .i64 (hh : Int)) := HPy.out.r.cell 3
              have z4 : Y.cell? ⟨b8, 4, none⟩ = some (.int .i64 (mm : Int)) := HPy.out.r.cell 4
              have HGR := Lib.hid (HGRr.out Y HPy.out)
              have HN9y := Lib.hid (HN9.out Y (hOe.low HPx.out.bel.size))
              clear HG hLe hOe q0 HPx HWx HNx hv7 HGRr HN9
              go_wp2_with fail
              refine HGR.out.mono ?_
              rintro e Z ⟨lv, rfl, hlv, hBZ⟩
              obtain ⟨aN, cN, rfl, _, _, _⟩ := Vals.of_own hlv
              have HLz := Lib.hid (HLy.out.below hBZ)
              have HPz := Lib.hid (HPy.out.below hBZ)
              have HOn := Lib.hid (own_lower hlv HPy.out.bel.size)
              have HBn2 := Lib.hid (HRb.out Z HPz.out.by_)
              have HV7z := Lib.hid (HV7.out.below hBZ)
              have HN9z := Lib.hid (HN9y.out.below (hBZ.mono HPy.out.bel.size))
              obtain ⟨nN, hnN⟩ : ∃ n, n = R.length := ⟨_, rfl⟩
              have HnN := Lib.hid hnN
              rw [← hnN]
              clear HGR hBZ HLy HPy z0 z1 z2 z3 z4 q1 hWy HV7 HN9y hlv hnN HRb
              go_upto_region 12 with (fail)
              obtain ⟨T, hT⟩ : ∃ T, T = rcache aN R.length cN en sn (hh + 1) mm := ⟨_, rfl⟩
              obtain ⟨Z1, hZ1⟩ : ∃ z, z = Z.alloc (.cells #[.slice aN nN cN, .int .i64 (en : Int), .int .i64 (sn : Int), .int .i64 ((hh : Int) + 1), .int .i64 (mm : Int)] 29) := ⟨_, rfl⟩
              obtain ⟨b13, hb13⟩ : ∃ z, z = Z.heap.size := ⟨_, rfl⟩
              have hT2 : T = #[.slice aN nN cN, .int .i64 (en : Int), .int .i64 (sn : Int), .int .i64 ((hh : Int) + 1), .int .i64 (mm : Int)] := by rw [hT, HnN.out]; rfl
              have hZZ : Below Z.heap.size Z Z1 := by rw [hZ1]; exact (Below.refl _ _).alloc (Nat.le_refl _) _
              have H13 : Hid (Whole Z1 b13 29 T) := by rw [hT2, hZ1, hb13]; exact Whole.new Z _ _
              have HLa := Lib.hid (HLz.out.below hZZ)
              have HPa := Lib.hid (HPz.out.below hZZ)
              have HOa := own_only HOn.out (Only.of_below hZZ (fun _ => False)) (fun _ _ h => h)
              have HBa := HBn2.out.below (hZZ.mono HPz.out.bel.size)
              have HT0 : Hid (Whole Z1 b8 29 (rcache a2 rl.length c2 en sn hh mm)) := HPa.out.r
              have Hs1 : Hid ((Try.prog.info? 29).map (·.size) = some T.size) := by rw [hT2]; show _ = _; kernel_rfl
              have Hs0 : Hid ((rcache a2 rl.length c2 en sn hh mm).size = T.size) := by rw [hT2]; rfl
              have Hal : Hid (T.all (·.oneCell') = true) := by rw [hT2]; show _ = _; simp [Value.oneCell']
              have HPf : Hid (Pr w (Z1.setRow b8 T) b8 en sn R aN cN (hh + 1) mm) := by
                have := Pr.store (hh := (hh + 1)) (mm := mm) (en := en) (sn := sn) HOa HPa.out.r HBa HPa.out.lo HPa.out.bel
                rw [← hT] at this
                exact this
              have HLf := Lib.hid (HLa.out.setRow HPa.out.r T)
              have HFIN : Hid (PlEx w g b8 en sn l (k + 1) (Z1.setRow b8 T)) := ⟨x :: (l1 ++ l2), R, aN, cN, hh + 1, mm, HPf.out.pl HLf.out Hcor2.out, HPb.out⟩
              have hN7 : Nums .u8 (Z1.setRow b8 T) (Z1.setRow b8 T).heap.size a7 bx := by
                have h8 := (HV7z.out.below hZZ).only (only_setRow Z1 b8 T) (fun b hb e => by
                  obtain ⟨cs, h9⟩ := own8_type (HV7z.out.below hZZ) hb
                  rw [e] at h9
                  exact absurd (cells_inj h9 HPa.out.r) (by decide))
                obtain ⟨a', c', e, _, _, _, h7⟩ := h8.nums
                injection e with e1 e2 e3
                subst e1 e3
                exact h7
              have hst1 := str_of_nums (Z1.setRow b8 T) _ 31 9 5 a7 c7 bx Try.underlying31 Try.underlying5 Try.underlying9 hN7 Hl9.out
              clear hN7
              have hst2 := str_of_nums (Z1.setRow b8 T) _ 31 9 5 a9 c9 bx Try.underlying31 Try.underlying5 Try.underlying9 ((HN9z.out.below (hZZ.mono HPz.out.bel.size)).below (below_setRow (Below.refl _ _) HPz.out.lo T)) Hl9.out
              rw [← hZ1, ← hb13]
              clear hT hT2 hZ1 hb13 hZZ HLz HPz HLa HPa HOa HBa HOn HBn2
              go_wp2_with (first
                | (refine wpList_load_row rfl 29 (.tmp 13) rfl b13 rfl 29 T (0, 0) _ H13.out Try.underlying29 rfl Hs1.out ?_)
                | (refine wpList_store_row rfl 29 (.tmp 8) (.tmp 60) rfl b8 T rfl rfl 29 (rcache a2 rl.length c2 en sn hh mm) HT0.out Hs1.out Hs0.out Hal.out ?_))
              go_meet
              exact HFIN
          · by_cases k1 : kd = 1
            · subst k1
              have q0 : X.cell? ⟨bX, 0, none⟩ = some (.int .i64 1) := HWx.out.cell 0
              have q1 : X.cell? ⟨bX, 1, none⟩ = some (.string s) := HWx.out.cell 1
              have q2 : X.cell? ⟨bX, 2, none⟩ = some (.slice ad bs.length cc) := HWx.out.cell 2
              have z0 : X.cell? ⟨b8, 0, none⟩ = some (.slice a2 n c2) := by rw [Hn.out]; exact HPx.out.r.cell 0
              have z1 : X.cell? ⟨b8, 1, none⟩ = some (.int .i64 (en : Int)) := HPx.out.r.cell 1
              have z2 : X.cell? ⟨b8, 2, none⟩ = some (.int .i64 (sn : Int)) := HPx.out.r.cell 2
              have z3 : X.cell? ⟨b8, 3, none⟩ = some (.int .i64 (hh : Int)) := HPx.out.r.cell 3
              have z4 : X.cell? ⟨b8, 4, none⟩ = some (.int .i64 (mm : Int)) := HPx.out.r.cell 4
              clear k0
              by_cases hno : en = 0 ∨ sn < s.size + bs.length
              · have HPR := Lib.hid (putR_no en sn hh mm bs.length cc ad (.slice a2 n c2) s X rfl (by omega) (by omega) hno a2 n c2 rfl)
                have HCy := Lib.hid HPx.out.cor
                have HPb := Lib.hid (HB.out.same HBt.out (Nat.le_refl _) (Nat.le_refl _) (Nat.le_succ hh) (Nat.le_succ mm))
                have HCP := Lib.hid fun (W : World) (L : Lru W w.heap.size g en sn hh mm es) => put_no g w.heap.size en sn hh mm bs.length cc ad es s W L (by omega) (by omega) hno
                clear hno
                go_wp2_with fail
                refine HPR.out.mono ?_
                rintro e Z ⟨rfl, hBZ⟩
                have HLz := Lib.hid (HPx.out.lru.below hBZ)
                have HPz := Lib.hid (HPx.out.pr.below hBZ)
                have HOn := Lib.hid HPz.out.own
                have HBn2 := Lib.hid HPz.out.by_
                have HWz := Lib.hid (HWx.out.below hBZ HWx.out.lt)
                have Hb8X : Hid (bX ≠ b8) := fun e => by
                  have h1 := HWx.out
                  rw [e] at h1
                  exact absurd (cells_inj h1 HPx.out.r) (by decide)
                clear HPR hBZ q0 q1 q2 z0 z1 z2 z3 z4 HPx HWx HNx
                go_upto_region 17 with (fail)
                obtain ⟨T, hT⟩ : ∃ T, T = rcache a2 rl.length c2 en sn hh mm := ⟨_, rfl⟩
                obtain ⟨Z1, hZ1⟩ : ∃ z, z = Z.alloc (.cells #[.slice a2 n c2, .int .i64 (en : Int), .int .i64 (sn : Int), .int .i64 (hh : Int), .int .i64 (mm : Int)] 29) := ⟨_, rfl⟩
                obtain ⟨b13, hb13⟩ : ∃ z, z = Z.heap.size := ⟨_, rfl⟩
                have hT2 : T = #[.slice a2 n c2, .int .i64 (en : Int), .int .i64 (sn : Int), .int .i64 (hh : Int), .int .i64 (mm : Int)] := by rw [hT, Hn.out]; rfl
                have hZZ : Below Z.heap.size Z Z1 := by rw [hZ1]; exact (Below.refl _ _).alloc (Nat.le_refl _) _
                have H13 : Hid (Whole Z1 b13 29 T) := by rw [hT2, hZ1, hb13]; exact Whole.new Z _ _
                have HLa := Lib.hid (HLz.out.below hZZ)
                have HPa := Lib.hid (HPz.out.below hZZ)
                have HOa := own_only HOn.out (Only.of_below hZZ (fun _ => False)) (fun _ _ h => h)
                have HBa := HBn2.out.below (hZZ.mono HPz.out.bel.size)
                have HT0 : Hid (Whole Z1 b8 29 (rcache a2 rl.length c2 en sn hh mm)) := HPa.out.r
                have Hs1 : Hid ((Try.prog.info? 29).map (·.size) = some T.size) := by rw [hT2]; show _ = _; kernel_rfl
                have Hs0 : Hid ((rcache a2 rl.length c2 en sn hh mm).size = T.size) := by rw [hT2]; rfl
                have Hal : Hid (T.all (·.oneCell') = true) := by rw [hT2]; show _ = _; simp [Value.oneCell']
                have HPf : Hid (Pr w (Z1.setRow b8 T) b8 en sn rl a2 c2 hh mm) := by
                  have := Pr.store (hh := hh) (mm := mm) (en := en) (sn := sn) HOa HPa.out.r HBa HPa.out.lo HPa.out.bel
                  rw [← hT] at this
                  exact this
                have HLf := Lib.hid (HLa.out.setRow HPa.out.r T)
                have hWf : Whole (Z1.setRow b8 T) bX 33 #[.int .i64 1, .string s, .slice ad bs.length cc] := (HWz.out.below hZZ HWz.out.lt).rowFar Hb8X.out T
                have q1 : (Z1.setRow b8 T).cell? ⟨bX, 1, none⟩ = some (.string s) := hWf.cell 1
                have q2 : (Z1.setRow b8 T).cell? ⟨bX, 2, none⟩ = some (.slice ad bs.length cc) := hWf.cell 2
                clear hWf HWz
                have HFIN : Hid (PlEx w g b8 en sn l (k + 1) (Z1.setRow b8 T)) := ⟨es, rl, a2, c2, hh, mm, HPf.out.pl HLf.out HCy.out, HPb.out⟩
                rw [← hZ1, ← hb13]
                clear hT hT2 hZ1 hb13 hZZ HLz HPz HLa HPa HOa HBa HOn HBn2
                go_wp2_with (first
                  | (refine wpList_load_row rfl 29 (.tmp 16) rfl b13 rfl 29 T (0, 0) _ H13.out Try.underlying29 rfl Hs1.out ?_)
                  | (refine wpList_store_row rfl 29 (.tmp 8) (.tmp 82) rfl b8 T rfl rfl 29 (rcache a2 rl.length c2 en sn hh mm) HT0.out Hs1.out Hs0.out Hal.out ?_))
                refine (HCP.out _ HLf.out).mono ?_
                rintro e V ⟨rfl, rfl⟩
                go_wp2_with fail
                go_meet
                exact HFIN
              · have hno1 : 0 < en := by omega
                have hno2 : s.size + bs.length ≤ sn := by omega
                have hrt : rtot rl ≤ 2000 := by rw [← HPx.out.cor.tot]; exact HBn.out.1
                have hrl : rl.length ≤ 60 := by have := Hn.out; omega
                obtain ⟨R, hR⟩ : ∃ R, R = evictR en sn ((rwo rl s).length + 1) ((⟨s, .slice ad bs.length cc, bs⟩ : REn) :: rwo rl s) := ⟨_, rfl⟩
                have HPR := Lib.hid (putR_yes a2 ad c2 cc X.heap.size w.heap.size en sn hh mm rl s bs X HPx.out.vals (Nat.le_refl _) HPx.out.bel.size HPx.out.by_ HNx.out Hnil.out Hlt8.out (by omega) (by omega) hno1 hno2 (by omega) (by omega))
                rw [← hR, ← Hn.out] at HPR
                have HCor : Hid (∀ xx : En, xx.key = s → xx.bs = bs → Cor (evict en sn ((wo es s).length + 1) (xx :: wo es s)) R) := fun xx h1 h2 => by
                  have h3 := Cor.wo s HPx.out.cor
                  rw [hR, ← h3.length]
                  exact Cor.evict en sn _ (h3.cons h1 h2)
                have HRb : Hid (∀ (Z : World), Below w.heap.size X Z → RBy Z w.heap.size R) := fun Z h r hr => by
                  rw [hR] at hr
                  rcases List.mem_cons.1 (evictR_sub _ _ _ _ r hr) with rfl | hr
                  · exact ⟨ad, cc, rfl, HNx.out.below h, Hnil.out, Hlt8.out⟩
                  · exact HPx.out.by_.below h r (List.mem_filter.1 hr).1
                have HCP := Lib.hid fun (W : World) (L : Lru W w.heap.size g en sn hh mm es) (hb : Nums .u8 W w.heap.size ad bs) => put_yes g w.heap.size en sn hh mm cc ad bs es s W L (by omega) (by omega) (by omega) hno1 hno2 hb Hnil.out Hlt8.out (by have := HBn.out; omega) (by have := HBn.out; omega)
                have HPbx : Hid (∀ xx : En, xx.key = s → xx.bs = bs → PlB l (k + 1) (evict en sn ((wo es s).length + 1) (xx :: wo es s)) hh mm) := fun xx h1 h2 => by
                  obtain ⟨p1, p2, p3, p4⟩ := HB.out
                  have hbt := HBt.out
                  have h5 := (evict_pre en sn ((wo es s).length + 1) (xx :: wo es s)).length_le
                  have h6 : (wo es s).length ≤ es.length := List.length_filter_le _ _
                  have h7 := tot_pre (evict_pre en sn ((wo es s).length + 1) (xx :: wo es s))
                  have h8 := wo_le es s
                  have h9 : tot (xx :: wo es s) = xx.size + tot (wo es s) := by unfold tot; simp
                  have h10 : xx.size = s.size + bs.length := by unfold En.size; rw [h1, h2]
                  simp at h5
                  exact ⟨by omega, by omega, by omega, by omega⟩
                clear hno hno1 hno2 hrt hR hrl
                go_wp2_with fail
                refine HPR.out.mono ?_
                rintro e Z ⟨lv, rfl, hlv, hBZ⟩
                obtain ⟨aN, cN, rfl, _, _, _⟩ := Vals.of_own hlv
                have HLz := Lib.hid (HPx.out.lru.below hBZ)
                have HPz := Lib.hid (HPx.out.pr.below hBZ)
                have HOn := Lib.hid (own_lower hlv HPx.out.bel.size)
                have HBn2 := Lib.hid (HRb.out Z (hBZ.mono HPx.out.bel.size))
                have HNz := Lib.hid (HNx.out.below (hBZ.mono HPx.out.bel.size))
                have HWz := Lib.hid (HWx.out.below hBZ HWx.out.lt)
                have Hb8X : Hid (bX ≠ b8) := fun e => by
                  have h1 := HWx.out
                  rw [e] at h1
                  exact absurd (cells_inj h1 HPx.out.r) (by decide)
                obtain ⟨nN, hnN⟩ : ∃ n, n = R.length := ⟨_, rfl⟩
                have HnN := Lib.hid hnN
                rw [← hnN]
                clear HPR hBZ q0 q1 q2 z0 z1 z2 z3 z4 HPx HWx HNx hlv hnN HRb
                go_upto_region 17 with (fail)
                obtain ⟨T, hT⟩ : ∃ T, T = rcache aN R.length cN en sn hh mm := ⟨_, rfl⟩
                obtain ⟨Z1, hZ1⟩ : ∃ z, z = Z.alloc (.cells #[.slice aN nN cN, .int .i64 (en : Int), .int .i64 (sn : Int), .int .i64 (hh : Int), .int .i64 (mm : Int)] 29) := ⟨_, rfl⟩
                obtain ⟨b13, hb13⟩ : ∃ z, z = Z.heap.size := ⟨_, rfl⟩
                have hT2 : T = #[.slice aN nN cN, .int .i64 (en : Int), .int .i64 (sn : Int), .int .i64 (hh : Int), .int .i64 (mm : Int)] := by rw [hT, HnN.out]; rfl
                have hZZ : Below Z.heap.size Z Z1 := by rw [hZ1]; exact (Below.refl _ _).alloc (Nat.le_refl _) _
                have H13 : Hid (Whole Z1 b13 29 T) := by rw [hT2, hZ1, hb13]; exact Whole.new Z _ _
                have HLa := Lib.hid (HLz.out.below hZZ)
                have HPa := Lib.hid (HPz.out.below hZZ)
                have HOa := own_only HOn.out (Only.of_below hZZ (fun _ => False)) (fun _ _ h => h)
                have HBa := HBn2.out.below (hZZ.mono HPz.out.bel.size)
                have HT0 : Hid (Whole Z1 b8 29 (rcache a2 rl.length c2 en sn hh mm)) := HPa.out.r
                have Hs1 : Hid ((Try.prog.info? 29).map (·.size) = some T.size) := by rw [hT2]; show _ = _; kernel_rfl
                have Hs0 : Hid ((rcache a2 rl.length c2 en sn hh mm).size = T.size) := by rw [hT2]; rfl
                have Hal : Hid (T.all (·.oneCell') = true) := by rw [hT2]; show _ = _; simp [Value.oneCell']
                have HPf : Hid (Pr w (Z1.setRow b8 T) b8 en sn R aN cN hh mm) := by
                  have := Pr.store (hh := hh) (mm := mm) (en := en) (sn := sn) HOa HPa.out.r HBa HPa.out.lo HPa.out.bel
                  rw [← hT] at this
                  exact this
                have HLf := Lib.hid (HLa.out.setRow HPa.out.r T)
                have hWf : Whole (Z1.setRow b8 T) bX 33 #[.int .i64 1, .string s, .slice ad bs.length cc] := (HWz.out.below hZZ HWz.out.lt).rowFar Hb8X.out T
                have q1 : (Z1.setRow b8 T).cell? ⟨bX, 1, none⟩ = some (.string s) := hWf.cell 1
                have q2 : (Z1.setRow b8 T).cell? ⟨bX, 2, none⟩ = some (.slice ad bs.length cc) := hWf.cell 2
                clear hWf HWz
                have HNf : Hid (Nums .u8 (Z1.setRow b8 T) w.heap.size ad bs) := (HNz.out.below (hZZ.mono HPz.out.bel.size)).below (below_setRow (Below.refl _ _) HPz.out.lo T)
                clear HNz
                rw [← hZ1, ← hb13]
                clear hT hT2 hZ1 hb13 hZZ HLz HPz HLa HPa HOa HBa HOn HBn2
                go_wp2_with (first
                  | (refine wpList_load_row rfl 29 (.tmp 16) rfl b13 rfl 29 T (0, 0) _ H13.out Try.underlying29 rfl Hs1.out ?_)
                  | (refine wpList_store_row rfl 29 (.tmp 8) (.tmp 82) rfl b8 T rfl rfl 29 (rcache a2 rl.length c2 en sn hh mm) HT0.out Hs1.out Hs0.out Hal.out ?_))
                refine (HCP.out _ HLf.out HNf.out).mono ?_
                rintro e V ⟨rfl, xx, hxk, hxb, hL1, hO1⟩
                have HFIN : Hid (PlEx w g b8 en sn l (k + 1) V) := ⟨_, R, aN, cN, hh, mm, (HPf.out.ls hO1).pl hL1 (HCor.out xx hxk hxb), HPbx.out xx hxk hxb⟩
                clear hxk hxb hL1 hO1 HPf HLf HCP
                go_wp2_with fail
                go_meet
                exact HFIN
            · by_cases k2 : kd = 2
              · subst k2
                have q0 : X.cell? ⟨bX, 0, none⟩ = some (.int .i64 2) := HWx.out.cell 0
                have HCL := Lib.hid (clear_any g w.heap.size en sn hh mm es X HPx.out.lru)
                clear k0 k1
                go_wp2_with fail
                refine HCL.out.mono ?_
                rintro e Y ⟨rfl, hLe, hOe⟩
                have hPy := HPx.out.pr.ls hOe
                have z0 : Y.cell? ⟨b8, 0, none⟩ = some (.slice a2 n c2) := by rw [Hn.out]; exact hPy.r.cell 0
                have zf : Y.frozen? ⟨b8, 0, none⟩ = false := hPy.r.frozen 0
                have HFIN : Hid (PlEx w g b8 en sn l (k + 1) (Y.setCell ⟨b8, 0, none⟩ (.slice none 0 0))) := by
                  have hO : Only (fun b => b = b8) Y (Y.setCell ⟨b8, 0, none⟩ (.slice none 0 0)) := Only.setCell (S := fun b => b = b8) (Only.refl _ _) (p := ⟨b8, 0, none⟩) (fun _ => rfl) _
                  have hr := hPy.r.set 0 (.slice none 0 0)
                  obtain ⟨p1, p2, p3, p4⟩ := HB.out
                  refine ⟨[], [], none, 0, hh, mm, ⟨hLe.typed hO (fun b e => ⟨_, 29, (0, 0), by subst e; exact hPy.r, by decide, by decide, by decide⟩), trivial, ⟨rfl, .inl ⟨rfl, rfl⟩⟩, hr, (fun r hr => by cases hr), hPy.lo, hPy.bel.setCell hPy.lo _⟩, Nat.zero_le _, Nat.zero_le _, by omega, by omega⟩
                clear hLe hOe hPy HCL q0 HPx HWx HNx
                go_wp2_with fail
                go_meet
                exact HFIN
              · have d2 : (kd == 0) = false := by simpa using k0
                have d3 : (kd == 1) = false := by simpa using k1
                have d4 : (kd == 2) = false := by simpa using k2
                have HFIN : Hid (PlEx w g b8 en sn l (k + 1) X) := ⟨es, rl, a2, c2, hh, mm, HPx.out, HB.out.same HBt.out (Nat.le_refl _) (Nat.le_refl _) (Nat.le_succ hh) (Nat.le_succ mm)⟩
                clear HPx HWx HNx
                go_wp2_with fail
                go_meet
                exact HFIN
        case rest =>
          obtain ⟨es, rl, a2, c2, hh, mm, P, B⟩ := hcut.out
          clear hcut HPx HB HNx HWx Hnil Hlt8 HBt
          have HP := Lib.hid P
          have HB := Lib.hid B
          have hn60 : rl.length ≤ 60 := by rw [← P.cor.length]; have := B.1; omega
          have HPtot : Hid (tot es ≤ 2000) := by have h1 := B.2.1; have h2 := bulk_le2 l (k + 1); have h3 := Hbk.out; show _ ≤ _; omega
          obtain ⟨n, hn⟩ : ∃ n, n = rl.length := ⟨_, rfl⟩
          have Hn := Lib.hid hn
          rw [← hn] at hn60
          have Hs8 : Hid (b8 < wc.heap.size) := P.r.lt
          have r0 : wc.cell? ⟨b8, 0, none⟩ = some (.slice a2 n c2) := by rw [hn]; exact P.r.cell 0
          clear P B hn
          go_wp2_with fail
          go_loopw [18, 19] (fun v j W => ∃ jj : Nat, j = .int .i64 (jj : Int) ∧ jj ≤ n ∧ Hid (W.ownsRow w.heap.size 9 1 v jj (txt (rkeys (rl.take jj)))) ∧ Hid (Pl w W g b8 en sn es rl a2 c2 hh mm)) (fun _ j _ => n - (intOf j).toNat)
          case atStart => exact ⟨0, rfl, Nat.zero_le _, ⟨rfl, .inl ⟨rfl, rfl⟩⟩, HP⟩
          case round =>
            obtain ⟨jj, rfl, hj, HO, HPj⟩ := hrel
            clear HP r0 Hs8
            have r0 : wr.cell? ⟨b8, 0, none⟩ = some (.slice a2 n c2) := by rw [Hn.out]; exact HPj.out.r.cell 0
            by_cases hlt : jj < n
            · have g1 : decide ((jj : Int) < (n : Int)) = true := decide_eq_true (by omega)
              have hjl : jj < rl.length := by have := Hn.out; omega
              obtain ⟨b3, off3, rfl, hb3, hcell⟩ := HPj.out.vals.r_at (by omega)
              obtain ⟨e1, e1x⟩ := hcell jj hjl
              clear e1x
              have hst := rkeys_take rl jj hjl
              obtain ⟨t, ht⟩ : ∃ z, z = (rl[jj]).key := ⟨_, rfl⟩
              rw [← ht] at e1 hst
              have HST := Lib.hid hst
              have Hlt2 := Lib.hid hlt
              have HOa : Hid ((wr.alloc (.cells #[.string t] 9)).ownsRow w.heap.size 9 1 u18 jj (txt (rkeys (rl.take jj)))) := HO.out.alloc _
              have HVa : Hid (Vals (wr.alloc (.cells #[.string t] 9)) (wr.heap.size + 1) 1 (some ⟨wr.heap.size, 0, none⟩) 1 [.string t]) := by
                have := Vals.of_block (w := wr.alloc (.cells #[.string t] 9)) (xs := [.string t]) (n := 1) (size := 1) (heap_alloc_new wr _) rfl
                show Vals _ _ _ _ _ _
                simpa using this
              have Hone : Hid (∀ u ∈ [Value.string t], u.oneCell' = true) := by intro u hu; simp at hu; subst hu; rfl
              have HPa := Lib.hid (HPj.out.below ((Below.refl wr.heap.size wr).alloc (Nat.le_refl _) (.cells #[.string t] 9)))
              have HBs : Hid (w.heap.size ≤ (wr.alloc (.cells #[.string t] 9)).heap.size) := HPa.out.bel.size
              have Hl1 : Hid (jj + 1 ≤ maxLen) := by unfold Hid maxLen; omega
              have Hl2 : Hid ((jj + 1) * 16 ≤ 140737488355328) := by unfold Hid; omega
              clear hst ht hcell HO HPj hlt hjl
              go_wp2_with (at_builtin; refine app_vals rfl (.tmp 103) (.tmp 110) 41 rfl w.heap.size 9 i0 _ 1 16 Try.underlying41 hi0 hz0 hz1 hz2 rfl (by omega) u18 jj (txt (rkeys (rl.take jj))) rfl HOa.out (wr.heap.size + 1) _ 1 1 [.string t] rfl HVa.out Hone.out Hl1.out Hl2.out HBs.out ?_)
              intro v2 X2 h2 h3 _
              have hoX : Only (fun b => u18.ownBlock = some b) (wr.alloc (.cells #[.string t] 9)) X2 := Only.of_grown h3 (fun b hb => hb)
              have HP2 := Lib.hid (HPa.out.strs hoX (fun b hb => own_str_type HOa.out hb) (fun b hb => (World.ownsRow.lt HOa.out b hb).1))
              rw [← HST.out] at h2
              have H2 := Lib.hid h2
              clear h2 h3 hoX HPa HOa HVa Hone HBs Hl1 Hl2 HST e1 r0
              go_wp2_with fail
              go_roundw
              case rel => exact ⟨jj + 1, by go_num, Hlt2.out, H2, HP2⟩
              case measure => simp [intOf] <;> omega
            · obtain rfl : n = jj := by omega
              have g1 : decide ((n : Int) < (n : Int)) = false := decide_eq_false (by omega)
              have hown := HO.out
              rw [Hn.out, List.take_length, ← Hn.out] at hown
              obtain ⟨a8, c8, rfl, _, _, hV8⟩ := Vals.of_own hown
              have HV8 := Lib.hid hV8
              have HCn := Lib.hid (counts_any g w.heap.size en sn hh mm es wr HPj.out.lru)
              clear hown hV8 HO hlt hj
              go_wp2_with fail
              refine HCn.out.mono ?_
              rintro e Y ⟨rfl, dk2, rfl⟩
              clear HCn r0
              go_upto_region 29 with (fail)
              obtain ⟨W8, hW8⟩ : ∃ z, z = wr.drewN dk2 := ⟨_, rfl⟩
              have HP8 : Hid (Pl w W8 g b8 en sn es rl a2 c2 hh mm) := by rw [hW8]; exact HPj.out.drewN dk2
              have HV9 : Hid (Vals W8 W8.heap.size 1 a8 n (txt (rkeys rl))) := by rw [hW8]; exact HV8.out
              rw [← hW8]
              clear hW8 HPj HV8
              obtain ⟨T, hT⟩ : ∃ z, z = rtot rl := ⟨_, rfl⟩
              have htot : rtot rl ≤ 2000 := by
                have h1 := HPtot.out
                rw [HP8.out.cor.tot] at h1
                exact h1
              have HT := Lib.hid hT
              have hTl : T ≤ 2000 := by omega
              have hen : es.length = n := by rw [HP8.out.cor.length, Hn.out]
              have hsk : strs es = txt (rkeys rl) := by rw [HP8.out.cor.keys]; unfold txt rkeys; rw [List.map_map]; rfl
              have HK : Hid (Calls Try.prog 17 #[.pointer (some ⟨g, 0, none⟩)] W8.drew fun e w' => ∃ ak ck, e = .returned (.slice ak n ck) ∧ Vals w' w'.heap.size 1 ak n (txt (rkeys rl)) ∧ Below W8.drew.heap.size W8.drew w') := by
                refine (keys_any g w.heap.size en sn hh mm es W8.drew (HP8.out.lru.drewN 1) (by omega)).mono ?_
                rintro e w' ⟨vk, rfl, hok, hb⟩
                rw [hen, hsk] at hok
                obtain ⟨ak, ck, rfl, _, _, hVk⟩ := Vals.of_own hok
                exact ⟨ak, ck, rfl, hVk, hb⟩
              have HSm : Hid (∀ W ak ck, Vals W W.heap.size 1 ak n (txt (rkeys rl)) → Below W8.drew.heap.size W8.drew W → Calls Try.prog 16 #[.slice ak n ck, .slice a8 n c8] W fun e w' => e = .returned (.bool true) ∧ Below W.heap.size W w') := fun W ak ck h1 h2 => by
                have hl : (rkeys rl).length = n := by unfold rkeys; rw [List.length_map, Hn.out]
                have h9 : Vals W8.drew W8.drew.heap.size 1 a8 n (txt (rkeys rl)) := HV9.out
                have := same_texts (rkeys rl) ak a8 ck c8 W.heap.size W (by rw [hl]; exact h1) (by rw [hl]; exact (h9.below h2).more h2.size) (by omega)
                rw [hl] at this
                exact this
              have HLn : Hid (∀ W, Pl w W g b8 en sn es rl a2 c2 hh mm → Calls Try.prog 18 #[.pointer (some ⟨g, 0, none⟩)] W fun e w' => e = .returned (.int .i64 (n : Int)) ∧ W = w') := fun W P => by rw [← hen]; exact len_any g w.heap.size en sn hh mm es W P.lru
              have HSz : Hid (∀ W, Pl w W g b8 en sn es rl a2 c2 hh mm → Calls Try.prog 19 #[.pointer (some ⟨g, 0, none⟩)] W fun e w' => e = .returned (.int .i64 (T : Int)) ∧ W = w') := fun W P => by rw [hT, ← P.cor.tot]; exact size_any g w.heap.size en sn hh mm es W P.lru
              have HRS : Hid (∀ W, Pl w W g b8 en sn es rl a2 c2 hh mm → Calls Try.prog 20 #[.agg #[.slice a2 n c2, .int .i64 (en : Int), .int .i64 (sn : Int), .int .i64 (hh : Int), .int .i64 (mm : Int)]] W fun e w' => e = .returned (.int .i64 (T : Int)) ∧ Below W.heap.size W w') := fun W P => by
                rw [hT, Hn.out]
                exact sizeR_any a2 c2 _ _ _ _ rl W.heap.size w.heap.size W P.vals (Nat.le_refl _) P.by_ (by omega) (by rw [← Hn.out]; omega)
              have z0 : W8.cell? ⟨b8, 0, none⟩ = some (.slice a2 n c2) := by rw [Hn.out]; exact HP8.out.r.cell 0
              have z1 : W8.cell? ⟨b8, 1, none⟩ = some (.int .i64 (en : Int)) := HP8.out.r.cell 1
              have z2 : W8.cell? ⟨b8, 2, none⟩ = some (.int .i64 (sn : Int)) := HP8.out.r.cell 2
              have z3 : W8.cell? ⟨b8, 3, none⟩ = some (.int .i64 (hh : Int)) := HP8.out.r.cell 3
              have z4 : W8.cell? ⟨b8, 4, none⟩ = some (.int .i64 (mm : Int)) := HP8.out.r.cell 4
              have hb8l : b8 < W8.drew.heap.size := HP8.out.r.lt
              have HUp : Hid (∀ W, Below W8.drew.heap.size W8.drew W → Pl w W g b8 en sn es rl a2 c2 hh mm) := fun W h => HP8.out.below ⟨h.os, h.tape, h.output, h.size, h.block⟩
              clear hT htot hen hsk HV9
              refine held_start (by kernel_rfl) ?_
              refine wpAnyH_take (i := 0) (oi := { dst := some 117, op := Go.Op.move (Go.Operand.tmp 7), type := 25, pos := "law.go:69", after := #[], guard := none }) (v := ?_) rfl (by kernel_rfl) (by kernel_rfl) (by kernel_rfl) (fun _ _ _ h => h) (Or.inl ⟨by rfl, ?_⟩) (Kp.refl _) ?_
              rotate_left 1
              · intro w5 hSw
                go_simp; all_goals (with_reducible rfl)
              try simp only [Act.put, List.setIfInBounds_toArray, List.set_cons_zero, List.set_cons_succ]
              refine wpAnyH_take (i := 2) (oi := { dst := some 119, op := Go.Op.move (Go.Operand.tmp 18), type := 41, pos := "law.go:69", after := #[], guard := none }) (v := ?_) rfl (by kernel_rfl) (by kernel_rfl) (by kernel_rfl) (fun _ _ _ h => h) (Or.inl ⟨by rfl, ?_⟩) (Kp.refl _) ?_
              rotate_left 1
              · intro w5 hSw
                go_simp; all_goals (with_reducible rfl)
              try simp only [Act.put, List.setIfInBounds_toArray, List.set_cons_zero, List.set_cons_succ]
              refine wpAnyH_ready (rs := [1]) (by kernel_rfl) (by simp) ?_
              refine AllReadyH.cons (o := { dst := some 118, op := Go.Op.call { callee := Go.Callee.value (Go.Operand.func 17), args := #[Go.Operand.tmp 117], argTypes := #[25] }, type := 41, pos := "law.go:69", after := #[{ on := 0, ground := Go.Ground.data }], guard := none }) rfl (fun K hK => ?_) AllReadyH.nil
              go_simp
              refine HK.out.mono ?_; rintro e Y ⟨ak, ck, rfl, hVk, hb9⟩
              go_wp2_with fail
              refine hK.out _ _ (hb9) (fun _ => ?_)
              clear hK K
              try simp only [Act.put, List.setIfInBounds_toArray, List.set_cons_zero, List.set_cons_succ]
              refine wpAnyH_ready (rs := [3]) (by kernel_rfl) (by simp) ?_
              refine AllReadyH.cons (o := { dst := some 120, op := Go.Op.call { callee := Go.Callee.value (Go.Operand.func 16), args := #[Go.Operand.tmp 118, Go.Operand.tmp 119], argTypes := #[41, 41] }, type := 4, pos := "law.go:69", after := #[{ on := 1, ground := Go.Ground.data }, { on := 2, ground := Go.Ground.data }, { on := 1, ground := Go.Ground.chain }], guard := none }) rfl (fun K hK => ?_) AllReadyH.nil
              go_simp
              refine (HSm.out Y ak ck hVk hb9).mono ?_; rintro e Y2 ⟨rfl, hb10⟩; have hb11 := hb9.trans (hb10.mono hb9.size); have hp2 := HUp.out _ hb11; clear hVk
              go_wp2_with fail
              refine hK.out _ _ (hb11) (fun _ => ?_)
              clear hK K
              try simp only [Act.put, List.setIfInBounds_toArray, List.set_cons_zero, List.set_cons_succ]
              refine wpAnyH_take (i := 4) (oi := { dst := some 121, op := Go.Op.unOp Go.UnOp.not 4 (Go.Operand.tmp 120), type := 4, pos := "law.go:69", after := #[{ on := 3, ground := Go.Ground.data }], guard := none }) (v := ?_) rfl (by kernel_rfl) (by kernel_rfl) (by kernel_rfl) (fun _ _ _ h => h) (Or.inl ⟨by rfl, ?_⟩) (hb11) ?_
              rotate_left 1
              · intro w5 hSw
                go_simp; all_goals (with_reducible rfl)
              try simp only [Act.put, List.setIfInBounds_toArray, List.set_cons_zero, List.set_cons_succ]
              refine wpAnyH_take (i := 5) (oi := { dst := some 122, op := Go.Op.move (Go.Operand.tmp 121), type := 4, pos := "law.go:69", after := #[{ on := 4, ground := Go.Ground.data }, { on := 3, ground := Go.Ground.chain }], guard := none }) (v := ?_) rfl (by kernel_rfl) (by kernel_rfl) (by kernel_rfl) (fun _ _ _ h => h) (Or.inl ⟨by rfl, ?_⟩) (hb11) ?_
              rotate_left 1
              · intro w5 hSw
                go_simp; all_goals (with_reducible rfl)
              try simp only [Act.put, List.setIfInBounds_toArray, List.set_cons_zero, List.set_cons_succ]
              refine wpAnyH_take (i := 6) (oi := { dst := some 123, op := Go.Op.move (Go.Operand.tmp 7), type := 25, pos := "law.go:69", after := #[{ on := 5, ground := Go.Ground.guard }], guard := some (5, false) }) (v := ?_) rfl (by kernel_rfl) (by kernel_rfl) (by kernel_rfl) (fun _ _ _ h => h) (Or.inl ⟨by rfl, ?_⟩) (hb11) ?_
              rotate_left 1
              · intro w5 hSw
                go_simp; all_goals (with_reducible rfl)
              try simp only [Act.put, List.setIfInBounds_toArray, List.set_cons_zero, List.set_cons_succ]
              refine wpAnyH_take (i := 8) (oi := { dst := some 125, op := Go.Op.move (Go.Operand.tmp 18), type := 41, pos := "law.go:69", after := #[{ on := 5, ground := Go.Ground.guard }], guard := some (5, false) }) (v := ?_) rfl (by kernel_rfl) (by kernel_rfl) (by kernel_rfl) (fun _ _ _ h => h) (Or.inl ⟨by rfl, ?_⟩) (hb11) ?_
              rotate_left 1
              · intro w5 hSw
                go_simp; all_goals (with_reducible rfl)
              try simp only [Act.put, List.setIfInBounds_toArray, List.set_cons_zero, List.set_cons_succ]
              refine wpAnyH_take (i := 9) (oi := { dst := some 126, op := Go.Op.call { callee := Go.Callee.builtin Go.Builtin.len, args := #[Go.Operand.tmp 125], argTypes := #[41] }, type := 3, pos := "law.go:69", after := #[{ on := 8, ground := Go.Ground.data }, { on := 5, ground := Go.Ground.guard }], guard := some (5, false) }) (v := ?_) rfl (by kernel_rfl) (by kernel_rfl) (by kernel_rfl) (fun _ _ _ h => h) (Or.inl ⟨by rfl, ?_⟩) (hb11) ?_
              rotate_left 1
              · intro w5 hSw
                go_simp; all_goals (with_reducible rfl)
              try simp only [Act.put, List.setIfInBounds_toArray, List.set_cons_zero, List.set_cons_succ]
              refine wpAnyH_ready (rs := [7]) (by kernel_rfl) (by simp) ?_
              refine AllReadyH.cons (o := { dst := some 124, op := Go.Op.call { callee := Go.Callee.value (Go.Operand.func 18), args := #[Go.Operand.tmp 123], argTypes := #[25] }, type := 3, pos := "law.go:69", after := #[{ on := 6, ground := Go.Ground.data }, { on := 5, ground := Go.Ground.chain }, { on := 5, ground := Go.Ground.guard }], guard := some (5, false) }) rfl (fun K hK => ?_) AllReadyH.nil
              go_simp
              refine (HLn.out Y2 hp2).mono ?_; rintro e Y3 ⟨rfl, rfl⟩
              go_wp2_with fail
              refine hK.out _ _ (hb11) (fun _ => ?_)
              clear hK K
              try simp only [Act.put, List.setIfInBounds_toArray, List.set_cons_zero, List.set_cons_succ]
              refine wpAnyH_take (i := 10) (oi := { dst := some 127, op := Go.Op.binOp Go.BinOp.neq 3 (Go.Operand.tmp 124) (Go.Operand.tmp 126) 3, type := 4, pos := "law.go:69", after := #[{ on := 7, ground := Go.Ground.data }, { on := 9, ground := Go.Ground.data }, { on := 5, ground := Go.Ground.guard }], guard := some (5, false) }) (v := ?_) rfl (by kernel_rfl) (by kernel_rfl) (by kernel_rfl) (fun _ _ _ h => h) (Or.inl ⟨by rfl, ?_⟩) (hb11) ?_
              rotate_left 1
              · intro w5 hSw
                go_simp; all_goals (with_reducible rfl)
              try simp only [Act.put, List.setIfInBounds_toArray, List.set_cons_zero, List.set_cons_succ]
              refine wpAnyH_take (i := 11) (oi := { dst := some 128, op := Go.Op.pick (Go.Operand.tmp 122) (Go.Operand.const (Go.Value.bool true)) (Go.Operand.tmp 127), type := 4, pos := "law.go:69", after := #[{ on := 5, ground := Go.Ground.data }, { on := 10, ground := Go.Ground.data }], guard := none }) (v := ?_) rfl (by kernel_rfl) (by kernel_rfl) (by kernel_rfl) (fun _ _ _ h => h) (Or.inl ⟨by rfl, ?_⟩) (hb11) ?_
              rotate_left 1
              · intro w5 hSw
                go_simp; all_goals (with_reducible rfl)
              try simp only [Act.put, List.setIfInBounds_toArray, List.set_cons_zero, List.set_cons_succ]
              refine wpAnyH_take (i := 12) (oi := { dst := some 129, op := Go.Op.move (Go.Operand.tmp 128), type := 4, pos := "law.go:69", after := #[{ on := 11, ground := Go.Ground.data }, { on := 7, ground := Go.Ground.chain }], guard := none }) (v := ?_) rfl (by kernel_rfl) (by kernel_rfl) (by kernel_rfl) (fun _ _ _ h => h) (Or.inl ⟨by rfl, ?_⟩) (hb11) ?_
              rotate_left 1
              · intro w5 hSw
                go_simp; all_goals (with_reducible rfl)
              try simp only [Act.put, List.setIfInBounds_toArray, List.set_cons_zero, List.set_cons_succ]
              refine wpAnyH_take (i := 13) (oi := { dst := some 130, op := Go.Op.move (Go.Operand.tmp 7), type := 25, pos := "law.go:69", after := #[{ on := 12, ground := Go.Ground.guard }], guard := some (12, false) }) (v := ?_) rfl (by kernel_rfl) (by kernel_rfl) (by kernel_rfl) (fun _ _ _ h => h) (Or.inl ⟨by rfl, ?_⟩) (hb11) ?_
              rotate_left 1
              · intro w5 hSw
                go_simp; all_goals (with_reducible rfl)
              try simp only [Act.put, List.setIfInBounds_toArray, List.set_cons_zero, List.set_cons_succ]
              refine wpAnyH_take (i := 15) (oi := { dst := some 132, op := Go.Op.load 29 (Go.Operand.tmp 8), type := 29, pos := "law.go:69", after := #[{ on := 12, ground := Go.Ground.guard }], guard := some (12, false) }) (v := ?_) rfl (by kernel_rfl) (by kernel_rfl) (by kernel_rfl) (fun _ _ _ h => h) (Or.inl ⟨by rfl, ?_⟩) (hb11) ?_
              rotate_left 1
              · intro w5 hSw
                have q0 : w5.cell? ⟨b8, 0, none⟩ = some (.slice a2 n c2) := (hSw.cell hb8l).trans z0
                have q1 : w5.cell? ⟨b8, 1, none⟩ = some (.int .i64 (en : Int)) := (hSw.cell hb8l).trans z1
                have q2 : w5.cell? ⟨b8, 2, none⟩ = some (.int .i64 (sn : Int)) := (hSw.cell hb8l).trans z2
                have q3 : w5.cell? ⟨b8, 3, none⟩ = some (.int .i64 (hh : Int)) := (hSw.cell hb8l).trans z3
                have q4 : w5.cell? ⟨b8, 4, none⟩ = some (.int .i64 (mm : Int)) := (hSw.cell hb8l).trans z4
                go_simp; all_goals (with_reducible rfl)
              try simp only [Act.put, List.setIfInBounds_toArray, List.set_cons_zero, List.set_cons_succ]
              refine wpAnyH_ready (rs := [14]) (by kernel_rfl) (by simp) ?_
              refine AllReadyH.cons (o := { dst := some 131, op := Go.Op.call { callee := Go.Callee.value (Go.Operand.func 19), args := #[Go.Operand.tmp 130], argTypes := #[25] }, type := 3, pos := "law.go:69", after := #[{ on := 13, ground := Go.Ground.data }, { on := 12, ground := Go.Ground.chain }, { on := 12, ground := Go.Ground.guard }], guard := some (12, false) }) rfl (fun K hK => ?_) AllReadyH.nil
              go_simp
              refine (HSz.out Y2 hp2).mono ?_; rintro e Y3 ⟨rfl, rfl⟩
              go_wp2_with fail
              refine hK.out _ _ (hb11) (fun _ => ?_)
              clear hK K
              try simp only [Act.put, List.setIfInBounds_toArray, List.set_cons_zero, List.set_cons_succ]
              refine wpAnyH_ready (rs := [16]) (by kernel_rfl) (by simp) ?_
              refine AllReadyH.cons (o := { dst := some 133, op := Go.Op.call { callee := Go.Callee.value (Go.Operand.func 20), args := #[Go.Operand.tmp 132], argTypes := #[29] }, type := 3, pos := "law.go:69", after := #[{ on := 15, ground := Go.Ground.data }, { on := 14, ground := Go.Ground.chain }, { on := 12, ground := Go.Ground.guard }], guard := some (12, false) }) rfl (fun K hK => ?_) AllReadyH.nil
              go_simp
              refine (HRS.out Y2 hp2).mono ?_; rintro e Y4 ⟨rfl, hb12⟩; have hb13 := hb11.trans (hb12.mono hb11.size)
              go_wp2_with fail
              refine hK.out _ _ (hb13) (fun _ => ?_)
              clear hK K
              try simp only [Act.put, List.setIfInBounds_toArray, List.set_cons_zero, List.set_cons_succ]
              refine wpAnyH_take (i := 17) (oi := { dst := some 134, op := Go.Op.binOp Go.BinOp.neq 3 (Go.Operand.tmp 131) (Go.Operand.tmp 133) 3, type := 4, pos := "law.go:69", after := #[{ on := 14, ground := Go.Ground.data }, { on := 16, ground := Go.Ground.data }, { on := 12, ground := Go.Ground.guard }], guard := some (12, false) }) (v := ?_) rfl (by kernel_rfl) (by kernel_rfl) (by kernel_rfl) (fun _ _ _ h => h) (Or.inl ⟨by rfl, ?_⟩) (hb13) ?_
              rotate_left 1
              · intro w5 hSw
                go_simp; all_goals (with_reducible rfl)
              try simp only [Act.put, List.setIfInBounds_toArray, List.set_cons_zero, List.set_cons_succ]
              refine wpAnyH_take (i := 18) (oi := { dst := some 135, op := Go.Op.pick (Go.Operand.tmp 129) (Go.Operand.const (Go.Value.bool true)) (Go.Operand.tmp 134), type := 4, pos := "law.go:69", after := #[{ on := 12, ground := Go.Ground.data }, { on := 17, ground := Go.Ground.data }], guard := none }) (v := ?_) rfl (by kernel_rfl) (by kernel_rfl) (by kernel_rfl) (fun _ _ _ h => h) (Or.inl ⟨by rfl, ?_⟩) (hb13) ?_
              rotate_left 1
              · intro w5 hSw
                go_simp; all_goals (with_reducible rfl)
              try simp only [Act.put, List.setIfInBounds_toArray, List.set_cons_zero, List.set_cons_succ]
              refine wpAnyH_take (i := 19) (oi := { dst := some 136, op := Go.Op.move (Go.Operand.tmp 135), type := 4, pos := "law.go:69", after := #[{ on := 18, ground := Go.Ground.data }, { on := 16, ground := Go.Ground.chain }], guard := none }) (v := ?_) rfl (by kernel_rfl) (by kernel_rfl) (by kernel_rfl) (fun _ _ _ h => h) (Or.inl ⟨by rfl, ?_⟩) (hb13) ?_
              rotate_left 1
              · intro w5 hSw
                go_simp; all_goals (with_reducible rfl)
              try simp only [Act.put, List.setIfInBounds_toArray, List.set_cons_zero, List.set_cons_succ]
              refine wpAnyH_take (i := 20) (oi := { dst := some 137, op := Go.Op.move (Go.Operand.tmp 20), type := 3, pos := "law.go:69", after := #[{ on := 19, ground := Go.Ground.guard }], guard := some (19, false) }) (v := ?_) rfl (by kernel_rfl) (by kernel_rfl) (by kernel_rfl) (fun _ _ _ h => h) (Or.inl ⟨by rfl, ?_⟩) (hb13) ?_
              rotate_left 1
              · intro w5 hSw
                go_simp; all_goals (with_reducible rfl)
              try simp only [Act.put, List.setIfInBounds_toArray, List.set_cons_zero, List.set_cons_succ]
              refine wpAnyH_take (i := 21) (oi := { dst := some 138, op := Go.Op.fieldAddr 29 (Go.Operand.tmp 8) 3, type := 0, pos := "law.go:69", after := #[{ on := 19, ground := Go.Ground.guard }], guard := some (19, false) }) (v := ?_) rfl (by kernel_rfl) (by kernel_rfl) (by kernel_rfl) (fun _ _ _ h => h) (Or.inl ⟨by rfl, ?_⟩) (hb13) ?_
              rotate_left 1
              · intro w5 hSw
                go_simp; all_goals (with_reducible rfl)
              try simp only [Act.put, List.setIfInBounds_toArray, List.set_cons_zero, List.set_cons_succ]
              refine wpAnyH_take (i := 22) (oi := { dst := some 139, op := Go.Op.load 3 (Go.Operand.tmp 138), type := 3, pos := "law.go:69", after := #[{ on := 21, ground := Go.Ground.data }, { on := 19, ground := Go.Ground.guard }], guard := some (19, false) }) (v := ?_) rfl (by kernel_rfl) (by kernel_rfl) (by kernel_rfl) (fun _ _ _ h => h) (Or.inl ⟨by rfl, ?_⟩) (hb13) ?_
              rotate_left 1
              · intro w5 hSw
                have q3 : w5.cell? ⟨b8, 3, none⟩ = some (.int .i64 (hh : Int)) := (hSw.cell hb8l).trans z3
                go_simp; all_goals (with_reducible rfl)
              try simp only [Act.put, List.setIfInBounds_toArray, List.set_cons_zero, List.set_cons_succ]
              refine wpAnyH_take (i := 23) (oi := { dst := some 140, op := Go.Op.binOp Go.BinOp.neq 3 (Go.Operand.tmp 137) (Go.Operand.tmp 139) 3, type := 4, pos := "law.go:69", after := #[{ on := 20, ground := Go.Ground.data }, { on := 22, ground := Go.Ground.data }, { on := 19, ground := Go.Ground.guard }], guard := some (19, false) }) (v := ?_) rfl (by kernel_rfl) (by kernel_rfl) (by kernel_rfl) (fun _ _ _ h => h) (Or.inl ⟨by rfl, ?_⟩) (hb13) ?_
              rotate_left 1
              · intro w5 hSw
                go_simp; all_goals (with_reducible rfl)
              try simp only [Act.put, List.setIfInBounds_toArray, List.set_cons_zero, List.set_cons_succ]
              refine wpAnyH_take (i := 24) (oi := { dst := some 141, op := Go.Op.pick (Go.Operand.tmp 136) (Go.Operand.const (Go.Value.bool true)) (Go.Operand.tmp 140), type := 4, pos := "law.go:69", after := #[{ on := 19, ground := Go.Ground.data }, { on := 23, ground := Go.Ground.data }], guard := none }) (v := ?_) rfl (by kernel_rfl) (by kernel_rfl) (by kernel_rfl) (fun _ _ _ h => h) (Or.inl ⟨by rfl, ?_⟩) (hb13) ?_
              rotate_left 1
              · intro w5 hSw
                go_simp; all_goals (with_reducible rfl)
              try simp only [Act.put, List.setIfInBounds_toArray, List.set_cons_zero, List.set_cons_succ]
              refine wpAnyH_take (i := 25) (oi := { dst := some 142, op := Go.Op.move (Go.Operand.tmp 141), type := 4, pos := "law.go:69", after := #[{ on := 24, ground := Go.Ground.data }, { on := 19, ground := Go.Ground.chain }], guard := none }) (v := ?_) rfl (by kernel_rfl) (by kernel_rfl) (by kernel_rfl) (fun _ _ _ h => h) (Or.inl ⟨by rfl, ?_⟩) (hb13) ?_
              rotate_left 1
              · intro w5 hSw
                go_simp; all_goals (with_reducible rfl)
              try simp only [Act.put, List.setIfInBounds_toArray, List.set_cons_zero, List.set_cons_succ]
              refine wpAnyH_take (i := 26) (oi := { dst := some 143, op := Go.Op.move (Go.Operand.tmp 21), type := 3, pos := "law.go:69", after := #[{ on := 25, ground := Go.Ground.guard }], guard := some (25, false) }) (v := ?_) rfl (by kernel_rfl) (by kernel_rfl) (by kernel_rfl) (fun _ _ _ h => h) (Or.inl ⟨by rfl, ?_⟩) (hb13) ?_
              rotate_left 1
              · intro w5 hSw
                go_simp; all_goals (with_reducible rfl)
              try simp only [Act.put, List.setIfInBounds_toArray, List.set_cons_zero, List.set_cons_succ]
              refine wpAnyH_take (i := 27) (oi := { dst := some 144, op := Go.Op.fieldAddr 29 (Go.Operand.tmp 8) 4, type := 0, pos := "law.go:69", after := #[{ on := 25, ground := Go.Ground.guard }], guard := some (25, false) }) (v := ?_) rfl (by kernel_rfl) (by kernel_rfl) (by kernel_rfl) (fun _ _ _ h => h) (Or.inl ⟨by rfl, ?_⟩) (hb13) ?_
              rotate_left 1
              · intro w5 hSw
                go_simp; all_goals (with_reducible rfl)
              try simp only [Act.put, List.setIfInBounds_toArray, List.set_cons_zero, List.set_cons_succ]
              refine wpAnyH_take (i := 28) (oi := { dst := some 145, op := Go.Op.load 3 (Go.Operand.tmp 144), type := 3, pos := "law.go:69", after := #[{ on := 27, ground := Go.Ground.data }, { on := 25, ground := Go.Ground.guard }], guard := some (25, false) }) (v := ?_) rfl (by kernel_rfl) (by kernel_rfl) (by kernel_rfl) (fun _ _ _ h => h) (Or.inl ⟨by rfl, ?_⟩) (hb13) ?_
              rotate_left 1
              · intro w5 hSw
                have q4 : w5.cell? ⟨b8, 4, none⟩ = some (.int .i64 (mm : Int)) := (hSw.cell hb8l).trans z4
                go_simp; all_goals (with_reducible rfl)
              try simp only [Act.put, List.setIfInBounds_toArray, List.set_cons_zero, List.set_cons_succ]
              refine wpAnyH_take (i := 29) (oi := { dst := some 146, op := Go.Op.binOp Go.BinOp.neq 3 (Go.Operand.tmp 143) (Go.Operand.tmp 145) 3, type := 4, pos := "law.go:69", after := #[{ on := 26, ground := Go.Ground.data }, { on := 28, ground := Go.Ground.data }, { on := 25, ground := Go.Ground.guard }], guard := some (25, false) }) (v := ?_) rfl (by kernel_rfl) (by kernel_rfl) (by kernel_rfl) (fun _ _ _ h => h) (Or.inl ⟨by rfl, ?_⟩) (hb13) ?_
              rotate_left 1
              · intro w5 hSw
                go_simp; all_goals (with_reducible rfl)
              try simp only [Act.put, List.setIfInBounds_toArray, List.set_cons_zero, List.set_cons_succ]
              refine wpAnyH_take (i := 30) (oi := { dst := some 147, op := Go.Op.pick (Go.Operand.tmp 142) (Go.Operand.const (Go.Value.bool true)) (Go.Operand.tmp 146), type := 4, pos := "law.go:69", after := #[{ on := 25, ground := Go.Ground.data }, { on := 29, ground := Go.Ground.data }], guard := none }) (v := ?_) rfl (by kernel_rfl) (by kernel_rfl) (by kernel_rfl) (fun _ _ _ h => h) (Or.inl ⟨by rfl, ?_⟩) (hb13) ?_
              rotate_left 1
              · intro w5 hSw
                go_simp; all_goals (with_reducible rfl)
              try simp only [Act.put, List.setIfInBounds_toArray, List.set_cons_zero, List.set_cons_succ]
              refine wpAnyH_done (by kernel_rfl) ?_ _
              have HPf := Lib.hid (HUp.out _ hb13)
              clear HUp HRS HSz HLn HSm HK z0 z1 z2 z3 z4 hb8l HP8 hb9 hb10 hb11 hb12 hb13 hp2
              go_wp2_with fail
              go_roundw
              case rel => exact ⟨k + 1, by go_num, Hlt.out, es, rl, a2, c2, hh, mm, HPf.out, HB.out⟩
              case measure => simp [intOf] <;> omega
      · obtain rfl : l.length = k := by omega
        have d1 : decide ((l.length : Int) < (l.length : Int)) = false := decide_eq_false (by omega)
        obtain ⟨es, rl, a2, c2, hh, mm, P, B⟩ := HP.out
        have HBw := Lib.hid P.bel
        clear P B HP
        go_wp2_with fail
        refine (live34_any _).mono ?_
        rintro e Y ⟨rfl, hB⟩
        have HB := Lib.hid (HBw.out.trans (hB.mono HBw.out.size))
        clear hB
        go_wp2_with fail
        go_ret
        exact ⟨rfl, HB.out⟩
end Go.Proofs.Ythbgijpakjfjkaa
