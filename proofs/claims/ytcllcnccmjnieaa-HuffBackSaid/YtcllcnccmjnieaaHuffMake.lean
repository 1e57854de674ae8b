/- Walks over layer 3: the reference's Make. -/
import Derived.Test.YtcllcnccmjnieaaHuffRd
namespace Go.Proofs.Ytcllcnccmjnieaa
open Go.RowKit Huff
set_option linter.unusedVariables false
set_option maxRecDepth 100000

/-- The book's cells. -/
def bcells (F : Nat → Nat) (v : Nat → Value) : List Value := ((List.range 16).map fun k => Value.int .i64 (F k : Int)) ++ (List.range 16).map v
theorem bcells_lit (F : Nat → Nat) (v : Nat → Value) : bcells F v = [.int .i64 (F 0 : Int), .int .i64 (F 1 : Int), .int .i64 (F 2 : Int), .int .i64 (F 3 : Int), .int .i64 (F 4 : Int), .int .i64 (F 5 : Int), .int .i64 (F 6 : Int), .int .i64 (F 7 : Int), .int .i64 (F 8 : Int), .int .i64 (F 9 : Int), .int .i64 (F 10 : Int), .int .i64 (F 11 : Int), .int .i64 (F 12 : Int), .int .i64 (F 13 : Int), .int .i64 (F 14 : Int), .int .i64 (F 15 : Int), v 0, v 1, v 2, v 3, v 4, v 5, v 6, v 7, v 8, v 9, v 10, v 11, v 12, v 13, v 14, v 15] := rfl
theorem bcells_first (F : Nat → Nat) (v : Nat → Value) {k : Nat} (h : k < 16) : (bcells F v)[k]? = some (.int .i64 (F k : Int)) := by
  rcases below16 h with rfl | rfl | rfl | rfl | rfl | rfl | rfl | rfl | rfl | rfl | rfl | rfl | rfl | rfl | rfl | rfl <;> rfl
theorem bcells_of (F : Nat → Nat) (v : Nat → Value) {k : Nat} (h : k < 16) : (bcells F v)[16 + k]? = some (v k) := by
  rcases below16 h with rfl | rfl | rfl | rfl | rfl | rfl | rfl | rfl | rfl | rfl | rfl | rfl | rfl | rfl | rfl | rfl <;> rfl
theorem bcells_setv (F : Nat → Nat) (v : Nat → Value) {k : Nat} (h : k < 16) (u : Value) : (bcells F v).set (16 + k) u = bcells F (upd v k u) := by
  rcases below16 h with rfl | rfl | rfl | rfl | rfl | rfl | rfl | rfl | rfl | rfl | rfl | rfl | rfl | rfl | rfl | rfl <;> rfl
theorem bcells_setf (F : Nat → Nat) (v : Nat → Value) {k : Nat} (h : k < 16) (n : Nat) : (bcells F v).set k (.int .i64 (n : Int)) = bcells (upd F k n) v := by
  rcases below16 h with rfl | rfl | rfl | rfl | rfl | rfl | rfl | rfl | rfl | rfl | rfl | rfl | rfl | rfl | rfl | rfl <;> rfl
theorem bcells_congr {F F' : Nat → Nat} {v : Nat → Value} (h : ∀ k, F k = F' k) : bcells F v = bcells F' v := by rw [show F = F' from funext h]
theorem Whole.bsetv {W : World} {g : Nat} {F : Nat → Nat} {v : Nat → Value} (h : Whole W g 44 (bcells F v).toArray) {k : Nat} (hk : k < 16) (u : Value) :
    Whole (W.setCell ⟨g, 16 + k, none⟩ u) g 44 (bcells F (upd v k u)).toArray := by
  have := h.set (16 + k) u
  rw [List.setIfInBounds_toArray, bcells_setv F v hk u] at this
  exact this
theorem Whole.bsetf {W : World} {g : Nat} {F : Nat → Nat} {v : Nat → Value} (h : Whole W g 44 (bcells F v).toArray) {k : Nat} (hk : k < 16) (n : Nat) :
    Whole (W.setCell ⟨g, k, none⟩ (.int .i64 (n : Int))) g 44 (bcells (upd F k n) v).toArray := by
  have := h.set k (.int .i64 (n : Int))
  rw [List.setIfInBounds_toArray, bcells_setf F v hk n] at this
  exact this
/-- The rows of the book: those of length 0 are left out. -/
def rowsTo (l : List Nat) (n j : Nat) : List Nat := if j = 0 then [] else symsTo l j n
theorem rowsTo_upd (l : List Nat) (k : Nat) (hk : k < l.length) (h0 : 0 < l[k]) : upd (fun j => rowsTo l k j) (l[k]) (rowsTo l k (l[k]) ++ [k]) = fun j => rowsTo l (k + 1) j := by
  have h := symsTo_upd l k hk
  funext j
  have hj : (if j = l[k] then symsTo l (l[k]) k ++ [k] else symsTo l j k) = symsTo l j (k + 1) := congrFun h j
  show (if j = l[k] then rowsTo l k (l[k]) ++ [k] else rowsTo l k j) = rowsTo l (k + 1) j
  unfold rowsTo
  by_cases e : j = l[k]
  · rw [if_pos e] at hj ⊢
    rw [if_neg (by omega), if_neg (by omega)]
    exact hj
  · rw [if_neg e] at hj ⊢
    by_cases e0 : j = 0
    · rw [if_pos e0, if_pos e0]
    · rw [if_neg e0, if_neg e0]; exact hj
theorem rowsTo_skip (l : List Nat) (k : Nat) (hk : k < l.length) (h0 : l[k] = 0) : (fun j => rowsTo l k j) = fun j => rowsTo l (k + 1) j := by
  funext j
  unfold rowsTo
  by_cases e0 : j = 0
  · rw [if_pos e0, if_pos e0]
  · rw [if_neg e0, if_neg e0]
    have hd : l.getD k 99 = l[k] := by simp [hk]
    show _ = symsTo l j k ++ if l.getD k 99 = j then [k] else []
    rw [hd, if_neg (by omega), List.append_nil]
theorem rowsTo_len (l : List Nat) (k j : Nat) : (rowsTo l k j).length ≤ k := by
  unfold rowsTo
  split
  · simp
  · exact symsTo_len l j k
structure BookV (w : World) (base : Nat) (l : List Nat) (bv : Value) : Prop where
  ex : ∃ v : Nat → Value, bv = .agg (bcells (firstTo l 16) v).toArray ∧ (bcells (firstTo l 16) v).toArray.all (·.oneCell') = true ∧ ∀ k, 1 ≤ k → k ≤ 15 → ∃ a cc, v k = .slice a (syms l k).length cc ∧ Nums .i64 w w.heap.size a (syms l k) ∧ ∀ b, (v k).ownBlock = some b → base ≤ b
theorem BookV.below {w w' : World} {base : Nat} {l : List Nat} {bv : Value} (h : BookV w base l bv) (hb : Below w.heap.size w w') : BookV w' base l bv := by
  obtain ⟨v, h1, h9, h2⟩ := h
  refine ⟨v, h1, h9, fun k h3 h4 => ?_⟩
  obtain ⟨a, cc, h5, h6, h7⟩ := h2 k h3 h4
  exact ⟨a, cc, h5, (h6.below hb).more hb.size, h7⟩
theorem BookV.only {S : Nat → Prop} {w w' : World} {base : Nat} {l : List Nat} {bv : Value} (h : BookV w base l bv) (ho : Only S w w') (hS : ∀ b, base ≤ b → ¬ S b) : BookV w' base l bv := by
  obtain ⟨v, h1, h9, h2⟩ := h
  refine ⟨v, h1, h9, fun k h3 h4 => ?_⟩
  obtain ⟨a, cc, h5, h6, h7⟩ := h2 k h3 h4
  refine ⟨a, cc, h5, fun hp => ?_, h7⟩
  obtain ⟨b, off, rfl, hb, hc⟩ := h6 hp
  exact ⟨b, off, rfl, Nat.lt_of_lt_of_le hb ho.size, fun i hi => (ho.cell (p := ⟨b, off + i, none⟩) hb (hS b (h7 b (by rw [h5]; rfl)))).trans (hc i hi)⟩
def MakePost (w : World) (l : List Nat) (e : Ending) (w' : World) : Prop := ∃ bv, e = .returned bv ∧ BookV w' w.heap.size l bv ∧ Below w.heap.size w w'

set_option maxHeartbeats 8000000 in
theorem make_any (A : Option Addr) (c : Nat) (l : List Nat) (w : World) (hN : Nums .i64 w w.heap.size A l) (hl : l.length ≤ 288) (hb : ∀ x ∈ l, x ≤ 15) :
    Calls Try.prog 16 #[.slice A l.length c] w (MakePost w l) := by
  obtain ⟨i1, hi1, hy0, hy1, hy2⟩ := info_parts i64info
  obtain ⟨L, hL⟩ : ∃ L, L = l.length := ⟨_, rfl⟩
  have HN := Lib.hid hN
  rw [← hL] at hl ⊢
  have HL := Lib.hid hL
  have Hb := Lib.hid hb
  clear hN hL hb
  go_enter Try.func16, Try.ntmps16
  go_upto_region 2 with (fail)
  obtain ⟨X1, hX1⟩ : ∃ X, X = w.alloc (.cells (bcells (fun _ => 0) (fun _ => .slice none 0 0)).toArray 44) := ⟨_, rfl⟩
  obtain ⟨X2, hX2⟩ : ∃ X, X = X1.alloc (.cells (bcells (fun _ => 0) (fun _ => .slice none 0 0)).toArray 44) := ⟨_, rfl⟩
  obtain ⟨gr, hgr⟩ : ∃ g, g = w.heap.size := ⟨_, rfl⟩
  obtain ⟨gc, hgc⟩ : ∃ g, g = w.heap.size + 1 := ⟨_, rfl⟩
  have hs1 : X1.heap.size = w.heap.size + 1 := by rw [hX1]; simp
  have hs2 : X2.heap.size = w.heap.size + 2 := by rw [hX2]; simp [hs1]
  have HR0 : Hid (Whole X2 gr 44 (bcells (fun _ => 0) (fun _ => .slice none 0 0)).toArray) := by rw [hX2, hX1, hgr]; exact (Whole.new w _ _).alloc _
  have HC0 : Hid (Whole X2 gc 44 (bcells (fun _ => 0) (fun _ => .slice none 0 0)).toArray) := by rw [hX2, hgc, ← hs1]; exact Whole.new X1 _ _
  have HB0 : Hid (Below w.heap.size w X2) := by rw [hX2, hX1]; exact ((Below.refl _ _).alloc (Nat.le_refl _) _).alloc (by simp) _
  have HG0 : Hid (Grp X2 (gc + 1) (fun _ => .slice none 0 0) (fun j => rowsTo l 0 j)) := (Grp.nil_ _ _).congr (fun j _ => by unfold rowsTo; split <;> rfl)
  have e2 : (w.alloc (.cells #[.int .i64 0, .int .i64 0, .int .i64 0, .int .i64 0, .int .i64 0, .int .i64 0, .int .i64 0, .int .i64 0, .int .i64 0, .int .i64 0, .int .i64 0, .int .i64 0, .int .i64 0, .int .i64 0, .int .i64 0, .int .i64 0, .slice none 0 0, .slice none 0 0, .slice none 0 0, .slice none 0 0, .slice none 0 0, .slice none 0 0, .slice none 0 0, .slice none 0 0, .slice none 0 0, .slice none 0 0, .slice none 0 0, .slice none 0 0, .slice none 0 0, .slice none 0 0, .slice none 0 0, .slice none 0 0] 44)).alloc (.cells #[.int .i64 0, .int .i64 0, .int .i64 0, .int .i64 0, .int .i64 0, .int .i64 0, .int .i64 0, .int .i64 0, .int .i64 0, .int .i64 0, .int .i64 0, .int .i64 0, .int .i64 0, .int .i64 0, .int .i64 0, .int .i64 0, .slice none 0 0, .slice none 0 0, .slice none 0 0, .slice none 0 0, .slice none 0 0, .slice none 0 0, .slice none 0 0, .slice none 0 0, .slice none 0 0, .slice none 0 0, .slice none 0 0, .slice none 0 0, .slice none 0 0, .slice none 0 0, .slice none 0 0, .slice none 0 0] 44) = X2 := by rw [hX2, hX1]; rfl
  rw [e2, ← hgc, ← hgr]
  have Hgr := Lib.hid hgr
  have Hgc := Lib.hid hgc
  have Hs2 : Hid (gc + 1 ≤ X2.heap.size) := by show _ ≤ _; omega
  clear hX1 hX2 hs1 hs2 e2 hgr hgc
  go_wp2_with fail
  go_loopw [5] (fun x W => ∃ (k : Nat) (v : Nat → Value), k ≤ L ∧ x = .int .i64 (k : Int) ∧ Hid (Grp W (gc + 1) v (fun j => rowsTo l k j)) ∧ Hid (Whole W gc 44 (bcells (fun _ => 0) v).toArray ∧ Whole W gr 44 (bcells (fun _ => 0) (fun _ => .slice none 0 0)).toArray) ∧ Hid (Below w.heap.size w W)) (fun x _ => L - (intOf x).toNat)
  case atStart => exact ⟨0, _, Nat.zero_le _, rfl, HG0, ⟨HC0.out, HR0.out⟩, HB0⟩
  case round =>
    obtain ⟨k, v, hk, rfl, HG, HC, HB⟩ := hrel
    clear HG0 HC0 HR0 HB0 Hs2
    have hcw : gc + 1 ≤ wr.heap.size := HC.out.1.lt
    by_cases hlt : k < L
    · have hkl : k < l.length := by have := HL.out; omega
      obtain ⟨b1, o1, rfl, hb1, hc⟩ := HN.out (by omega)
      have p0 := (HB.out.cell (p := ⟨b1, o1 + k, none⟩) hb1).trans (hc k hkl)
      have hge : l.getD k 0 = l[k] := by simp [hkl]
      rw [hge] at p0
      have hn15 := Hb.out _ (List.getElem_mem hkl)
      have hup := rowsTo_upd l k hkl
      have hsk := rowsTo_skip l k hkl
      generalize l[k]'hkl = n at *
      have hk0 : (0 : Int) ≤ (k : Int) := by omega
      have hk1 : (k : Int) < (L : Int) := by omega
      by_cases hn00 : n = 0
      · have d1 : decide ((0 : Int) < (n : Int)) = false := decide_eq_false (by omega)
        have d2 : decide (0 < n) = false := decide_eq_false (by omega)
        have HG4 : Hid (Grp wr (gc + 1) v (fun j => rowsTo l (k + 1) j)) := by rw [← hsk hn00]; exact HG.out
        clear hup hsk hc hge hn00 HG
        go_wp2_with fail
        go_roundw
        case rel => exact ⟨k + 1, v, by omega, by go_num, HG4, HC, HB⟩
        case measure => simp [intOf]; omega
      have d1 : decide ((0 : Int) < (n : Int)) = true := decide_eq_true (by omega)
      have d2 : decide (0 < n) = true := decide_eq_true (by omega)
      have hup := hup (by omega)
      have hn0 : (0 : Int) ≤ (n : Int) := by omega
      have hn1 : (n : Int) < 16 := by omega
      have hn16 : n < 16 := by omega
      have hln := rowsTo_len l k n
      have hown := HG.out.own n hn16
      have hown2 : (wr.drew.alloc (.cells #[.int .i64 (k : Int)] 3)).ownsRow (gc + 1) 3 1 (v n) (rowsTo l k n).length (i64s (rowsTo l k n)) := World.ownsRow.alloc (w := wr.drew) hown _
      have hV : Vals (wr.drew.alloc (.cells #[.int .i64 (k : Int)] 3)) (wr.heap.size + 1) 1 (some ⟨wr.heap.size, 0, none⟩) 1 (i64s [k]) := (Vals.of_block (xs := i64s [k]) (heap_alloc_new wr.drew _) rfl).more (by simp)
      obtain ⟨v3, w3, hrun, h2, h3, h5⟩ := run_append_vals (P := Try.prog) (gc + 1) 22 22 3 i1 _ 1 8 Try.underlying22 hi1 hy0 hy1 hy2 rfl (by omega) (v n) _ _ hown2 (wr.heap.size + 1) (some ⟨wr.heap.size, 0, none⟩) 1 1 _ hV (i64s_one _) (by unfold maxLen; omega) (by omega) (by simp; omega)
      have hg : Gone64 wr.drew (gc + 1) (v n) (rowsTo l k n ++ [k]) v3 w3 := Gone64.grown h2 (by simp) (by rw [i64s_append]) ((World.grownBy_alloc wr.drew _ _).trans h3) (by
        rcases h5 with h5 | h5
        · exact .inl h5
        · exact .inr ⟨_, h5, by simp⟩)
      have hg' := hg.undrew
      obtain ⟨a3, m3, c3, rfl⟩ : ∃ a m c, v3 = .slice a m c := by obtain ⟨a, c, e, _⟩ := Own64.nums hg'.own; exact ⟨_, _, _, e⟩
      have HG3 : Grp w3 (gc + 1) (upd v n (.slice a3 m3 c3)) (fun j => rowsTo l (k + 1) j) := by
        rw [← hup]; exact HG.out.next hn16 hg' (by omega)
      have hfar : ∀ b, b ≤ gc → ¬ (v n).ownBlock = some b := fun b hb2 e => by have := (hown.lt b e).1; omega
      have hgrc : gr < gc := by have := Hgr.out; have := Hgc.out; omega
      have HC3 : Whole w3 gc 44 (bcells (fun _ => 0) v).toArray := HC.out.1.only hg'.only (hfar gc (Nat.le_refl _))
      have HR3 : Whole w3 gr 44 (bcells (fun _ => 0) (fun _ => .slice none 0 0)).toArray := HC.out.2.only hg'.only (hfar gr (by omega))
      have HB3 : Below w.heap.size w w3 := HB.out.trans (hg'.only.below (fun b hb2 e => hfar b (by have := Hgc.out; omega) e) HB.out.size)
      have HC4 : Hid (Whole (w3.setCell ⟨gc, 16 + n, none⟩ (.slice a3 m3 c3)) gc 44 (bcells (fun _ => 0) (upd v n (.slice a3 m3 c3))).toArray ∧ Whole (w3.setCell ⟨gc, 16 + n, none⟩ (.slice a3 m3 c3)) gr 44 (bcells (fun _ => 0) (fun _ => .slice none 0 0)).toArray) := ⟨HC3.bsetv hn16 (.slice a3 m3 c3), HR3.far (p := ⟨gc, 16 + n, none⟩) (by show gr ≠ gc; omega) _⟩
      have oS : Only (fun b => b = gc) w3 (w3.setCell ⟨gc, 16 + n, none⟩ (.slice a3 m3 c3)) := Only.setCell (S := fun b => b = gc) (Only.refl _ _) (p := ⟨gc, 16 + n, none⟩) (fun _ => rfl) _
      have HG4 := Lib.hid (HG3.only oS (fun b hb1 _ e => by omega))
      have HB4 := Lib.hid (HB3.setCell (p := ⟨gc, 16 + n, none⟩) (by have := Hgc.out; show _ ≤ gc; omega) (.slice a3 m3 c3))
      have Hrun := Lib.hid hrun
      have c0 : wr.cell? ⟨gc, 16 + n, none⟩ = some (v n) := by rw [HC.out.1.cell]; simpa using bcells_of _ v hn16
      have f3 : w3.frozen? ⟨gc, 16 + n, none⟩ = false := HC3.frozen _
      have d3 : w3.cell? ⟨gc, 16 + n, none⟩ = some (v n) := by rw [HC3.cell]; simpa using bcells_of _ v hn16
      have hgcw : gc < wr.heap.size := by omega
      have hb1w : b1 < wr.heap.size := by have := HB.out.size; omega
      have hb1c : b1 ≠ gc := by have := Hgc.out; omega
      have hb1h : b1 ≠ wr.heap.size := by omega
      have C0 : Hid (wr.drew.cell? ⟨b1, o1 + k, none⟩ = some (.int .i64 (n : Int))) := p0
      have C1 : Hid ((wr.drew.alloc (.cells #[.int .i64 (k : Int)] 3)).cell? ⟨b1, o1 + k, none⟩ = some (.int .i64 (n : Int))) := (((Below.refl wr.drew.heap.size wr.drew).alloc (Nat.le_refl _) _).cell (p := ⟨b1, o1 + k, none⟩) hb1w).trans p0
      have C2 : Hid (w3.cell? ⟨b1, o1 + k, none⟩ = some (.int .i64 (n : Int))) := (hg'.only.cell (p := ⟨b1, o1 + k, none⟩) hb1w (hfar b1 (by have := Hgc.out; show b1 ≤ gc; omega))).trans p0
      have C3 : Hid ((w3.setCell ⟨gc, 16 + n, none⟩ (.slice a3 m3 c3)).cell? ⟨b1, o1 + k, none⟩ = some (.int .i64 (n : Int))) := (oS.cell (p := ⟨b1, o1 + k, none⟩) (Nat.lt_of_lt_of_le hb1w hg'.only.size) hb1c).trans C2.out
      clear hc hge hup hsk hn00 hown hown2 hV hrun h2 h3 h5 hg hg' HG3 hfar HC3 HR3 HB3 oS hln HG HC HB
      go_upto_region 7 with (fail)
      refine wp_region_held (S := (fun W => W.cell? ⟨b1, o1 + k, none⟩ = some (.int .i64 (n : Int)))) (by kernel_rfl) ?_
      refine wpAnyH_take (i := 0) (oi := { dst := some 18, op := Go.Op.move (Go.Operand.tmp 0), type := 22, pos := "ref.go:124", after := #[], guard := none }) (v := ?_) rfl (by kernel_rfl) (by kernel_rfl) (by kernel_rfl) (fun _ _ _ h => h) (Or.inl ⟨by rfl, ?_⟩) (C0.out) ?_
      rotate_left 1
      · intro w5 hSw
        go_simp; all_goals (with_reducible rfl)
      try simp only [Act.put, List.setIfInBounds_toArray, List.set_cons_zero, List.set_cons_succ]
      refine wpAnyH_take (i := 1) (oi := { dst := some 19, op := Go.Op.move (Go.Operand.tmp 5), type := 3, pos := "ref.go:124", after := #[], guard := none }) (v := ?_) rfl (by kernel_rfl) (by kernel_rfl) (by kernel_rfl) (fun _ _ _ h => h) (Or.inl ⟨by rfl, ?_⟩) (C0.out) ?_
      rotate_left 1
      · intro w5 hSw
        go_simp; all_goals (with_reducible rfl)
      try simp only [Act.put, List.setIfInBounds_toArray, List.set_cons_zero, List.set_cons_succ]
      refine wpAnyH_take (i := 2) (oi := { dst := some 20, op := Go.Op.indexAddr 22 (Go.Operand.tmp 18) (Go.Operand.tmp 19), type := 0, pos := "ref.go:124", after := #[{ on := 0, ground := Go.Ground.data }, { on := 1, ground := Go.Ground.data }], guard := none }) (v := ?_) rfl (by kernel_rfl) (by kernel_rfl) (by kernel_rfl) (fun _ _ _ h => h) (Or.inl ⟨by rfl, ?_⟩) (C0.out) ?_
      rotate_left 1
      · intro w5 hSw
        go_simp; all_goals (with_reducible rfl)
      try simp only [Act.put, List.setIfInBounds_toArray, List.set_cons_zero, List.set_cons_succ]
      refine wpAnyH_take (i := 3) (oi := { dst := some 21, op := Go.Op.load 3 (Go.Operand.tmp 20), type := 3, pos := "ref.go:124", after := #[{ on := 2, ground := Go.Ground.data }], guard := none }) (v := ?_) rfl (by kernel_rfl) (by kernel_rfl) (by kernel_rfl) (fun _ _ _ h => h) (Or.inl ⟨by rfl, ?_⟩) (C0.out) ?_
      rotate_left 1
      · intro w5 hSw
        go_simp; all_goals (with_reducible rfl)
      try simp only [Act.put, List.setIfInBounds_toArray, List.set_cons_zero, List.set_cons_succ]
      refine wpAnyH_take (i := 4) (oi := { dst := some 22, op := Go.Op.move (Go.Operand.tmp 0), type := 22, pos := "ref.go:124", after := #[], guard := none }) (v := ?_) rfl (by kernel_rfl) (by kernel_rfl) (by kernel_rfl) (fun _ _ _ h => h) (Or.inl ⟨by rfl, ?_⟩) (C0.out) ?_
      rotate_left 1
      · intro w5 hSw
        go_simp; all_goals (with_reducible rfl)
      try simp only [Act.put, List.setIfInBounds_toArray, List.set_cons_zero, List.set_cons_succ]
      refine wpAnyH_take (i := 5) (oi := { dst := some 23, op := Go.Op.move (Go.Operand.tmp 5), type := 3, pos := "ref.go:124", after := #[], guard := none }) (v := ?_) rfl (by kernel_rfl) (by kernel_rfl) (by kernel_rfl) (fun _ _ _ h => h) (Or.inl ⟨by rfl, ?_⟩) (C0.out) ?_
      rotate_left 1
      · intro w5 hSw
        go_simp; all_goals (with_reducible rfl)
      try simp only [Act.put, List.setIfInBounds_toArray, List.set_cons_zero, List.set_cons_succ]
      refine wpAnyH_take (i := 6) (oi := { dst := some 24, op := Go.Op.indexAddr 22 (Go.Operand.tmp 22) (Go.Operand.tmp 23), type := 0, pos := "ref.go:124", after := #[{ on := 4, ground := Go.Ground.data }, { on := 5, ground := Go.Ground.data }], guard := none }) (v := ?_) rfl (by kernel_rfl) (by kernel_rfl) (by kernel_rfl) (fun _ _ _ h => h) (Or.inl ⟨by rfl, ?_⟩) (C0.out) ?_
      rotate_left 1
      · intro w5 hSw
        go_simp; all_goals (with_reducible rfl)
      try simp only [Act.put, List.setIfInBounds_toArray, List.set_cons_zero, List.set_cons_succ]
      refine wpAnyH_take (i := 7) (oi := { dst := some 25, op := Go.Op.load 3 (Go.Operand.tmp 24), type := 3, pos := "ref.go:124", after := #[{ on := 6, ground := Go.Ground.data }], guard := none }) (v := ?_) rfl (by kernel_rfl) (by kernel_rfl) (by kernel_rfl) (fun _ _ _ h => h) (Or.inl ⟨by rfl, ?_⟩) (C0.out) ?_
      rotate_left 1
      · intro w5 hSw
        go_simp; all_goals (with_reducible rfl)
      try simp only [Act.put, List.setIfInBounds_toArray, List.set_cons_zero, List.set_cons_succ]
      refine wpAnyH_take (i := 8) (oi := { dst := some 26, op := Go.Op.fieldAddr 44 (Go.Operand.tmp 3) 1, type := 0, pos := "ref.go:124", after := #[], guard := none }) (v := ?_) rfl (by kernel_rfl) (by kernel_rfl) (by kernel_rfl) (fun _ _ _ h => h) (Or.inl ⟨by rfl, ?_⟩) (C0.out) ?_
      rotate_left 1
      · intro w5 hSw
        go_simp; all_goals (with_reducible rfl)
      try simp only [Act.put, List.setIfInBounds_toArray, List.set_cons_zero, List.set_cons_succ]
      refine wpAnyH_take (i := 9) (oi := { dst := some 27, op := Go.Op.indexAddr 42 (Go.Operand.tmp 26) (Go.Operand.tmp 25), type := 0, pos := "ref.go:124", after := #[{ on := 8, ground := Go.Ground.data }, { on := 7, ground := Go.Ground.data }], guard := none }) (v := ?_) rfl (by kernel_rfl) (by kernel_rfl) (by kernel_rfl) (fun _ _ _ h => h) (Or.inl ⟨by rfl, ?_⟩) (C0.out) ?_
      rotate_left 1
      · intro w5 hSw
        go_simp; all_goals (with_reducible rfl)
      try simp only [Act.put, List.setIfInBounds_toArray, List.set_cons_zero, List.set_cons_succ]
      refine wpAnyH_take (i := 11) (oi := { dst := some 29, op := Go.Op.move (Go.Operand.tmp 5), type := 3, pos := "ref.go:124", after := #[], guard := none }) (v := ?_) rfl (by kernel_rfl) (by kernel_rfl) (by kernel_rfl) (fun _ _ _ h => h) (Or.inl ⟨by rfl, ?_⟩) (C0.out) ?_
      rotate_left 1
      · intro w5 hSw
        go_simp; all_goals (with_reducible rfl)
      try simp only [Act.put, List.setIfInBounds_toArray, List.set_cons_zero, List.set_cons_succ]
      refine wpAnyH_take (i := 14) (oi := { dst := some 32, op := Go.Op.fieldAddr 44 (Go.Operand.tmp 3) 1, type := 0, pos := "ref.go:124", after := #[], guard := none }) (v := ?_) rfl (by kernel_rfl) (by kernel_rfl) (by kernel_rfl) (fun _ _ _ h => h) (Or.inl ⟨by rfl, ?_⟩) (C0.out) ?_
      rotate_left 1
      · intro w5 hSw
        go_simp; all_goals (with_reducible rfl)
      try simp only [Act.put, List.setIfInBounds_toArray, List.set_cons_zero, List.set_cons_succ]
      refine wpAnyH_ready (rs := [10, 12]) (by kernel_rfl) (by simp) ?_
      refine (AllReadyH.cons (o := { dst := some 28, op := Go.Op.load 22 (Go.Operand.tmp 27), type := 22, pos := "ref.go:124", after := #[{ on := 9, ground := Go.Ground.data }], guard := none }) rfl (fun K hK => ?_) (AllReadyH.cons (o := { dst := some 30, op := Go.Op.buildSlice 22 1 #[(0, Go.Operand.tmp 29)], type := 22, pos := "ref.go:124", after := #[{ on := 11, ground := Go.Ground.data }], guard := none }) rfl (fun K hK => ?_) AllReadyH.nil))
      · go_simp
        refine hK.out _ _ (C0.out) (fun _ => ?_)
        clear hK K
        try simp only [Act.put, List.setIfInBounds_toArray, List.set_cons_zero, List.set_cons_succ]
        refine wpAnyH_ready (rs := [12]) (by kernel_rfl) (by simp) ?_
        refine (AllReadyH.cons (o := { dst := some 30, op := Go.Op.buildSlice 22 1 #[(0, Go.Operand.tmp 29)], type := 22, pos := "ref.go:124", after := #[{ on := 11, ground := Go.Ground.data }], guard := none }) rfl (fun K hK => ?_) AllReadyH.nil)
        go_simp
        refine hK.out _ _ (C1.out) (fun _ => ?_)
        clear hK K
        try simp only [Act.put, List.setIfInBounds_toArray, List.set_cons_zero, List.set_cons_succ]
        refine wpAnyH_ready (rs := [13]) (by kernel_rfl) (by simp) ?_
        refine (AllReadyH.cons (o := { dst := some 31, op := Go.Op.call { callee := Go.Callee.builtin Go.Builtin.append, args := #[Go.Operand.tmp 28, Go.Operand.tmp 30], argTypes := #[22, 22] }, type := 22, pos := "ref.go:124", after := #[{ on := 10, ground := Go.Ground.data }, { on := 12, ground := Go.Ground.data }], guard := none }) rfl (fun K hK => ?_) AllReadyH.nil)
        refine held_app (by rfl) (.tmp 28) (.tmp 30) 22 rfl _ _ (.slice a3 m3 c3) rfl rfl (Hrun.out) ?_
        refine hK.out _ _ (C2.out) (fun _ => ?_)
        clear hK K
        try simp only [Act.put, List.setIfInBounds_toArray, List.set_cons_zero, List.set_cons_succ]
        refine wpAnyH_take (i := 15) (oi := { dst := some 33, op := Go.Op.indexAddr 42 (Go.Operand.tmp 32) (Go.Operand.tmp 21), type := 0, pos := "ref.go:124", after := #[{ on := 14, ground := Go.Ground.data }, { on := 3, ground := Go.Ground.data }, { on := 0, ground := Go.Ground.phase }, { on := 1, ground := Go.Ground.phase }, { on := 2, ground := Go.Ground.phase }, { on := 3, ground := Go.Ground.phase }, { on := 4, ground := Go.Ground.phase }, { on := 5, ground := Go.Ground.phase }, { on := 6, ground := Go.Ground.phase }, { on := 7, ground := Go.Ground.phase }, { on := 8, ground := Go.Ground.phase }, { on := 9, ground := Go.Ground.phase }, { on := 10, ground := Go.Ground.phase }, { on := 11, ground := Go.Ground.phase }, { on := 12, ground := Go.Ground.phase }, { on := 13, ground := Go.Ground.phase }], guard := none }) (v := ?_) rfl (by kernel_rfl) (by kernel_rfl) (by kernel_rfl) (fun _ _ _ h => h) (Or.inl ⟨by rfl, ?_⟩) (C2.out) ?_
        rotate_left 1
        · intro w5 hSw
          go_simp; all_goals (with_reducible rfl)
        try simp only [Act.put, List.setIfInBounds_toArray, List.set_cons_zero, List.set_cons_succ]
        refine wpAnyH_ready (rs := [16]) (by kernel_rfl) (by simp) ?_
        refine (AllReadyH.cons (o := { dst := none, op := Go.Op.store 22 (Go.Operand.tmp 33) (Go.Operand.tmp 31), type := 0, pos := "ref.go:124", after := #[{ on := 15, ground := Go.Ground.data }, { on := 13, ground := Go.Ground.data }, { on := 13, ground := Go.Ground.chain }, { on := 0, ground := Go.Ground.phase }, { on := 1, ground := Go.Ground.phase }, { on := 2, ground := Go.Ground.phase }, { on := 3, ground := Go.Ground.phase }, { on := 4, ground := Go.Ground.phase }, { on := 5, ground := Go.Ground.phase }, { on := 6, ground := Go.Ground.phase }, { on := 7, ground := Go.Ground.phase }, { on := 8, ground := Go.Ground.phase }, { on := 9, ground := Go.Ground.phase }, { on := 10, ground := Go.Ground.phase }, { on := 11, ground := Go.Ground.phase }, { on := 12, ground := Go.Ground.phase }, { on := 13, ground := Go.Ground.phase }], guard := none }) rfl (fun K hK => ?_) AllReadyH.nil)
        go_simp
        refine hK.out _ _ (C3.out) (fun _ => ?_)
        clear hK K
        try simp only [Act.put, List.setIfInBounds_toArray, List.set_cons_zero, List.set_cons_succ]
        refine wpAnyH_done (by kernel_rfl) ?_ _
        go_wp2
        go_roundw
        case rel => exact ⟨k + 1, upd v n (.slice a3 m3 c3), by omega, by go_num, HG4, HC4, HB4⟩
        case measure => simp [intOf]; omega
      · go_simp
        refine hK.out _ _ (C1.out) (fun _ => ?_)
        clear hK K
        try simp only [Act.put, List.setIfInBounds_toArray, List.set_cons_zero, List.set_cons_succ]
        refine wpAnyH_ready (rs := [10]) (by kernel_rfl) (by simp) ?_
        refine (AllReadyH.cons (o := { dst := some 28, op := Go.Op.load 22 (Go.Operand.tmp 27), type := 22, pos := "ref.go:124", after := #[{ on := 9, ground := Go.Ground.data }], guard := none }) rfl (fun K hK => ?_) AllReadyH.nil)
        go_simp
        refine hK.out _ _ (C1.out) (fun _ => ?_)
        clear hK K
        try simp only [Act.put, List.setIfInBounds_toArray, List.set_cons_zero, List.set_cons_succ]
        refine wpAnyH_ready (rs := [13]) (by kernel_rfl) (by simp) ?_
        refine (AllReadyH.cons (o := { dst := some 31, op := Go.Op.call { callee := Go.Callee.builtin Go.Builtin.append, args := #[Go.Operand.tmp 28, Go.Operand.tmp 30], argTypes := #[22, 22] }, type := 22, pos := "ref.go:124", after := #[{ on := 10, ground := Go.Ground.data }, { on := 12, ground := Go.Ground.data }], guard := none }) rfl (fun K hK => ?_) AllReadyH.nil)
        refine held_app (by rfl) (.tmp 28) (.tmp 30) 22 rfl _ _ (.slice a3 m3 c3) rfl rfl (Hrun.out) ?_
        refine hK.out _ _ (C2.out) (fun _ => ?_)
        clear hK K
        try simp only [Act.put, List.setIfInBounds_toArray, List.set_cons_zero, List.set_cons_succ]
        refine wpAnyH_take (i := 15) (oi := { dst := some 33, op := Go.Op.indexAddr 42 (Go.Operand.tmp 32) (Go.Operand.tmp 21), type := 0, pos := "ref.go:124", after := #[{ on := 14, ground := Go.Ground.data }, { on := 3, ground := Go.Ground.data }, { on := 0, ground := Go.Ground.phase }, { on := 1, ground := Go.Ground.phase }, { on := 2, ground := Go.Ground.phase }, { on := 3, ground := Go.Ground.phase }, { on := 4, ground := Go.Ground.phase }, { on := 5, ground := Go.Ground.phase }, { on := 6, ground := Go.Ground.phase }, { on := 7, ground := Go.Ground.phase }, { on := 8, ground := Go.Ground.phase }, { on := 9, ground := Go.Ground.phase }, { on := 10, ground := Go.Ground.phase }, { on := 11, ground := Go.Ground.phase }, { on := 12, ground := Go.Ground.phase }, { on := 13, ground := Go.Ground.phase }], guard := none }) (v := ?_) rfl (by kernel_rfl) (by kernel_rfl) (by kernel_rfl) (fun _ _ _ h => h) (Or.inl ⟨by rfl, ?_⟩) (C2.out) ?_
        rotate_left 1
        · intro w5 hSw
          go_simp; all_goals (with_reducible rfl)
        try simp only [Act.put, List.setIfInBounds_toArray, List.set_cons_zero, List.set_cons_succ]
        refine wpAnyH_ready (rs := [16]) (by kernel_rfl) (by simp) ?_
        refine (AllReadyH.cons (o := { dst := none, op := Go.Op.store 22 (Go.Operand.tmp 33) (Go.Operand.tmp 31), type := 0, pos := "ref.go:124", after := #[{ on := 15, ground := Go.Ground.data }, { on := 13, ground := Go.Ground.data }, { on := 13, ground := Go.Ground.chain }, { on := 0, ground := Go.Ground.phase }, { on := 1, ground := Go.Ground.phase }, { on := 2, ground := Go.Ground.phase }, { on := 3, ground := Go.Ground.phase }, { on := 4, ground := Go.Ground.phase }, { on := 5, ground := Go.Ground.phase }, { on := 6, ground := Go.Ground.phase }, { on := 7, ground := Go.Ground.phase }, { on := 8, ground := Go.Ground.phase }, { on := 9, ground := Go.Ground.phase }, { on := 10, ground := Go.Ground.phase }, { on := 11, ground := Go.Ground.phase }, { on := 12, ground := Go.Ground.phase }, { on := 13, ground := Go.Ground.phase }], guard := none }) rfl (fun K hK => ?_) AllReadyH.nil)
        go_simp
        refine hK.out _ _ (C3.out) (fun _ => ?_)
        clear hK K
        try simp only [Act.put, List.setIfInBounds_toArray, List.set_cons_zero, List.set_cons_succ]
        refine wpAnyH_done (by kernel_rfl) ?_ _
        go_wp2
        go_roundw
        case rel => exact ⟨k + 1, upd v n (.slice a3 m3 c3), by omega, by go_num, HG4, HC4, HB4⟩
        case measure => simp [intOf]; omega
    · obtain rfl : L = k := by omega
      have HG1 : Hid (Grp wr (gc + 1) v (fun j => rowsTo l L j)) := HG
      have HC1 : Hid (Whole wr gc 44 (bcells (firstTo l 1) v).toArray ∧ Whole wr gr 44 (bcells (fun _ => 0) (fun _ => .slice none 0 0)).toArray) := by
        refine ⟨?_, HC.out.2⟩
        rw [bcells_congr (F := firstTo l 1) (F' := fun _ => 0) (fun k => firstTo_start l k)]; exact HC.out.1
      have HB1 := HB
      have hfs : Hid (∀ n, 1 ≤ n → n ≤ 15 → 2 * nxt l (n - 1) = fst l n ∧ nxt l (n - 1) < 10000000 ∧ fst l n + (syms l n).length = nxt l n ∧ nxt l n < 10000000) := fun n h1 h2 => by
        have hl2 : l.length ≤ 288 := by have := HL.out; omega
        obtain ⟨m, rfl⟩ : ∃ m, n = m + 1 := ⟨n - 1, by omega⟩
        exact ⟨rfl, nxt_lt l hl2 _ (by omega), rfl, nxt_lt l hl2 _ (by omega)⟩
      have Hrs : Hid (∀ n, 1 ≤ n → rowsTo l L n = syms l n) := fun n h1 => by unfold rowsTo syms; rw [if_neg (by omega), ← HL.out]
      clear HG HC HB hlt hk hcw
      go_wp2_with fail
      go_loopw [4, 6] (fun x y W => ∃ (n : Nat), 1 ≤ n ∧ n ≤ 16 ∧ y = .int .i64 (n : Int) ∧ x = .int .i64 ((nxt l (n - 1) : Nat) : Int) ∧ Hid (Grp W (gc + 1) v (fun j => rowsTo l L j)) ∧ Hid (Whole W gc 44 (bcells (firstTo l n) v).toArray ∧ Whole W gr 44 (bcells (fun _ => 0) (fun _ => .slice none 0 0)).toArray) ∧ Hid (Below w.heap.size w W)) (fun _ y _ => 16 - (intOf y).toNat)
      case atStart => exact ⟨1, by omega, by omega, rfl, rfl, HG1, HC1, HB1⟩
      case round =>
        obtain ⟨n, hn1, hn2, rfl, rfl, HG, HC, HB⟩ := hrel
        clear HG1 HC1 HB1
        by_cases hlt : n ≤ 15
        · obtain ⟨g1, g2, g3, g4⟩ := hfs.out n hn1 hlt
          obtain ⟨a, cc, hvn, _, _, _, _⟩ := (HG.out.own n (by omega)).nums
          rw [Hrs.out n hn1] at hvn
          have hgrc : gr < gc := by have := Hgr.out; have := Hgc.out; omega
          have hcf : wr.frozen? ⟨gc, n, none⟩ = false := HC.out.1.frozen _
          have hcv : wr.cell? ⟨gc, n, none⟩ = some (.int .i64 (firstTo l n n : Int)) := by rw [HC.out.1.cell]; simpa using bcells_first _ v (show n < 16 by omega)
          have HC2 : Hid (Whole (wr.setCell ⟨gc, n, none⟩ (.int .i64 ((fst l n : Nat) : Int))) gc 44 (bcells (firstTo l (n + 1)) v).toArray ∧ Whole (wr.setCell ⟨gc, n, none⟩ (.int .i64 ((fst l n : Nat) : Int))) gr 44 (bcells (fun _ => 0) (fun _ => .slice none 0 0)).toArray) := by
            refine ⟨?_, HC.out.2.far (p := ⟨gc, n, none⟩) (by show gr ≠ gc; omega) _⟩
            have := HC.out.1.bsetf (show n < 16 by omega) (fst l n)
            rw [firstTo_next l hn1] at this; exact this
          have oS : Only (fun b => b = gc) wr (wr.setCell ⟨gc, n, none⟩ (.int .i64 ((fst l n : Nat) : Int))) := Only.setCell (S := fun b => b = gc) (Only.refl _ _) (p := ⟨gc, n, none⟩) (fun _ => rfl) _
          have HG2 := Lib.hid (HG.out.only oS (fun b hb1 _ e => by omega))
          have HB2 := Lib.hid (HB.out.setCell (p := ⟨gc, n, none⟩) (by have := Hgc.out; show _ ≤ gc; omega) (.int .i64 ((fst l n : Nat) : Int)))
          have hcz2 : (wr.setCell ⟨gc, n, none⟩ (.int .i64 ((fst l n : Nat) : Int))).cell? ⟨gc, 16 + n, none⟩ = some (.slice a (syms l n).length cc) := by rw [HC2.out.1.cell, ← hvn]; simpa using bcells_of _ v (show n < 16 by omega)
          have hcz : wr.cell? ⟨gc, 16 + n, none⟩ = some (.slice a (syms l n).length cc) := by rw [HC.out.1.cell, ← hvn]; simpa using bcells_of _ v (show n < 16 by omega)
          have w2 : 2 * ((nxt l (n - 1) : Nat) : Int) = ((fst l n : Nat) : Int) := by omega
          have Hnn : Hid (((fst l n : Nat) : Int) + (((syms l n).length : Nat) : Int) = ((nxt l n : Nat) : Int)) := by show _ = _; omega
          have hFl : fst l n < 30000000 := by omega
          have hMl : (syms l n).length < 30000000 := by omega
          have hvl : nxt l (n - 1) < 10000000 := g2
          obtain ⟨v0, hv0⟩ : ∃ v, nxt l (n - 1) = v := ⟨_, rfl⟩
          rw [hv0] at w2 hvl ⊢
          generalize fst l n = F at *
          generalize (syms l n).length = M at *
          have hn0 : (0 : Int) ≤ (n : Int) := by omega
          have hn16 : (n : Int) < 16 := by omega
          have Hn2 : Hid (n + 1 - 1 = n) := by show _ = _; omega
          clear hvn g1 g2 g3 g4 HC HG HB oS hv0
          go_wp2_with fail
          go_roundw
          case rel => exact ⟨n + 1, by omega, by omega, by go_num, by rw [Hn2.out, ← Hnn.out], HG2, HC2, HB2⟩
          case measure => simp [intOf]; omega
        · obtain rfl : n = 16 := by omega
          obtain ⟨T, hT⟩ : ∃ T, T = (bcells (firstTo l 16) v).toArray := ⟨_, rfl⟩
          obtain ⟨T0, hT0⟩ : ∃ T, T = (bcells (fun _ => 0) (fun _ => .slice none 0 0)).toArray := ⟨_, rfl⟩
          have HW1 : Hid (Whole wr gc 44 T) := by rw [hT]; exact HC.out.1
          have HW0 : Hid (Whole wr gr 44 T0) := by rw [hT0]; exact HC.out.2
          have Hs1 : Hid ((Try.prog.info? 44).map (·.size) = some T.size) := by show _ = _; rw [hT]; kernel_rfl
          have Hs0 : Hid (T0.size = T.size) := by show _ = _; rw [hT, hT0]; rfl
          have Hall : Hid (T.all (·.oneCell') = true) := by
            show _ = _
            rw [hT, bcells_lit]
            have hv : ∀ j, j < 16 → (v j).oneCell' = true := fun j hj => by
              obtain ⟨a, cc, e, _⟩ := (HG.out.own j hj).nums
              rw [e]; rfl
            rw [← bcells_lit, List.all_toArray, List.all_eq_true]
            intro u hu
            unfold bcells at hu
            rcases List.mem_append.1 hu with hu | hu
            · obtain ⟨k, _, rfl⟩ := List.mem_map.1 hu; rfl
            · obtain ⟨k, hk, rfl⟩ := List.mem_map.1 hu; exact hv k (List.mem_range.1 hk)
          have HBV : Hid (BookV wr w.heap.size l (.agg T)) := by
            refine ⟨v, by rw [hT], by rw [← hT]; exact Hall.out, fun k h1 h2 => ?_⟩
            obtain ⟨a, cc, e, _, _, _, hm⟩ := (HG.out.own k (by omega)).nums
            rw [Hrs.out k h1] at e hm
            exact ⟨a, cc, e, hm, fun b hb => by have := ((HG.out.own k (by omega)).lt b hb).1; have := Hgc.out; omega⟩
          have HBf := HB
          have Hgrl : Hid (w.heap.size ≤ gr) := by show _ ≤ _; rw [Hgr.out]; exact Nat.le_refl _
          have HGf : Hid (∀ b, b < wr.heap.size → True) := fun _ _ => trivial
          have Hbv2 : Hid (BookV (wr.setRow gr T) w.heap.size l (.agg T)) := by
            refine ⟨v, by rw [hT], by rw [← hT]; exact Hall.out, fun k h1 h2 => ?_⟩
            obtain ⟨a, cc, e, _, _, _, hm⟩ := (HG.out.own k (by omega)).nums
            rw [Hrs.out k h1] at e hm
            refine ⟨a, cc, e, fun hp => ?_, fun b hb => by have := ((HG.out.own k (by omega)).lt b hb).1; have := Hgc.out; omega⟩
            obtain ⟨b, off, rfl, hbl, hcl⟩ := hm hp
            refine ⟨b, off, rfl, by simpa using hbl, fun i hi => ?_⟩
            have hbase := ((HG.out.own k (by omega)).lt b (by rw [e]; rfl)).1
            rw [← hcl i hi]
            exact cell_setRow_other wr gr T ⟨b, off + i, none⟩ (by have := Hgr.out; have := Hgc.out; show b ≠ gr; omega)
          clear hT hT0 hlt hn1 hn2 HG HC HB
          go_wp2_with (first
            | (refine wpList_load_row rfl 44 (.tmp 3) rfl gc rfl 44 T (0, 0) _ HW1.out Try.underlying44 rfl Hs1.out ?_)
            | (refine wpList_store_row rfl 44 (.tmp 2) (.tmp 51) rfl gr T rfl rfl 44 T0 HW0.out Hs1.out Hs0.out Hall.out ?_))
          exact bodyPost_ret (results_cell_row rfl _ _ gr 44 T (0, 0) _ rfl (HW0.out.row _) Try.underlying44 rfl Hs1.out) rfl ⟨_, rfl, Hbv2.out, below_setRow HBf.out Hgrl.out _⟩
end Go.Proofs.Ytcllcnccmjnieaa
