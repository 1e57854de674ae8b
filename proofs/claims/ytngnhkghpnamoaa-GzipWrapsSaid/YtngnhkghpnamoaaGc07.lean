/- Par1 Par2 -/
import Derived.RangeFuncNested
import Derived.RangeFuncBound
import Derived.RangeFuncBox
import Derived.RangeFuncCalls
import Derived.RangeFuncLeaves
import Derived.Shelf.Abstract
import Derived.WalkKit
import Derived.OwnWalkIn
import Derived.TacticsInMore
import Derived.LoopNIn
import Derived.LoopIn
import Derived.BigRegionIn
import Derived.Shelf.RegionOpen
import Derived.Stop.RegionWithIn
import Derived.IntWalk
import Derived.Test.YtngnhkghpnamoaaFind2
import Derived.Test.YtngnhkghpnamoaaGc06
namespace Go.Proofs.Ytngnhkghpnamoaa
open Go.RowKit Go.Shelf
set_option linter.unusedVariables false
set_option maxRecDepth 100000
attribute [local go_sem] Oper.semAt_some

theorem dfind_any (A : Option Addr) (c : Nat) (l : List Nat) (at' : Nat) (w : World) (hN : Nums .u8 w w.heap.size A l) (hl : l.length ≤ 1100000) (hat : at' ≤ l.length) :
    Calls Try.prog 67 #[.slice A l.length c, .int .i64 (at' : Int)] w (DFindPost w (findE l at')) := by
  by_cases h : at' < 256
  · exact dfind_near A c l at' w hN hl hat h
  · exact dfind_far A c l at' w hN hl hat (by omega)
/-- What a round keeps: what lay below n₀, and the box Bs. -/
def Kb (n₀ Bs : Nat) (W W' : World) : Prop := Below n₀ W W' ∧ W'.heap[Bs]? = W.heap[Bs]?
theorem kb_refl {n₀ Bs : Nat} (W : World) : Kb n₀ Bs W W := ⟨Below.refl _ _, rfl⟩
theorem kb_trans {n₀ Bs : Nat} {A B C : World} (h : Kb n₀ Bs A B) (k : Kb n₀ Bs B C) : Kb n₀ Bs A C := ⟨h.1.trans k.1, k.2.trans h.2⟩
theorem kb_below {n₀ Bs : Nat} {A B : World} (h : Below A.heap.size A B) (hn : n₀ ≤ A.heap.size) (hB : Bs < A.heap.size) : Kb n₀ Bs A B := ⟨h.mono hn, h.block _ hB⟩
/-- What a round has left. -/
def YOut {α : Type} (Kp : World → World → Prop) (J Jx : α → World → Prop) (x : α) (X : World) (e : Ending) (W' : World) : Prop := (e = .returned (.bool true) ∧ J x W' ∧ Kp X W') ∨ (e = .returned (.bool false) ∧ Jx x W')
def YIs {α : Type} (Kp : World → World → Prop) (J Jx : α → World → Prop) (x : α) (X : World) (t : Bool) (W' : World) : Prop := if t then J x W' ∧ Kp X W' else Jx x W'
theorem yout_parts {α : Type} {Kp : World → World → Prop} {J Jx : α → World → Prop} {x : α} {X : World} {e : Ending} {W' : World} (h : (e = .returned (.bool true) ∧ J x W' ∧ Kp X W') ∨ (e = .returned (.bool false) ∧ Jx x W')) :
    ∃ t, e = .returned (.bool t) ∧ Hid (YIs Kp J Jx x X t W') := by
  rcases h with ⟨h1, h2, h3⟩ | ⟨h1, h2⟩
  · exact ⟨true, h1, by show YIs _ _ _ _ _ _ _; unfold YIs; simp; exact ⟨h2, h3⟩⟩
  · exact ⟨false, h1, by show YIs _ _ _ _ _ _ _; unfold YIs; simp; exact h2⟩
theorem yout_yes {α : Type} {Kp : World → World → Prop} {J Jx : α → World → Prop} {x : α} {X W' : World} (h : YIs Kp J Jx x X true W') : J x W' ∧ Kp X W' := by unfold YIs at h; simpa using h
theorem yout_no {α : Type} {Kp : World → World → Prop} {J Jx : α → World → Prop} {x : α} {X W' : World} (h : YIs Kp J Jx x X false W') : Jx x W' := by unfold YIs at h; simpa using h
theorem grown_below {W X : World} (h : Below W.heap.size W X) : W.grownBy X none := ⟨h.os, h.tape, h.output, h.size, fun k hk _ => h.block k hk⟩
def encM (x : Mt) : Array Value := #[.agg (mcs x.1)]

set_option maxHeartbeats 8000000 in
theorem matches1_in (n : Nat) (hn : 1 ≤ n) (l Bs n₀ cap : Nat) (a : Option Addr) (bs : List Nat) (hb : Bytes255 bs) (hl1 : bs.length ≤ 1100000) (hn₀ : n₀ ≤ Bs) (J Jx : List Mt → World → Prop)
    (W : World) (hBW : Bs < W.heap.size) (hJ : AbidesFrom W.heap.size J)
    (hY : ∀ pre x W, J pre W → pre.length < bs.length → YieldAt Fence.wide (n - 1) Try.prog l (encM x) W fun e W' =>
      (e = .returned (.bool true) ∧ J (pre ++ [x]) W' ∧ Kb n₀ Bs W W') ∨ (e = .returned (.bool false) ∧ Jx (pre ++ [x]) W'))
    (hBs : W.cell? ⟨Bs, 0, none⟩ = some (.slice a bs.length cap)) (hc : Nums .u8 W n₀ a bs) (h0 : J [] W) :
    CallsIn Fence.wide n Try.prog 66 #[.func (.yield l) #[] #[], .pointer (some ⟨Bs, 0, none⟩)] W fun e W' => (∃ v, e = .returned v) ∧
      ((∃ ys, ys = parseE hb ∧ J ys W') ∨ (∃ pre, (∃ r, parseE hb = pre ++ r) ∧ Jx pre W')) := by
  refine callsIn_of_wp Try.func66 rfl trivial ?_ rfl
  simp only [Try.ntmps66, List.size_toArray, List.length_cons, List.length_nil, Nat.reduceAdd, Nat.reduceSub, Array.replicate_succ, Array.replicate_zero, List.push_toArray, List.append_toArray, List.nil_append, List.cons_append]
  have Hc := Lib.hid hc
  have HY := Lib.hid hY
  have HJ := Lib.hid hJ
  obtain ⟨L, hL⟩ : ∃ L, L = bs.length := ⟨_, rfl⟩
  have HF := Lib.hid fun (at' : Nat) (X : World) (h : Below n₀ W X) (hat : at' ≤ bs.length) => dfind_any a cap bs at' X ((hc.below h).more (by have := h.size; omega)) hl1 hat
  rw [← hL] at hl1 hBs
  have HL := Lib.hid hL
  clear hc hY hJ hL
  gi_wp2
  gi_loopw [3] (fun i wr => ∃ k : Nat, k ≤ L ∧ i = .int .i64 k ∧ Hid (∃ pre, Prt hb pre k ∧ J pre wr) ∧ Hid (Kb n₀ Bs W wr))
    (fun i _ => L - (intOf i).toNat)
  case atStart => exact ⟨0, Nat.zero_le _, rfl, ⟨[], Prt.start hb, h0⟩, kb_refl _⟩
  case round =>
    obtain ⟨k, hk, rfl, HJs, Hnx⟩ := hrel
    have b0 := (World.cell?_of_block (w := W) (w' := wr) (a := ⟨Bs, 0, none⟩) Hnx.out.2).trans hBs
    by_cases hlt : k < L
    · have hk1 : (k : Int) < (L : Int) := by omega
      have d1 : decide ((k : Int) < (L : Int)) = true := decide_eq_true hk1
      have HFk := Lib.hid (HF.out k wr Hnx.out.1 (by rw [← HL.out]; exact hk))
      rw [← HL.out] at HFk
      obtain ⟨R, hR⟩ : ∃ R, R = findE bs k := ⟨_, rfl⟩
      rw [← hR] at HFk
      have HRe := Lib.hid hR
      clear hR
      gi_wp2
      refine ⟨trivial, ?_⟩
      refine (callsIn_wide.2 HFk.out).mono ?_
      rintro e X ⟨rfl, hX⟩
      have HX := Lib.hid hX
      clear hX
      obtain ⟨r1, r2⟩ := R
      simp only [mcs]
      have x0 : X.cell? ⟨Bs, 0, none⟩ = some (.slice a L cap) := (HX.out.cell (p := ⟨Bs, 0, none⟩) (by have := Hnx.out.1.size; show Bs < _; omega)).trans b0
      have HB1 : Hid (∀ u v, Below wr.heap.size wr (X.alloc (.cells #[.int .i64 u, .int .i64 v] 84))) := fun u v => HX.out.alloc HX.out.size _
      have hBs1 : Bs < X.heap.size := by have := HX.out.size; have := Hnx.out.1.size; omega
      have hBs2 : Bs ≠ X.heap.size := by omega
      obtain ⟨pre, hp, hj⟩ := HJs.out
      have Hp := Lib.hid hp
      have Hj := Lib.hid hj
      clear hp hj
      have HY1 : Hid (∀ (q1 q2 : Int), ((matchP bs k).1 : Int) = q1 → ((matchP bs k).2 : Int) = q2 → ∀ X', J pre X' → YieldAt Fence.wide (n - 1) Try.prog l #[.agg #[.int .i64 q1, .int .i64 q2]] X' fun e W' =>
          YOut (Kb n₀ Bs) J Jx (pre ++ [matchAt hb k]) X' e W') := fun q1 q2 h1 h2 X' hX' => by
        have := HY.out pre (matchAt hb k) X' hX' (by obtain ⟨f, _, _, h3, _⟩ := Hp.out; rw [← HL.out]; omega)
        have e1 : encM (matchAt hb k) = #[.agg #[.int .i64 q1, .int .i64 q2]] := by rw [← h1, ← h2]; rfl
        rw [e1] at this
        exact this
      have hle : k + stepM (matchP bs k) ≤ L := by rw [HL.out]; exact stepM_in (by rw [← HL.out]; exact hlt)
      have HPn : Hid (Prt hb (pre ++ [matchAt hb k]) (k + stepM (matchP bs k))) := Hp.out.next (by rw [← HL.out]; exact hlt)
      have hn0w : n₀ ≤ wr.heap.size := by have := Hnx.out.1.size; omega
      have hBw : Bs < wr.heap.size := by have := Hnx.out.1.size; omega
      by_cases hr : r1 = 0
      · subst hr
        obtain ⟨b, off, rfl, hbn, c0⟩ := Hc.out.byte (i := k) (by rw [← HL.out]; exact hlt)
        have c0 := (Hnx.out.1.cell (p := ⟨b, off + k, none⟩) hbn).trans c0
        have c0 := (HX.out.cell (p := ⟨b, off + k, none⟩) (by have := Hnx.out.1.size; show b < _; omega)).trans c0
        obtain ⟨c, hcE⟩ : ∃ c, c = bs.getD k 0 := ⟨_, rfl⟩
        rw [← hcE] at c0
        have hc255 : c ≤ 255 := by rw [hcE]; exact hb k
        have hq : matchP bs k = (0, c) := by unfold matchP; rw [← HRe.out, if_pos rfl, hcE]
        have hst : stepM (matchP bs k) = 1 := by rw [hq]; rfl
        have HY2 := Lib.hid (HY1.out 0 (c : Int) (by rw [hq]; rfl) (by rw [hq]))
        rw [hst] at hle HPn
        have hk0 : (0 : Int) ≤ (k : Int) := by omega
        have hbX : b < X.heap.size := by omega
        have hbX2 : b ≠ X.heap.size := by omega
        clear hq hcE hst
        have hJX : J pre (X.alloc (.cells #[.int .i64 0, .int .i64 (c : Int)] 84)) := HJ.out _ _ _ none Hj.out (grown_below (HB1.out 0 (c : Int))) (fun r e => by cases e)
        obtain ⟨fn, tmps, assign, body, hy, hR⟩ := HY2.out _ hJX
        have HR := Lib.hid hR
        unfold YOut at HR
        clear hJX hR HY2
        gi_wp2
        refine HR.out.mono ?_
        rintro e W3 ht
        replace ht := yout_parts ht
        obtain ⟨t, rfl, h3⟩ := ht
        dsimp only
        have HN : Hid (Kb n₀ Bs W (X.alloc (.cells #[.int .i64 0, .int .i64 (c : Int)] 84))) := kb_trans Hnx.out (kb_below (HB1.out _ _) hn0w hBw)
        cases t
        · have hJ3 := Lib.hid (yout_no h3.out)
          clear h3
          gi_wp2
          refine bodyPost_ret (results_none rfl _ _ _) rfl ?_
          exact ⟨⟨_, rfl⟩, .inr ⟨_, HPn.out.prefix, hJ3.out⟩⟩
        · have hJ3 := Lib.hid (yout_yes h3.out).1
          have hB3 := Lib.hid (kb_trans HN.out (yout_yes h3.out).2)
          clear h3 HN
          gi_wp2
          go_roundw
          case rel => exact ⟨k + 1, hle, by go_num, ⟨_, HPn.out, hJ3.out⟩, hB3⟩
          case measure => simp [intOf]; omega
      · have d2 : ((r1 : Int) == 0) = false := beq_eq_false_iff_ne.mpr (by omega)
        have hq : matchP bs k = (r1, r2) := by unfold matchP; rw [← HRe.out, if_neg hr]
        have hst : stepM (matchP bs k) = r1 := by rw [hq]; unfold stepM; rw [if_neg hr]
        have HY2 := Lib.hid (HY1.out _ _ (by rw [hq]) (by rw [hq]))
        have hr1 : 1 ≤ r1 := by omega
        rw [hst] at hle HPn
        clear hq hst hr
        have hJX : J pre (X.alloc (.cells #[.int .i64 (r1 : Int), .int .i64 (r2 : Int)] 84)) := HJ.out _ _ _ none Hj.out (grown_below (HB1.out (r1 : Int) (r2 : Int))) (fun r e => by cases e)
        obtain ⟨fn, tmps, assign, body, hy, hR⟩ := HY2.out _ hJX
        have HR := Lib.hid hR
        unfold YOut at HR
        clear hJX hR HY2
        gi_wp2
        refine HR.out.mono ?_
        rintro e W3 ht
        replace ht := yout_parts ht
        obtain ⟨t, rfl, h3⟩ := ht
        dsimp only
        have HN : Hid (Kb n₀ Bs W (X.alloc (.cells #[.int .i64 (r1 : Int), .int .i64 (r2 : Int)] 84))) := kb_trans Hnx.out (kb_below (HB1.out _ _) hn0w hBw)
        cases t
        · have hJ3 := Lib.hid (yout_no h3.out)
          clear h3
          gi_wp2
          refine bodyPost_ret (results_none rfl _ _ _) rfl ?_
          exact ⟨⟨_, rfl⟩, .inr ⟨_, HPn.out.prefix, hJ3.out⟩⟩
        · have hJ3 := Lib.hid (yout_yes h3.out).1
          have hB3 := Lib.hid (kb_trans HN.out (yout_yes h3.out).2)
          clear h3 HN
          gi_wp2
          go_roundw
          case rel => exact ⟨k + r1, hle, by go_num, ⟨_, HPn.out, hJ3.out⟩, hB3⟩
          case measure => simp [intOf]; omega
    · obtain rfl : k = L := by omega
      gi_wp2
      go_end0
      obtain ⟨pre, hp, hj⟩ := HJs.out
      exact ⟨⟨_, rfl⟩, .inl ⟨_, hp.done (by rw [← HL.out]; omega), hj⟩⟩
end Go.Proofs.Ytngnhkghpnamoaa

namespace Go.Proofs.Ytngnhkghpnamoaa
open Go.RowKit Go.Shelf
set_option linter.unusedVariables false
set_option maxRecDepth 100000
attribute [local go_sem] Oper.semAt_some

theorem matches_stops (n : Nat) (hn : 1 ≤ n) (Bs n₀ : Nat) (a : Option Addr) (cap : Nat) (bs : List Nat) (hb : Bytes255 bs) (hl1 : bs.length ≤ 1100000) (w : World) (hBs : Bs < w.heap.size) (hn₀ : n₀ ≤ Bs)
    (hc : w.cell? ⟨Bs, 0, none⟩ = some (.slice a bs.length cap)) (hA : Nums .u8 w n₀ a bs) :
    SeqStopsK Fence.wide n Try.prog 66 #[.pointer (some ⟨Bs, 0, none⟩)] encM (Kb n₀ Bs) (fun ys => ys = parseE hb) (fun pre => ∃ r, parseE hb = pre ++ r) bs.length w := by
  intro l J Jx W hW hJ hJx hY h0
  have hWs := hW.size
  exact matches1_in n hn l Bs n₀ cap a bs hb hl1 hn₀ J Jx W (by omega) hJ hY ((hW.cell (p := ⟨Bs, 0, none⟩) hBs).trans hc) (hA.below (hW.mono (by omega))) h0
theorem matches_in (F : Fence) (n : Nat) (h5 : F.fn 42) (hro : F.round = none) (a : Option Addr) (len cap : Nat) (w : World) :
    CallsIn F n Try.prog 42 #[.slice a len cap] w fun e w' => e = .returned (.func (.func 66) #[] #[.pointer (some ⟨w.heap.size, 0, none⟩)]) ∧ w' = w.alloc (.cells #[.slice a len cap] 22) := by
  refine callsIn_of_wp Try.func42 rfl h5 ?_ hro
  simp only [Try.ntmps42, List.size_toArray, List.length_cons, List.length_nil, Nat.reduceAdd, Nat.reduceSub, Array.replicate_succ, Array.replicate_zero, List.push_toArray, List.append_toArray, List.nil_append, List.cons_append]
  gi_wp2
  go_ret
  exact ⟨rfl, rfl⟩
end Go.Proofs.Ytngnhkghpnamoaa
