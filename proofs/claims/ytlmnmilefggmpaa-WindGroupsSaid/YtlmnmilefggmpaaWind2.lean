/- Walks over layer 27: the edges of a ring, one after another. -/
import Derived.RangeFuncNested
import Derived.RangeFuncBound
import Derived.RangeFuncBox
import Derived.RangeFuncCalls
import Derived.RangeFuncLeaves
import Derived.Shelf.Abstract
import Derived.WalkKit
import Derived.OwnWalkIn
import Derived.TacticsInMore
import Derived.LoopNIn
import Derived.LoopIn
import Derived.BigRegionIn
import Derived.Shelf.RegionOpen
import Derived.Stop.RegionWithIn
import Derived.IntWalk
import Derived.Test.YtlmnmilefggmpaaWindMath
namespace Go.Proofs.Ytlmnmilefggmpaa
open Go.RowKit Go.Shelf
set_option linter.unusedVariables false
set_option maxRecDepth 100000
attribute [local go_sem] Oper.semAt_some

def ptv (p : P2) : Value := .agg #[.int .i64 p.1, .int .i64 p.2]
/-- What a round keeps: what lay below n₀, and the box Bs. -/
def Kb (n₀ Bs : Nat) (W W' : World) : Prop := Below n₀ W W' ∧ W'.heap[Bs]? = W.heap[Bs]?
theorem kb_refl {n₀ Bs : Nat} (W : World) : Kb n₀ Bs W W := ⟨Below.refl _ _, rfl⟩
theorem kb_trans {n₀ Bs : Nat} {A B C : World} (h : Kb n₀ Bs A B) (k : Kb n₀ Bs B C) : Kb n₀ Bs A C := ⟨h.1.trans k.1, k.2.trans h.2⟩
theorem kb_below {n₀ Bs : Nat} {A B : World} (h : Below A.heap.size A B) (hn : n₀ ≤ A.heap.size) (hB : Bs < A.heap.size) : Kb n₀ Bs A B := ⟨h.mono hn, h.block _ hB⟩
/-- What a round has left. -/
def YOut {α : Type} (Kp : World → World → Prop) (J Jx : α → World → Prop) (x : α) (X : World) (e : Ending) (W' : World) : Prop := (e = .returned (.bool true) ∧ J x W' ∧ Kp X W') ∨ (e = .returned (.bool false) ∧ Jx x W')
def YIs {α : Type} (Kp : World → World → Prop) (J Jx : α → World → Prop) (x : α) (X : World) (t : Bool) (W' : World) : Prop := if t then J x W' ∧ Kp X W' else Jx x W'
theorem yout_parts {α : Type} {Kp : World → World → Prop} {J Jx : α → World → Prop} {x : α} {X : World} {e : Ending} {W' : World} (h : (e = .returned (.bool true) ∧ J x W' ∧ Kp X W') ∨ (e = .returned (.bool false) ∧ Jx x W')) :
    ∃ t, e = .returned (.bool t) ∧ Hid (YIs Kp J Jx x X t W') := by
  rcases h with ⟨h1, h2, h3⟩ | ⟨h1, h2⟩
  · exact ⟨true, h1, by show YIs _ _ _ _ _ _ _; unfold YIs; simp; exact ⟨h2, h3⟩⟩
  · exact ⟨false, h1, by show YIs _ _ _ _ _ _ _; unfold YIs; simp; exact h2⟩
theorem yout_yes {α : Type} {Kp : World → World → Prop} {J Jx : α → World → Prop} {x : α} {X W' : World} (h : YIs Kp J Jx x X true W') : J x W' ∧ Kp X W' := by unfold YIs at h; simpa using h
theorem yout_no {α : Type} {Kp : World → World → Prop} {J Jx : α → World → Prop} {x : α} {X W' : World} (h : YIs Kp J Jx x X false W') : Jx x W' := by unfold YIs at h; simpa using h
theorem below_drewW {B : Nat} {w w' : World} (h : Below B w w') : Below B w w'.drew := ⟨h.os, h.tape, h.output, h.size, h.block⟩
theorem grown_below {W X : World} (h : Below W.heap.size W X) : W.grownBy X none := ⟨h.os, h.tape, h.output, h.size, fun k hk _ => h.block k hk⟩

theorem pt_get {zs : List P2} {k : Nat} (h : k < zs.length) : pt zs k = zs[k] := by unfold pt; rw [List.getElem?_eq_getElem h]; rfl
theorem PAt.pt_at {w : World} {B : Nat} {a : Option Addr} {zs : List P2} (h : PAt w B a zs) (k : Nat) (hk : k < zs.length) : ∃ b off, a = some ⟨b, off, none⟩ ∧ b < B ∧ w.cell? ⟨b, off + k * 2, none⟩ = some (.int .i64 (pt zs k).1) ∧ w.cell? ⟨b, off + k * 2 + 1, none⟩ = some (.int .i64 (pt zs k).2) := by
  rw [pt_get hk]; exact h.at k hk
set_option maxHeartbeats 8000000 in
theorem edges1_in (n : Nat) (hn : 1 ≤ n) (l Bs n₀ len cap : Nat) (a : Option Addr) (zs : List P2) (hz : okR zs = true) (hlen : len = zs.length) (hl1 : len ≤ 262144) (hn₀ : n₀ ≤ Bs) (J Jx : List Ed → World → Prop)
    (W : World) (hBW : Bs < W.heap.size) (hJ : AbidesFrom W.heap.size J)
    (hY : ∀ pre x W, J pre W → pre.length < len → YieldAt Fence.wide (n - 1) Try.prog l #[ptv x.1.1, ptv x.1.2] W fun e W' =>
      (e = .returned (.bool true) ∧ J (pre ++ [x]) W' ∧ Kb n₀ Bs W W') ∨ (e = .returned (.bool false) ∧ Jx (pre ++ [x]) W'))
    (hBs : W.cell? ⟨Bs, 0, none⟩ = some (.slice a len cap)) (hc : PAt W n₀ a zs) (h0 : J [] W) :
    CallsIn Fence.wide n Try.prog 23 #[.func (.yield l) #[] #[], .pointer (some ⟨Bs, 0, none⟩)] W fun e W' => (∃ v, e = .returned v) ∧
      ((∃ ys, ys = upto (ed hz) len ∧ J ys W') ∨ (∃ pre, (∃ k, k ≤ len ∧ pre = upto (ed hz) k) ∧ Jx pre W')) := by
  refine callsIn_of_wp Try.func23 rfl trivial ?_ rfl
  simp only [Try.ntmps23, List.size_toArray, List.length_cons, List.length_nil, Nat.reduceAdd, Nat.reduceSub, Array.replicate_succ, Array.replicate_zero, List.push_toArray, List.append_toArray, List.nil_append, List.cons_append]
  have Hc := Lib.hid hc
  have HY := Lib.hid hY
  have HJ := Lib.hid hJ
  have Hlen := Lib.hid hlen
  clear hc hY hJ hlen
  gi_wp2
  gi_loopw [7] (fun i wr => ∃ k : Nat, k ≤ len ∧ i = .int .i64 k ∧ Hid (J (upto (ed hz) k) wr) ∧ Hid (Kb n₀ Bs W wr))
    (fun i _ => len - (intOf i).toNat)
  case atStart => exact ⟨0, Nat.zero_le _, rfl, h0, kb_refl _⟩
  case round =>
    obtain ⟨k, hk, rfl, HJs, Hnx⟩ := hrel
    by_cases hlt : k < len
    · obtain ⟨b, off, rfl, hb, c0, c1⟩ := Hc.out.pt_at k (by have := Hlen.out; omega)
      have c0 := (Hnx.out.1.cell (p := ⟨b, off + k * 2, none⟩) hb).trans c0
      have c1 := (Hnx.out.1.cell (p := ⟨b, off + k * 2 + 1, none⟩) hb).trans c1
      have b0 := (World.cell?_of_block (w := W) (w' := wr) (a := ⟨Bs, 0, none⟩) Hnx.out.2).trans hBs
      have hml : (k + 1) % len < len := Nat.mod_lt _ (by omega)
      obtain ⟨m, hm⟩ : ∃ m, m = (k + 1) % len := ⟨_, rfl⟩
      rw [← hm] at hml
      obtain ⟨b', off', e', hb', d0, d1⟩ := Hc.out.pt_at m (by have := Hlen.out; omega)
      injection e' with e'
      injection e' with e1 e2
      subst e1 e2
      have d0 := (Hnx.out.1.cell (p := ⟨b, off + m * 2, none⟩) hb).trans d0
      have d1 := (Hnx.out.1.cell (p := ⟨b, off + m * 2 + 1, none⟩) hb).trans d1
      obtain ⟨K1, hK1⟩ : ∃ K, K = k + 1 := ⟨_, rfl⟩
      have w1 : IntKind.i64.wrap ((k : Int) + 1) = (K1 : Int) := by rw [IntWalk.i64_in _ ⟨by omega, by omega⟩]; omega
      have w1b : (k : Int) + 1 = (K1 : Int) := by omega
      have w1c : IntKind.i64.wrap (K1 : Int) = (K1 : Int) := IntWalk.i64_in _ ⟨by omega, by omega⟩
      have w2 : Int.tmod (K1 : Int) (len : Int) = (m : Int) := by rw [hm, hK1]; rfl
      have w3 : (K1 : Int) % (len : Int) = (m : Int) := by rw [hm, hK1]; rfl
      have w4 : IntKind.i64.wrap (m : Int) = (m : Int) := IntWalk.i64_in _ ⟨by omega, by omega⟩
      have HK1 := Lib.hid hK1
      clear hK1
      have hk0 : (0 : Int) ≤ (k : Int) := by omega
      have hk1 : (k : Int) < (len : Int) := by omega
      have hm0 : (0 : Int) ≤ (m : Int) := by omega
      have hm1 : (m : Int) < (len : Int) := by omega
      have hl0 : ¬ ((len : Int) = 0) := by omega
      have hbw : b < wr.heap.size := by have := Hnx.out.1.size; omega
      have hbw2 : b ≠ wr.heap.size := by omega
      have hBw : Bs < wr.heap.size := by have := Hnx.out.1.size; omega
      have hBw2 : Bs ≠ wr.heap.size := by omega
      have Hm := Lib.hid hm
      clear hm
      have hY2 : Hid (∀ X, J (upto (ed hz) k) X → YieldAt Fence.wide (n - 1) Try.prog l #[.agg #[.int .i64 (pt zs k).1, .int .i64 (pt zs k).2], .agg #[.int .i64 (pt zs m).1, .int .i64 (pt zs m).2]] X fun e W' =>
          (e = .returned (.bool true) ∧ J (upto (ed hz) (k + 1)) W' ∧ Kb n₀ Bs X W') ∨ (e = .returned (.bool false) ∧ Jx (upto (ed hz) (k + 1)) W')) := fun X hX => by
        have := HY.out _ (ed hz k) X hX (by rw [upto_length]; exact hlt)
        rw [← upto_succ] at this
        have e1 : ptv (ed hz k).1.2 = .agg #[.int .i64 (pt zs m).1, .int .i64 (pt zs m).2] := by rw [Hm.out, Hlen.out]; rfl
        rw [e1] at this
        exact this
      generalize pt zs k = p at *
      generalize pt zs m = q at *
      gi_wp2
      have hBX : Below wr.heap.size wr (wr.alloc (.cells #[.int .i64 p.1, .int .i64 p.2] 25)).drew := below_drewW ((Below.refl _ _).alloc (Nat.le_refl _) _)
      have hJX : J (upto (ed hz) k) (wr.alloc (.cells #[.int .i64 p.1, .int .i64 p.2] 25)).drew := HJ.out _ _ _ none HJs.out (grown_below hBX) (fun r e => by cases e)
      obtain ⟨fn, tmps, assign, body, hy, hR⟩ := hY2.out _ hJX
      have HR := Lib.hid (hR.mono (fun e W' (h : _ ∨ _) => (show YOut (Kb n₀ Bs) J Jx (upto (ed hz) (k + 1)) _ e W' from h)))
      unfold YOut at HR
      have HBX := Lib.hid hBX
      clear hJX hBX hR hY2
      gi_region_with ((with_reducible refine HR.out.mono ?_); rintro e W3 ht; replace ht := yout_parts ht; obtain ⟨t, rfl, h3⟩ := ht; dsimp only)
      all_goals
        have HN : Hid (Kb n₀ Bs W (wr.alloc (.cells #[.int .i64 p.1, .int .i64 p.2] 25)).drew) := kb_trans Hnx.out (kb_below HBX.out (by omega) hBw)
        clear HBX
        cases t
        · have hJ3 := Lib.hid (yout_no h3.out)
          clear h3
          gi_wp2
          refine bodyPost_ret (results_none rfl _ _ _) rfl ?_
          exact ⟨⟨_, rfl⟩, .inr ⟨_, ⟨k + 1, by omega, rfl⟩, hJ3.out⟩⟩
        · have hJ3 := Lib.hid (yout_yes h3.out).1
          have hB3 := Lib.hid (kb_trans HN.out (yout_yes h3.out).2)
          clear h3 HN
          gi_wp2
          go_roundw
          case rel => exact ⟨k + 1, by omega, by have := HK1.out; subst this; rfl, hJ3, hB3⟩
          case measure => simp [intOf]; omega
    · obtain rfl : k = len := by omega
      gi_wp2
      go_end0
      exact ⟨⟨_, rfl⟩, .inl ⟨_, rfl, HJs.out⟩⟩
theorem edges_stops (n : Nat) (hn : 1 ≤ n) (Bs n₀ : Nat) (a : Option Addr) (cap : Nat) (zs : List P2) (hz : okR zs = true) (w : World) (hBs : Bs < w.heap.size) (hn₀ : n₀ ≤ Bs)
    (hc : w.cell? ⟨Bs, 0, none⟩ = some (.slice a zs.length cap)) (hA : PAt w n₀ a zs) :
    SeqStopsK Fence.wide n Try.prog 23 #[.pointer (some ⟨Bs, 0, none⟩)] (fun x : Ed => #[ptv x.1.1, ptv x.1.2]) (Kb n₀ Bs) (fun ys => ys = upto (ed hz) zs.length) (fun pre => ∃ k, k ≤ zs.length ∧ pre = upto (ed hz) k) zs.length w := by
  intro l J Jx W hW hJ hJx hY h0
  have hWs := hW.size
  exact edges1_in n hn l Bs n₀ zs.length cap a zs hz rfl (okR_all hz).2 hn₀ J Jx W (by omega) hJ hY ((hW.cell (p := ⟨Bs, 0, none⟩) hBs).trans hc) (hA.below (hW.mono (by omega))) h0
end Go.Proofs.Ytlmnmilefggmpaa
