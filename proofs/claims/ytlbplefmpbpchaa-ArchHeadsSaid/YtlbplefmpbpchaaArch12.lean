/- Layer 13: the reference's PutHead. -/
import Derived.Test.YtlbplefmpbpchaaArch11
namespace Go.Proofs.Ytlbplefmpbpchaa
open Go.RowKit
set_option linter.unusedVariables false
set_option maxRecDepth 100000

theorem app_known {P : Program} {w w' : World} {ops : Array Oper} {rest : List Oper} {o : Oper} {a : Act} {Q : Exit → Act → World → Prop} (hgd : o.guard = none) (s x : Operand) (ts : Array TypeId)
    (ho : o.op = .call { callee := .builtin .append, args := #[s, x], argTypes := ts }) (u v v' : Value) (hs : a.eval s = u) (hx : a.eval x = v)
    (hrun : (Builtin.append_ ts o.type #[u, v]).run P w = .ok v' w') (h : wpList P ops Q rest (a.put o.dst v') w') : wpList P ops Q (o :: rest) a w := by
  refine wpList_plain hgd fun K hK => ?_
  unfold Oper.wp execOp
  simp only [ho, resolve, invoke, builtin, Sem.run_bind, Sem.run_pure, Result.andThen_ok, List.map_toArray, List.map_cons, List.map_nil, hs, hx, hrun]
  exact hK _ _ h
theorem row8_app {W : World} {base : Nat} {v : Value} {l m : List Nat} {A : Option Addr} {c : Nat} (h : Row8 W base v l) (hB : base ≤ W.heap.size) (hl : l.length + m.length ≤ 100000) (hm : 0 < m.length) (hN : Nums .u8 W W.heap.size A m) :
    ∃ v3 w3, (Builtin.append_ #[22, 22] 22 #[v, .slice A m.length c]).run Try.prog W = .ok v3 w3 ∧ Gone W base v (l ++ m) v3 w3 := by
  obtain ⟨i1, hi1, hy0, hy1, hy2⟩ := info_parts u8info
  rcases h with h | ⟨k, cur, fr, rfl, hb, hh, hc⟩
  · obtain ⟨v3, w3, hrun, h2, h3, h5⟩ := run_append_vals (P := Try.prog) (w := W) base 22 22 5 i1 _ 1 1 Try.underlying22 hi1 hy0 hy1 hy2 rfl (by omega) v l.length (u8s l) h
      W.heap.size A m.length c (u8s m) (Vals.of_nums hN) (u8s_one m) (by unfold maxLen; omega) (by omega) hB
    exact ⟨v3, w3, hrun, Gone.grown h2 (by simp) (by simp [u8s]) h3 (by
        rcases h5 with h5 | h5
        · exact .inl h5
        · exact .inr ⟨_, h5, Nat.le_refl _⟩)⟩
  · obtain ⟨b, off, rfl, hbl, hcell⟩ := hN hm
    obtain ⟨v3, w3, hrun, h2, h3⟩ := run_append_arg_grows (P := Try.prog) W 22 22 5 i1 _ 1 1 Try.underlying22 hi1 hy0 hy1 hy2 rfl (by omega) ⟨k, 0, none⟩ l.length l.length (u8s l) (by rw [u8s_length, Nat.mul_one])
      (fun j u hj => by rw [add_none, cell_of_row _ k _ _ _ fr hh, Nat.zero_add, ← Array.getElem?_toList, hc]; exact hj) ⟨b, off, none⟩ m.length c (u8s m) (by rw [u8s_length, Nat.mul_one])
      (fun j u hj => by
        have hj2 : j < m.length := by have := (List.getElem?_eq_some_iff.1 hj).1; rwa [u8s_length] at this
        rw [add_none, hcell j hj2, ← hj]; simp [u8s, hj2]) (by omega) (by unfold maxLen; omega) (by omega)
    have ho3 : Own8 w3 base v3 (l ++ m) := by
      refine ⟨by simp [u8s], ?_⟩
      rcases h2.2 with hn | ⟨g, cap, cur2, q1, q2, q3⟩
      · have := hn.2; omega
      · rw [← u8s_append] at q3
        rw [show (l ++ m).length = l.length + m.length by simp]
        exact .inr ⟨g, cap, cur2, q1, Nat.le_trans hB q2, q3⟩
    refine ⟨v3, w3, hrun, ⟨ho3, Only.of_grown h3 (fun b e => by cases e), .inr ?_⟩⟩
    rcases h2.2 with hn | ⟨g, cap, cur2, q1, q2, q3⟩
    · have := hn.2; omega
    · exact ⟨g, by rw [q1]; rfl, q2⟩
theorem kw_gone {W w3 : World} {base : Nat} {v v3 : Value} {l m : List Nat} (ho : Row8 W base v l) (hB : base ≤ W.heap.size) (hG : Gone W base v m v3 w3) : KW base W w3 := by
  refine ⟨hG.only.below (fun b hb e => by have := (ho.lt b e).1; omega) hB, fun k cs e fz hk h1 h2 => hG.only.block k (Array.getElem?_eq_some_iff.1 hk).1 (fun e1 => ?_)⟩
  obtain ⟨cur, fr, hc⟩ := ho.block e1
  have := hc.symm.trans hk
  injection this with this
  injection this with _ q2
  exact h2 q2.symm
set_option maxHeartbeats 4000000 in
theorem rlow_any (V n : Nat) (w : World) (hn : n ≤ 8) (hV : V < 18446744073709551616) : Calls Try.prog 17 #[.int .u64 (V : Int), .int .i64 (n : Int)] w fun e w' => ∃ a c, e = .returned (.slice a n c) ∧ Own8 w' w.heap.size (.slice a n c) (lowD V n) ∧ Below w.heap.size w w' := by
  have HV := Lib.hid hV
  clear hV
  go_enter Try.func17, Try.ntmps17
  go_wp2_with fail
  obtain ⟨w0, rfl⟩ : ∃ w0, w0 = w := ⟨_, rfl⟩
  go_loopw [0, 5, 6] (fun x v i W => ∃ k : Nat, k ≤ n ∧ x = .int .u64 ((V / 256 ^ k : Nat) : Int) ∧ Own8 W w0.heap.size v (lowD V k) ∧ i = .int .i64 (k : Int) ∧ Below w0.heap.size w0 W) (fun _ _ i _ => n - (intOf i).toNat)
  case atStart => exact ⟨0, by omega, by rw [show V / 256 ^ 0 = V by rw [Nat.pow_zero, Nat.div_one]], Own8.nil_ _ _, rfl, Below.refl _ _⟩
  case round =>
    obtain ⟨k, hk, rfl, hO, rfl, hB⟩ := hrel
    have HO := Lib.hid hO
    have HB := Lib.hid hB
    clear hO hB
    by_cases hk4 : k < n
    · obtain ⟨m, hm⟩ : ∃ m, V / 256 ^ k = m := ⟨_, rfl⟩
      have hnx : V / 256 ^ (k + 1) = m / 256 := by rw [← hm, Nat.pow_succ, Nat.div_div_eq_div_mul]
      have hst : lowD V (k + 1) = lowD V k ++ [m % 256] := by rw [← hm]; exact lowD_snoc k V
      have hmV : m < 18446744073709551616 := by rw [← hm]; exact Nat.lt_of_le_of_lt (Nat.div_le_self _ _) HV.out
      have Hw1 : Hid (IntKind.u64.wrap ((m : Int) / 256) = ((m / 256 : Nat) : Int)) := by show _ = _; rw [IntKind.wrap_u64]; omega
      have Hnx := Lib.hid hnx
      have Hst := Lib.hid hst
      have kl : (k : Int) < (n : Int) := by omega
      have kd : decide ((k : Int) < (n : Int)) = true := decide_eq_true kl
      have Hkn : Hid (k + 1 ≤ n ∧ k ≤ 8) := ⟨by omega, by omega⟩
      rw [hm]
      clear hnx hst hm
      have hNm : Nums .u8 (wr.alloc (.cells #[.int .u8 ((m : Int) % 256)] 5)) (wr.alloc (.cells #[.int .u8 ((m : Int) % 256)] 5)).heap.size (some ⟨wr.heap.size, 0, none⟩) [m % 256] := by
        have := Nums.of_block (k := .u8) (w := wr.alloc (.cells #[.int .u8 ((m : Int) % 256)] 5)) (g := wr.heap.size) (t := 5) (fr := (0, 0)) (l := [m % 256]) (heap_alloc_new wr _)
        exact this.more (by simp)
      have hB2 : Below w0.heap.size w0 (wr.alloc (.cells #[.int .u8 ((m : Int) % 256)] 5)) := HB.out.alloc HB.out.size _
      have HO2 : Row8 (wr.alloc (.cells #[.int .u8 ((m : Int) % 256)] 5)) w0.heap.size u5 (lowD V k) := .inl (HO.out.alloc (.cells #[.int .u8 ((m : Int) % 256)] 5))
      obtain ⟨v3, w3, hrun, hG⟩ := row8_app (c := 1) HO2 hB2.size (by rw [lowD_length]; show k + 1 ≤ _; omega) (by show 0 < 1; omega) hNm
      have HO3 := Lib.hid hG.own
      have HB3 := Lib.hid (hB2.trans (kw_gone HO2 hB2.size hG).below)
      have Hrun := Lib.hid hrun
      clear hNm hB2 HO2 hrun hG HO HB
      go_wp2_with (at_builtin; refine app_known rfl (.tmp 12) (.tmp 16) #[22, 22] rfl _ _ _ rfl rfl Hrun.out ?_)
      go_roundw
      case rel => exact ⟨k + 1, by omega, by rw [Hnx.out]; first | rfl | rw [Hw1.out], by rw [Hst.out]; exact HO3.out, by go_num, HB3.out⟩
      case measure => simp [intOf]; omega
    · obtain rfl : k = n := by omega
      obtain ⟨a, c, q1, _, _, _, _⟩ := HO.out.nums
      rw [lowD_length] at q1
      have hO := HO.out
      rw [q1] at hO
      have HO2 := Lib.hid hO
      obtain rfl := q1
      clear HO hO
      go_wp2_with fail
      go_ret
      exact ⟨a, c, rfl, HO2.out, HB.out⟩
def HdOK (h : Hd) : Prop := h.r0 < 18446744073709551616 ∧ h.r1 < 18446744073709551616 ∧ h.m0 < 18446744073709551616 ∧ h.m1 < 18446744073709551616 ∧ h.l0 < 18446744073709551616 ∧ h.l1 < 18446744073709551616 ∧ h.d0 < 18446744073709551616 ∧ h.d1 < 18446744073709551616 ∧ h.c0 < 18446744073709551616 ∧ h.c1 < 18446744073709551616 ∧ h.c2 < 18446744073709551616
theorem u64N_lt (x : Int) : u64N x < 18446744073709551616 := by unfold u64N; omega
/-- While the reference writes a header: k parts are in the row v. -/
structure QS (w : World) (base b0 : Nat) (h : Hd) (k : Nat) (v : Value) (W : World) : Prop where
  own : Own8 W base v (catP h k)
  hd : Whole W b0 29 h.cells
  below : Below w.heap.size w W
  nb : w.heap.size ≤ base ∧ base ≤ W.heap.size ∧ b0 < base
section
variable {w W W' : World} {base b0 k : Nat} {h : Hd} {v : Value}
theorem QS.kept (H : QS w base b0 h k v W) (hb : Below W.heap.size W W') : QS w base b0 h k v W' :=
  ⟨H.own.below hb, H.hd.below hb H.hd.lt, keepBelow hb H.below, H.nb.1, Nat.le_trans H.nb.2.1 hb.size, H.nb.2.2⟩
theorem QS.drew (H : QS w base b0 h k v W) : QS w base b0 h k v W.drew := ⟨H.own, H.hd, ⟨H.below.os, H.below.tape, H.below.output, H.below.size, H.below.block⟩, H.nb⟩
theorem kw_below {n : Nat} {A B : World} (h : Below A.heap.size A B) (hn : n ≤ A.heap.size) : KW n A B := ⟨h.mono hn, fun k cs e fz hk _ _ => h.block k (Array.getElem?_eq_some_iff.1 hk).1⟩
theorem QS.app {B2 n c : Nat} {a : Option Addr} {m : List Nat} (H : QS w base b0 h k v W) (ho : Own8 W B2 (.slice a n c) m) (hm : pc h k = m) (hn : n = m.length) (h0 : 0 < n) (hk : k ≤ 30) :
    ∃ v3 w3, (Builtin.append_ #[22, 22] 22 #[v, .slice a n c]).run Try.prog W = .ok v3 w3 ∧ QS w base b0 h (k + 1) v3 w3 ∧ KW base W w3 := by
  have h1 := catP_len h k
  have h2 := pc_len h k
  subst hm hn
  obtain ⟨a', c', e, _, _, _, hN⟩ := ho.nums
  injection e with e1 _ e3
  subst e1
  obtain ⟨v3, w3, hrun, hG⟩ := row8_app (c := c) (.inl H.own) H.nb.2.1 (by omega) h0 hN
  have hk := kw_gone (.inl H.own) H.nb.2.1 hG
  exact ⟨v3, w3, hrun, ⟨hG.own, H.hd.below hk.below H.nb.2.2, H.below.trans (hk.below.mono H.nb.1), H.nb.1, Nat.le_trans H.nb.2.1 hk.below.size, H.nb.2.2⟩, hk⟩
end
set_option maxHeartbeats 32000000 in
theorem rputHead_any (h : Hd) (w : World) (hU : HdOK h) :
    Calls Try.prog 9 #[hdV h] w (fun e w' => ∃ a c, e = .returned (.slice a (catP h 24).length c) ∧ Nums .u8 w' w'.heap.size a (catP h 24) ∧ Below w.heap.size w w') := by
  obtain ⟨b0, hb0⟩ : ∃ b, b = w.heap.size := ⟨_, rfl⟩
  obtain ⟨X0, hX0⟩ : ∃ X, X = w.alloc (.cells h.cells 29) := ⟨_, rfl⟩
  have hs0 : X0.heap.size = b0 + 1 := by rw [hX0, hb0]; simp
  obtain ⟨base, hbase⟩ : ∃ b, b = X0.heap.size := ⟨_, rfl⟩
  obtain ⟨X1, hX1⟩ : ∃ X, X = X0.alloc (.cells #[.int .u8 80, .int .u8 77, .int .u8 84, .int .u8 105, .int .u8 108, .int .u8 101, .int .u8 115] 5 (7, 8)) := ⟨_, rfl⟩
  have hs1 : X1.heap.size = base + 1 := by rw [hX1, hbase]; simp
  obtain ⟨X2, hX2⟩ : ∃ X, X = X1.alloc (.cells #[.int .u8 3] 5) := ⟨_, rfl⟩
  have hRow : Row8 X2 base (.slice (some ⟨base, 0, none⟩) 7 7) [80, 77, 84, 105, 108, 101, 115] := by
    refine .inr ⟨base, #[.int .u8 80, .int .u8 77, .int .u8 84, .int .u8 105, .int .u8 108, .int .u8 101, .int .u8 115], (7, 8), rfl, Nat.le_refl _, ?_, rfl⟩
    rw [hX2]
    exact (Below.heap_alloc X1 _ base (by omega)).trans (by rw [hX1, hbase]; exact heap_alloc_new X0 _)
  have hNum : Nums .u8 X2 X2.heap.size (some ⟨base + 1, 0, none⟩) [3] := by
    have := Nums.of_block (k := .u8) (w := X2) (g := base + 1) (t := 5) (fr := (0, 0)) (l := [3]) (by rw [hX2, ← hs1]; exact heap_alloc_new X1 _)
    exact this.more (by rw [hX2]; simp <;> omega)
  have hB2 : base ≤ X2.heap.size := by rw [hX2]; simp; omega
  obtain ⟨v3, w3, hrun, hG⟩ := row8_app (c := 1) hRow hB2 (by show 7 + 1 ≤ _; omega) (by show 0 < 1; omega) hNum
  have hKW := kw_gone hRow hB2 hG
  have HS : Hid (QS w base b0 h 0 v3 w3) := by
    refine ⟨hG.own, ?_, ?_, by omega, Nat.le_trans hB2 hKW.below.size, by omega⟩
    · refine Whole.below ?_ hKW.below (by omega)
      rw [hX2, hX1, hX0, hb0]; exact ((Whole.new w _ _).alloc _).alloc _
    · have h0 : Below w.heap.size w X0 := by rw [hX0]; exact (Below.refl _ _).alloc (Nat.le_refl _) _
      have h1 : Below w.heap.size w X1 := by rw [hX1]; exact h0.alloc h0.size _
      have h2 : Below w.heap.size w X2 := by rw [hX2]; exact h1.alloc h1.size _
      exact h2.trans (hKW.below.mono (by omega))
  have hX0' : Hid (w.alloc (.cells h.cells 29) = X0) := hX0.symm
  have hX1' : Hid (X0.alloc (.cells #[.int .u8 80, .int .u8 77, .int .u8 84, .int .u8 105, .int .u8 108, .int .u8 101, .int .u8 115] 5 (7, 8)) = X1) := hX1.symm
  have hX2' : Hid (X1.alloc (.cells #[.int .u8 3] 5) = X2) := hX2.symm
  have hg' : Hid (w.heap.size + 1 + 1 = base + 1) := by show _ = _; omega
  have hb' : Hid (w.heap.size + 1 = base) := by show _ = _; omega
  have Hb0 := Lib.hid hb0
  have hrun2 : Hid ((Builtin.append_ #[22, 22] 22 #[.slice (some ⟨w.heap.size + 1, 0, none⟩) 7 7, .slice (some ⟨w.heap.size + 1 + 1, 0, none⟩) 1 1]).run Try.prog (((w.alloc (.cells h.cells 29)).alloc (.cells #[.int .u8 80, .int .u8 77, .int .u8 84, .int .u8 105, .int .u8 108, .int .u8 101, .int .u8 115] 5 (7, 8))).alloc (.cells #[.int .u8 3] 5)) = .ok v3 w3) := by
    show _ = _
    rw [hX0'.out, hX1'.out, hX2'.out, hg'.out, hb'.out]; exact hrun
  have kc := Joins.run_convert_bytes_const_at (P := Try.prog) (w.alloc (.cells h.cells 29)) 22 5 #[.int .u8 80, .int .u8 77, .int .u8 84, .int .u8 105, .int .u8 108, .int .u8 101, .int .u8 115] 7 7 (w.heap.size + 1) (by simp) Try.underlying22 Try.underlying5
  clear hX0 hX1 hX2 hb0 hbase hs0 hs1 hRow hNum hB2 hrun hG hKW
  have HU := Lib.hid hU
  clear hU
  unfold hdV
  go_enter Try.func9, Try.ntmps9
  go_upto_region 2 with (at_builtin; refine app_known rfl (.tmp 10) (.tmp 11) #[22, 22] rfl _ _ _ rfl rfl hrun2.out ?_)
  rw [← Hb0.out]
  clear hX0' hX1' hX2' hg' hb' hrun2 kc Hb0
  have q0 : w3.cell? ⟨b0, 0, none⟩ = some (.int .u64 (h.r0 : Int)) := HS.out.hd.cell 0
  have q1 : w3.cell? ⟨b0, 1, none⟩ = some (.int .u64 (h.r1 : Int)) := HS.out.hd.cell 1
  have q2 : w3.cell? ⟨b0, 2, none⟩ = some (.int .u64 (h.m0 : Int)) := HS.out.hd.cell 2
  have q3 : w3.cell? ⟨b0, 3, none⟩ = some (.int .u64 (h.m1 : Int)) := HS.out.hd.cell 3
  have q4 : w3.cell? ⟨b0, 4, none⟩ = some (.int .u64 (h.l0 : Int)) := HS.out.hd.cell 4
  have q5 : w3.cell? ⟨b0, 5, none⟩ = some (.int .u64 (h.l1 : Int)) := HS.out.hd.cell 5
  have q6 : w3.cell? ⟨b0, 6, none⟩ = some (.int .u64 (h.d0 : Int)) := HS.out.hd.cell 6
  have q7 : w3.cell? ⟨b0, 7, none⟩ = some (.int .u64 (h.d1 : Int)) := HS.out.hd.cell 7
  have q8 : w3.cell? ⟨b0, 8, none⟩ = some (.int .u64 (h.c0 : Int)) := HS.out.hd.cell 8
  have q9 : w3.cell? ⟨b0, 9, none⟩ = some (.int .u64 (h.c1 : Int)) := HS.out.hd.cell 9
  have q10 : w3.cell? ⟨b0, 10, none⟩ = some (.int .u64 (h.c2 : Int)) := HS.out.hd.cell 10
  go_upto_region 3 with (fail)
  obtain ⟨s8, hs8⟩ : ∃ s, s = w3.heap.size := ⟨_, rfl⟩
  obtain ⟨X3, hX3⟩ : ∃ X, X = w3.alloc (.cells #[.int .u64 (h.r0 : Int), .int .u64 (h.r1 : Int), .int .u64 (h.m0 : Int), .int .u64 (h.m1 : Int), .int .u64 (h.l0 : Int), .int .u64 (h.l1 : Int), .int .u64 (h.d0 : Int), .int .u64 (h.d1 : Int), .int .u64 (h.c0 : Int), .int .u64 (h.c1 : Int), .int .u64 (h.c2 : Int)] 23) := ⟨_, rfl⟩
  have HR : Hid (Whole X3 s8 23 #[.int .u64 (h.r0 : Int), .int .u64 (h.r1 : Int), .int .u64 (h.m0 : Int), .int .u64 (h.m1 : Int), .int .u64 (h.l0 : Int), .int .u64 (h.l1 : Int), .int .u64 (h.d0 : Int), .int .u64 (h.d1 : Int), .int .u64 (h.c0 : Int), .int .u64 (h.c1 : Int), .int .u64 (h.c2 : Int)]) := by show Whole _ _ _ _; rw [hX3, hs8]; exact Whole.new w3 _ _
  have HS3 : Hid (QS w base b0 h 0 v3 X3) := by show QS _ _ _ _ _ _ _; rw [hX3]; exact HS.out.kept ((Below.refl _ _).alloc (Nat.le_refl _) _)
  rw [← hX3, ← hs8]
  clear hX3 hs8 HS q0 q1 q2 q3 q4 q5 q6 q7 q8 q9 q10
  go_wp2_with fail
  go_loopw [3, 5] (fun x3 x5 W => ∃ k : Nat, k ≤ 11 ∧ x5 = .int .i64 (k : Int) ∧ Hid (QS w base b0 h k x3 W) ∧ Hid (Whole W s8 23 #[.int .u64 (h.r0 : Int), .int .u64 (h.r1 : Int), .int .u64 (h.m0 : Int), .int .u64 (h.m1 : Int), .int .u64 (h.l0 : Int), .int .u64 (h.l1 : Int), .int .u64 (h.d0 : Int), .int .u64 (h.d1 : Int), .int .u64 (h.c0 : Int), .int .u64 (h.c1 : Int), .int .u64 (h.c2 : Int)])) (fun x3 x5 _ => 11 - (intOf x5).toNat)
  case atStart => exact ⟨0, by omega, rfl, HS3, HR⟩
  case round =>
    clear HS3 HR
    obtain ⟨k, hk, rfl, HS, HR⟩ := hrel
    have hk5 : k = 0 ∨ k = 1 ∨ k = 2 ∨ k = 3 ∨ k = 4 ∨ k = 5 ∨ k = 6 ∨ k = 7 ∨ k = 8 ∨ k = 9 ∨ k = 10 ∨ k = 11 := by omega
    rcases hk5 with rfl | rfl | rfl | rfl | rfl | rfl | rfl | rfl | rfl | rfl | rfl | rfl
    · have c0 : wr.cell? ⟨s8, 0, none⟩ = some (.int .u64 (h.r0 : Int)) := HR.out.cell 0
      go_wp2_with fail
      refine (rlow_any (h.r0) 8 wr (by omega) (HU.out.1)).mono ?_
      rintro e Y ⟨a, c, rfl, ho, hb⟩
      obtain ⟨v', w', hrun, hq, hkw⟩ := (HS.out.kept hb).app ho rfl (by rw [lowD_length]) (by omega) (by omega)
      have HS2 : Hid (QS w base b0 h 1 v' w') := hq
      have HR2 := Lib.hid (Whole.kw (t := 23) (Whole.kw (t := 23) HR.out (kw_below hb HS.out.nb.2.1) (by decide) (by decide)) hkw (by decide) (by decide))
      have Hrun := Lib.hid hrun
      clear hrun hq hkw ho hb HS HR c0
      go_wp2_with (at_builtin; refine app_known rfl (.tmp 53) (.tmp 58) #[22, 22] rfl _ _ _ rfl rfl Hrun.out ?_)
      go_roundw
      case rel => exact ⟨1, by omega, rfl, HS2, HR2⟩
      case measure => simp [intOf]
    · have c0 : wr.cell? ⟨s8, 1, none⟩ = some (.int .u64 (h.r1 : Int)) := HR.out.cell 1
      go_wp2_with fail
      refine (rlow_any (h.r1) 8 wr (by omega) (HU.out.2.1)).mono ?_
      rintro e Y ⟨a, c, rfl, ho, hb⟩
      obtain ⟨v', w', hrun, hq, hkw⟩ := (HS.out.kept hb).app ho rfl (by rw [lowD_length]) (by omega) (by omega)
      have HS2 : Hid (QS w base b0 h 2 v' w') := hq
      have HR2 := Lib.hid (Whole.kw (t := 23) (Whole.kw (t := 23) HR.out (kw_below hb HS.out.nb.2.1) (by decide) (by decide)) hkw (by decide) (by decide))
      have Hrun := Lib.hid hrun
      clear hrun hq hkw ho hb HS HR c0
      go_wp2_with (at_builtin; refine app_known rfl (.tmp 53) (.tmp 58) #[22, 22] rfl _ _ _ rfl rfl Hrun.out ?_)
      go_roundw
      case rel => exact ⟨2, by omega, rfl, HS2, HR2⟩
      case measure => simp [intOf]
    · have c0 : wr.cell? ⟨s8, 2, none⟩ = some (.int .u64 (h.m0 : Int)) := HR.out.cell 2
      go_wp2_with fail
      refine (rlow_any (h.m0) 8 wr (by omega) (HU.out.2.2.1)).mono ?_
      rintro e Y ⟨a, c, rfl, ho, hb⟩
      obtain ⟨v', w', hrun, hq, hkw⟩ := (HS.out.kept hb).app ho rfl (by rw [lowD_length]) (by omega) (by omega)
      have HS2 : Hid (QS w base b0 h 3 v' w') := hq
      have HR2 := Lib.hid (Whole.kw (t := 23) (Whole.kw (t := 23) HR.out (kw_below hb HS.out.nb.2.1) (by decide) (by decide)) hkw (by decide) (by decide))
      have Hrun := Lib.hid hrun
      clear hrun hq hkw ho hb HS HR c0
      go_wp2_with (at_builtin; refine app_known rfl (.tmp 53) (.tmp 58) #[22, 22] rfl _ _ _ rfl rfl Hrun.out ?_)
      go_roundw
      case rel => exact ⟨3, by omega, rfl, HS2, HR2⟩
      case measure => simp [intOf]
    · have c0 : wr.cell? ⟨s8, 3, none⟩ = some (.int .u64 (h.m1 : Int)) := HR.out.cell 3
      go_wp2_with fail
      refine (rlow_any (h.m1) 8 wr (by omega) (HU.out.2.2.2.1)).mono ?_
      rintro e Y ⟨a, c, rfl, ho, hb⟩
      obtain ⟨v', w', hrun, hq, hkw⟩ := (HS.out.kept hb).app ho rfl (by rw [lowD_length]) (by omega) (by omega)
      have HS2 : Hid (QS w base b0 h 4 v' w') := hq
      have HR2 := Lib.hid (Whole.kw (t := 23) (Whole.kw (t := 23) HR.out (kw_below hb HS.out.nb.2.1) (by decide) (by decide)) hkw (by decide) (by decide))
      have Hrun := Lib.hid hrun
      clear hrun hq hkw ho hb HS HR c0
      go_wp2_with (at_builtin; refine app_known rfl (.tmp 53) (.tmp 58) #[22, 22] rfl _ _ _ rfl rfl Hrun.out ?_)
      go_roundw
      case rel => exact ⟨4, by omega, rfl, HS2, HR2⟩
      case measure => simp [intOf]
    · have c0 : wr.cell? ⟨s8, 4, none⟩ = some (.int .u64 (h.l0 : Int)) := HR.out.cell 4
      go_wp2_with fail
      refine (rlow_any (h.l0) 8 wr (by omega) (HU.out.2.2.2.2.1)).mono ?_
      rintro e Y ⟨a, c, rfl, ho, hb⟩
      obtain ⟨v', w', hrun, hq, hkw⟩ := (HS.out.kept hb).app ho rfl (by rw [lowD_length]) (by omega) (by omega)
      have HS2 : Hid (QS w base b0 h 5 v' w') := hq
      have HR2 := Lib.hid (Whole.kw (t := 23) (Whole.kw (t := 23) HR.out (kw_below hb HS.out.nb.2.1) (by decide) (by decide)) hkw (by decide) (by decide))
      have Hrun := Lib.hid hrun
      clear hrun hq hkw ho hb HS HR c0
      go_wp2_with (at_builtin; refine app_known rfl (.tmp 53) (.tmp 58) #[22, 22] rfl _ _ _ rfl rfl Hrun.out ?_)
      go_roundw
      case rel => exact ⟨5, by omega, rfl, HS2, HR2⟩
      case measure => simp [intOf]
    · have c0 : wr.cell? ⟨s8, 5, none⟩ = some (.int .u64 (h.l1 : Int)) := HR.out.cell 5
      go_wp2_with fail
      refine (rlow_any (h.l1) 8 wr (by omega) (HU.out.2.2.2.2.2.1)).mono ?_
      rintro e Y ⟨a, c, rfl, ho, hb⟩
      obtain ⟨v', w', hrun, hq, hkw⟩ := (HS.out.kept hb).app ho rfl (by rw [lowD_length]) (by omega) (by omega)
      have HS2 : Hid (QS w base b0 h 6 v' w') := hq
      have HR2 := Lib.hid (Whole.kw (t := 23) (Whole.kw (t := 23) HR.out (kw_below hb HS.out.nb.2.1) (by decide) (by decide)) hkw (by decide) (by decide))
      have Hrun := Lib.hid hrun
      clear hrun hq hkw ho hb HS HR c0
      go_wp2_with (at_builtin; refine app_known rfl (.tmp 53) (.tmp 58) #[22, 22] rfl _ _ _ rfl rfl Hrun.out ?_)
      go_roundw
      case rel => exact ⟨6, by omega, rfl, HS2, HR2⟩
      case measure => simp [intOf]
    · have c0 : wr.cell? ⟨s8, 6, none⟩ = some (.int .u64 (h.d0 : Int)) := HR.out.cell 6
      go_wp2_with fail
      refine (rlow_any (h.d0) 8 wr (by omega) (HU.out.2.2.2.2.2.2.1)).mono ?_
      rintro e Y ⟨a, c, rfl, ho, hb⟩
      obtain ⟨v', w', hrun, hq, hkw⟩ := (HS.out.kept hb).app ho rfl (by rw [lowD_length]) (by omega) (by omega)
      have HS2 : Hid (QS w base b0 h 7 v' w') := hq
      have HR2 := Lib.hid (Whole.kw (t := 23) (Whole.kw (t := 23) HR.out (kw_below hb HS.out.nb.2.1) (by decide) (by decide)) hkw (by decide) (by decide))
      have Hrun := Lib.hid hrun
      clear hrun hq hkw ho hb HS HR c0
      go_wp2_with (at_builtin; refine app_known rfl (.tmp 53) (.tmp 58) #[22, 22] rfl _ _ _ rfl rfl Hrun.out ?_)
      go_roundw
      case rel => exact ⟨7, by omega, rfl, HS2, HR2⟩
      case measure => simp [intOf]
    · have c0 : wr.cell? ⟨s8, 7, none⟩ = some (.int .u64 (h.d1 : Int)) := HR.out.cell 7
      go_wp2_with fail
      refine (rlow_any (h.d1) 8 wr (by omega) (HU.out.2.2.2.2.2.2.2.1)).mono ?_
      rintro e Y ⟨a, c, rfl, ho, hb⟩
      obtain ⟨v', w', hrun, hq, hkw⟩ := (HS.out.kept hb).app ho rfl (by rw [lowD_length]) (by omega) (by omega)
      have HS2 : Hid (QS w base b0 h 8 v' w') := hq
      have HR2 := Lib.hid (Whole.kw (t := 23) (Whole.kw (t := 23) HR.out (kw_below hb HS.out.nb.2.1) (by decide) (by decide)) hkw (by decide) (by decide))
      have Hrun := Lib.hid hrun
      clear hrun hq hkw ho hb HS HR c0
      go_wp2_with (at_builtin; refine app_known rfl (.tmp 53) (.tmp 58) #[22, 22] rfl _ _ _ rfl rfl Hrun.out ?_)
      go_roundw
      case rel => exact ⟨8, by omega, rfl, HS2, HR2⟩
      case measure => simp [intOf]
    · have c0 : wr.cell? ⟨s8, 8, none⟩ = some (.int .u64 (h.c0 : Int)) := HR.out.cell 8
      go_wp2_with fail
      refine (rlow_any (h.c0) 8 wr (by omega) (HU.out.2.2.2.2.2.2.2.2.1)).mono ?_
      rintro e Y ⟨a, c, rfl, ho, hb⟩
      obtain ⟨v', w', hrun, hq, hkw⟩ := (HS.out.kept hb).app ho rfl (by rw [lowD_length]) (by omega) (by omega)
      have HS2 : Hid (QS w base b0 h 9 v' w') := hq
      have HR2 := Lib.hid (Whole.kw (t := 23) (Whole.kw (t := 23) HR.out (kw_below hb HS.out.nb.2.1) (by decide) (by decide)) hkw (by decide) (by decide))
      have Hrun := Lib.hid hrun
      clear hrun hq hkw ho hb HS HR c0
      go_wp2_with (at_builtin; refine app_known rfl (.tmp 53) (.tmp 58) #[22, 22] rfl _ _ _ rfl rfl Hrun.out ?_)
      go_roundw
      case rel => exact ⟨9, by omega, rfl, HS2, HR2⟩
      case measure => simp [intOf]
    · have c0 : wr.cell? ⟨s8, 9, none⟩ = some (.int .u64 (h.c1 : Int)) := HR.out.cell 9
      go_wp2_with fail
      refine (rlow_any (h.c1) 8 wr (by omega) (HU.out.2.2.2.2.2.2.2.2.2.1)).mono ?_
      rintro e Y ⟨a, c, rfl, ho, hb⟩
      obtain ⟨v', w', hrun, hq, hkw⟩ := (HS.out.kept hb).app ho rfl (by rw [lowD_length]) (by omega) (by omega)
      have HS2 : Hid (QS w base b0 h 10 v' w') := hq
      have HR2 := Lib.hid (Whole.kw (t := 23) (Whole.kw (t := 23) HR.out (kw_below hb HS.out.nb.2.1) (by decide) (by decide)) hkw (by decide) (by decide))
      have Hrun := Lib.hid hrun
      clear hrun hq hkw ho hb HS HR c0
      go_wp2_with (at_builtin; refine app_known rfl (.tmp 53) (.tmp 58) #[22, 22] rfl _ _ _ rfl rfl Hrun.out ?_)
      go_roundw
      case rel => exact ⟨10, by omega, rfl, HS2, HR2⟩
      case measure => simp [intOf]
    · have c0 : wr.cell? ⟨s8, 10, none⟩ = some (.int .u64 (h.c2 : Int)) := HR.out.cell 10
      go_wp2_with fail
      refine (rlow_any (h.c2) 8 wr (by omega) (HU.out.2.2.2.2.2.2.2.2.2.2)).mono ?_
      rintro e Y ⟨a, c, rfl, ho, hb⟩
      obtain ⟨v', w', hrun, hq, hkw⟩ := (HS.out.kept hb).app ho rfl (by rw [lowD_length]) (by omega) (by omega)
      have HS2 : Hid (QS w base b0 h 11 v' w') := hq
      have HR2 := Lib.hid (Whole.kw (t := 23) (Whole.kw (t := 23) HR.out (kw_below hb HS.out.nb.2.1) (by decide) (by decide)) hkw (by decide) (by decide))
      have Hrun := Lib.hid hrun
      clear hrun hq hkw ho hb HS HR c0
      go_wp2_with (at_builtin; refine app_known rfl (.tmp 53) (.tmp 58) #[22, 22] rfl _ _ _ rfl rfl Hrun.out ?_)
      go_roundw
      case rel => exact ⟨11, by omega, rfl, HS2, HR2⟩
      case measure => simp [intOf]
    · have HS11 : Hid (QS w base b0 h 11 u3 wr) := HS
      clear HS HR
      rw [show ((11 : Nat) : Int) = 11 from rfl]
      have q11 : wr.cell? ⟨b0, 11, none⟩ = some (.bool h.cl) := HS11.out.hd.cell 11
      go_upto_if 61 with (fail)
      obtain ⟨w5, hw5⟩ : ∃ X, X = wr := ⟨_, rfl⟩
      go_cut [6] (fun x6 W => x6 = .int .i64 (cI h) ∧ w5 = W)
      case first =>
        cases hcl : h.cl with
        | true =>
          have hci : Hid (cI h = 1) := by show cI h = 1; unfold cI; rw [hcl]; rfl
          try rw [hcl]
          go_wp2_with fail
          go_meet
          exact ⟨by rw [hci.out], hw5⟩
        | false =>
          have hci : Hid (cI h = 0) := by show cI h = 0; unfold cI; rw [hcl]; rfl
          try rw [hcl]
          go_wp2_with fail
          go_meet
          exact ⟨by rw [hci.out], hw5⟩
      case rest =>
        obtain ⟨rfl, rfl⟩ := hcut
        subst hw5
        clear q11
        have q12 : w5.cell? ⟨b0, 12, none⟩ = some (.int .i64 h.inn) := HS11.out.hd.cell 12
        have q13 : w5.cell? ⟨b0, 13, none⟩ = some (.int .i64 h.out) := HS11.out.hd.cell 13
        have q14 : w5.cell? ⟨b0, 14, none⟩ = some (.int .i64 h.kind) := HS11.out.hd.cell 14
        have q15 : w5.cell? ⟨b0, 15, none⟩ = some (.int .i64 h.zmin) := HS11.out.hd.cell 15
        have q16 : w5.cell? ⟨b0, 16, none⟩ = some (.int .i64 h.zmax) := HS11.out.hd.cell 16
        go_upto_region 11 with (fail)
        obtain ⟨s6, hs6⟩ : ∃ s, s = w5.heap.size := ⟨_, rfl⟩
        obtain ⟨X6, hX6⟩ : ∃ X, X = w5.alloc (.cells #[.int .i64 (cI h), .int .i64 (h.inn), .int .i64 (h.out), .int .i64 (h.kind), .int .i64 (h.zmin), .int .i64 (h.zmax)] 3) := ⟨_, rfl⟩
        have HR6 : Hid (Whole X6 s6 3 #[.int .i64 (cI h), .int .i64 (h.inn), .int .i64 (h.out), .int .i64 (h.kind), .int .i64 (h.zmin), .int .i64 (h.zmax)]) := by show Whole _ _ _ _; rw [hX6, hs6]; exact Whole.new w5 _ _
        have HS6 : Hid (QS w base b0 h (11 + 0) u3 X6) := by show QS _ _ _ _ _ _ _; rw [hX6]; exact HS11.out.kept ((Below.refl _ _).alloc (Nat.le_refl _) _)
        rw [← hX6, ← hs6]
        clear hX6 hs6 HS11 q12 q13 q14 q15 q16
        go_wp2_with fail
        go_loopw [3, 8] (fun x3 x8 W => ∃ k : Nat, k ≤ 6 ∧ x8 = .int .i64 (k : Int) ∧ Hid (QS w base b0 h (11 + k) x3 W) ∧ Hid (Whole W s6 3 #[.int .i64 (cI h), .int .i64 (h.inn), .int .i64 (h.out), .int .i64 (h.kind), .int .i64 (h.zmin), .int .i64 (h.zmax)])) (fun x3 x8 _ => 6 - (intOf x8).toNat)
        case atStart => exact ⟨0, by omega, rfl, HS6, HR6⟩
        case round =>
          clear HS6 HR6
          obtain ⟨k, hk, rfl, HS, HR⟩ := hrel
          have hk5 : k = 0 ∨ k = 1 ∨ k = 2 ∨ k = 3 ∨ k = 4 ∨ k = 5 ∨ k = 6 := by omega
          rcases hk5 with rfl | rfl | rfl | rfl | rfl | rfl | rfl
          · have c0 : wr.cell? ⟨s6, 0, none⟩ = some (.int .i64 (cI h)) := HR.out.cell 0
            have u1 := u64N_wrap (cI h)
            have u2 := u64N_mod (cI h)
            go_wp2_with fail
            refine (rlow_any (u64N (cI h)) 1 wr (by omega) (u64N_lt _)).mono ?_
            rintro e Y ⟨a, c, rfl, ho, hb⟩
            obtain ⟨v', w', hrun, hq, hkw⟩ := (HS.out.kept hb).app ho rfl (by rw [lowD_length]) (by omega) (by omega)
            have HS2 : Hid (QS w base b0 h (11 + 1) v' w') := hq
            have HR2 := Lib.hid (Whole.kw (t := 3) (Whole.kw (t := 3) HR.out (kw_below hb HS.out.nb.2.1) (by decide) (by decide)) hkw (by decide) (by decide))
            have Hrun := Lib.hid hrun
            clear hrun hq hkw ho hb HS HR c0 u1 u2
            go_wp2_with (at_builtin; refine app_known rfl (.tmp 80) (.tmp 86) #[22, 22] rfl _ _ _ rfl rfl Hrun.out ?_)
            go_roundw
            case rel => exact ⟨1, by omega, rfl, HS2, HR2⟩
            case measure => simp [intOf]
          · have c0 : wr.cell? ⟨s6, 1, none⟩ = some (.int .i64 (h.inn)) := HR.out.cell 1
            have u1 := u64N_wrap (h.inn)
            have u2 := u64N_mod (h.inn)
            go_wp2_with fail
            refine (rlow_any (u64N (h.inn)) 1 wr (by omega) (u64N_lt _)).mono ?_
            rintro e Y ⟨a, c, rfl, ho, hb⟩
            obtain ⟨v', w', hrun, hq, hkw⟩ := (HS.out.kept hb).app ho rfl (by rw [lowD_length]) (by omega) (by omega)
            have HS2 : Hid (QS w base b0 h (11 + 2) v' w') := hq
            have HR2 := Lib.hid (Whole.kw (t := 3) (Whole.kw (t := 3) HR.out (kw_below hb HS.out.nb.2.1) (by decide) (by decide)) hkw (by decide) (by decide))
            have Hrun := Lib.hid hrun
            clear hrun hq hkw ho hb HS HR c0 u1 u2
            go_wp2_with (at_builtin; refine app_known rfl (.tmp 80) (.tmp 86) #[22, 22] rfl _ _ _ rfl rfl Hrun.out ?_)
            go_roundw
            case rel => exact ⟨2, by omega, rfl, HS2, HR2⟩
            case measure => simp [intOf]
          · have c0 : wr.cell? ⟨s6, 2, none⟩ = some (.int .i64 (h.out)) := HR.out.cell 2
            have u1 := u64N_wrap (h.out)
            have u2 := u64N_mod (h.out)
            go_wp2_with fail
            refine (rlow_any (u64N (h.out)) 1 wr (by omega) (u64N_lt _)).mono ?_
            rintro e Y ⟨a, c, rfl, ho, hb⟩
            obtain ⟨v', w', hrun, hq, hkw⟩ := (HS.out.kept hb).app ho rfl (by rw [lowD_length]) (by omega) (by omega)
            have HS2 : Hid (QS w base b0 h (11 + 3) v' w') := hq
            have HR2 := Lib.hid (Whole.kw (t := 3) (Whole.kw (t := 3) HR.out (kw_below hb HS.out.nb.2.1) (by decide) (by decide)) hkw (by decide) (by decide))
            have Hrun := Lib.hid hrun
            clear hrun hq hkw ho hb HS HR c0 u1 u2
            go_wp2_with (at_builtin; refine app_known rfl (.tmp 80) (.tmp 86) #[22, 22] rfl _ _ _ rfl rfl Hrun.out ?_)
            go_roundw
            case rel => exact ⟨3, by omega, rfl, HS2, HR2⟩
            case measure => simp [intOf]
          · have c0 : wr.cell? ⟨s6, 3, none⟩ = some (.int .i64 (h.kind)) := HR.out.cell 3
            have u1 := u64N_wrap (h.kind)
            have u2 := u64N_mod (h.kind)
            go_wp2_with fail
            refine (rlow_any (u64N (h.kind)) 1 wr (by omega) (u64N_lt _)).mono ?_
            rintro e Y ⟨a, c, rfl, ho, hb⟩
            obtain ⟨v', w', hrun, hq, hkw⟩ := (HS.out.kept hb).app ho rfl (by rw [lowD_length]) (by omega) (by omega)
            have HS2 : Hid (QS w base b0 h (11 + 4) v' w') := hq
            have HR2 := Lib.hid (Whole.kw (t := 3) (Whole.kw (t := 3) HR.out (kw_below hb HS.out.nb.2.1) (by decide) (by decide)) hkw (by decide) (by decide))
            have Hrun := Lib.hid hrun
            clear hrun hq hkw ho hb HS HR c0 u1 u2
            go_wp2_with (at_builtin; refine app_known rfl (.tmp 80) (.tmp 86) #[22, 22] rfl _ _ _ rfl rfl Hrun.out ?_)
            go_roundw
            case rel => exact ⟨4, by omega, rfl, HS2, HR2⟩
            case measure => simp [intOf]
          · have c0 : wr.cell? ⟨s6, 4, none⟩ = some (.int .i64 (h.zmin)) := HR.out.cell 4
            have u1 := u64N_wrap (h.zmin)
            have u2 := u64N_mod (h.zmin)
            go_wp2_with fail
            refine (rlow_any (u64N (h.zmin)) 1 wr (by omega) (u64N_lt _)).mono ?_
            rintro e Y ⟨a, c, rfl, ho, hb⟩
            obtain ⟨v', w', hrun, hq, hkw⟩ := (HS.out.kept hb).app ho rfl (by rw [lowD_length]) (by omega) (by omega)
            have HS2 : Hid (QS w base b0 h (11 + 5) v' w') := hq
            have HR2 := Lib.hid (Whole.kw (t := 3) (Whole.kw (t := 3) HR.out (kw_below hb HS.out.nb.2.1) (by decide) (by decide)) hkw (by decide) (by decide))
            have Hrun := Lib.hid hrun
            clear hrun hq hkw ho hb HS HR c0 u1 u2
            go_wp2_with (at_builtin; refine app_known rfl (.tmp 80) (.tmp 86) #[22, 22] rfl _ _ _ rfl rfl Hrun.out ?_)
            go_roundw
            case rel => exact ⟨5, by omega, rfl, HS2, HR2⟩
            case measure => simp [intOf]
          · have c0 : wr.cell? ⟨s6, 5, none⟩ = some (.int .i64 (h.zmax)) := HR.out.cell 5
            have u1 := u64N_wrap (h.zmax)
            have u2 := u64N_mod (h.zmax)
            go_wp2_with fail
            refine (rlow_any (u64N (h.zmax)) 1 wr (by omega) (u64N_lt _)).mono ?_
            rintro e Y ⟨a, c, rfl, ho, hb⟩
            obtain ⟨v', w', hrun, hq, hkw⟩ := (HS.out.kept hb).app ho rfl (by rw [lowD_length]) (by omega) (by omega)
            have HS2 : Hid (QS w base b0 h (11 + 6) v' w') := hq
            have HR2 := Lib.hid (Whole.kw (t := 3) (Whole.kw (t := 3) HR.out (kw_below hb HS.out.nb.2.1) (by decide) (by decide)) hkw (by decide) (by decide))
            have Hrun := Lib.hid hrun
            clear hrun hq hkw ho hb HS HR c0 u1 u2
            go_wp2_with (at_builtin; refine app_known rfl (.tmp 80) (.tmp 86) #[22, 22] rfl _ _ _ rfl rfl Hrun.out ?_)
            go_roundw
            case rel => exact ⟨6, by omega, rfl, HS2, HR2⟩
            case measure => simp [intOf]
          · obtain ⟨v0, hv0⟩ : ∃ v, v = u3 := ⟨_, rfl⟩
            rw [← hv0] at HS ⊢
            have HS17 : Hid (QS w base b0 h 17 v0 wr) := HS
            clear HS HR hv0
            rw [show ((6 : Nat) : Int) = 6 from rfl]
            go_upto_region 15 with (fail)
            have HQ0 := Lib.hid HS17.out.drew
            clear HS17
            refine wp_region_held (S := (fun V => Whole V b0 29 h.cells)) (by kernel_rfl) ?_
            refine wpAnyH_take (i := 0) (oi := { dst := some 88, op := Go.Op.move (Go.Operand.tmp 3), type := 22, pos := "ref.go:45", after := #[], guard := none }) (v := ?_) rfl (by kernel_rfl) (by kernel_rfl) (by kernel_rfl) (fun _ _ _ h => h) (Or.inl ⟨by rfl, ?_⟩) (HQ0.out.hd) ?_
            rotate_left 1
            · intro w5 hSw
              go_simp; all_goals (with_reducible rfl)
            try simp only [Act.put, List.setIfInBounds_toArray, List.set_cons_zero, List.set_cons_succ]
            refine wpAnyH_take (i := 1) (oi := { dst := some 89, op := Go.Op.fieldAddr 29 (Go.Operand.tmp 1) 11, type := 0, pos := "ref.go:45", after := #[], guard := none }) (v := ?_) rfl (by kernel_rfl) (by kernel_rfl) (by kernel_rfl) (fun _ _ _ h => h) (Or.inl ⟨by rfl, ?_⟩) (HQ0.out.hd) ?_
            rotate_left 1
            · intro w5 hSw
              go_simp; all_goals (with_reducible rfl)
            try simp only [Act.put, List.setIfInBounds_toArray, List.set_cons_zero, List.set_cons_succ]
            refine wpAnyH_take (i := 2) (oi := { dst := some 90, op := Go.Op.fieldAddr 27 (Go.Operand.tmp 89) 0, type := 0, pos := "ref.go:45", after := #[{ on := 1, ground := Go.Ground.data }], guard := none }) (v := ?_) rfl (by kernel_rfl) (by kernel_rfl) (by kernel_rfl) (fun _ _ _ h => h) (Or.inl ⟨by rfl, ?_⟩) (HQ0.out.hd) ?_
            rotate_left 1
            · intro w5 hSw
              go_simp; all_goals (with_reducible rfl)
            try simp only [Act.put, List.setIfInBounds_toArray, List.set_cons_zero, List.set_cons_succ]
            refine wpAnyH_take (i := 3) (oi := { dst := some 91, op := Go.Op.load 3 (Go.Operand.tmp 90), type := 3, pos := "ref.go:45", after := #[{ on := 2, ground := Go.Ground.data }], guard := none }) (v := ?_) rfl (by kernel_rfl) (by kernel_rfl) (by kernel_rfl) (fun _ _ _ h => h) (Or.inl ⟨by rfl, ?_⟩) (HQ0.out.hd) ?_
            rotate_left 1
            · intro w5 hSw
              have q : w5.cell? ⟨b0, 17, none⟩ = some (.int .i64 h.x0) := hSw.cell 17
              go_simp; all_goals (with_reducible rfl)
            try simp only [Act.put, List.setIfInBounds_toArray, List.set_cons_zero, List.set_cons_succ]
            refine wpAnyH_take (i := 4) (oi := { dst := some 92, op := Go.Op.convert 3 23 (Go.Operand.tmp 91), type := 23, pos := "ref.go:45", after := #[{ on := 3, ground := Go.Ground.data }], guard := none }) (v := ?_) rfl (by kernel_rfl) (by kernel_rfl) (by kernel_rfl) (fun _ _ _ h => h) (Or.inl ⟨by rfl, ?_⟩) (HQ0.out.hd) ?_
            rotate_left 1
            · intro w5 hSw
              have u1 := u64N_wrap h.x0
              have u2 := u64N_mod h.x0
              go_simp; all_goals (with_reducible rfl)
            try simp only [Act.put, List.setIfInBounds_toArray, List.set_cons_zero, List.set_cons_succ]
            refine wpAnyH_take (i := 7) (oi := { dst := some 95, op := Go.Op.fieldAddr 29 (Go.Operand.tmp 1) 11, type := 0, pos := "ref.go:45", after := #[], guard := none }) (v := ?_) rfl (by kernel_rfl) (by kernel_rfl) (by kernel_rfl) (fun _ _ _ h => h) (Or.inl ⟨by rfl, ?_⟩) (HQ0.out.hd) ?_
            rotate_left 1
            · intro w5 hSw
              go_simp; all_goals (with_reducible rfl)
            try simp only [Act.put, List.setIfInBounds_toArray, List.set_cons_zero, List.set_cons_succ]
            refine wpAnyH_take (i := 8) (oi := { dst := some 96, op := Go.Op.fieldAddr 27 (Go.Operand.tmp 95) 1, type := 0, pos := "ref.go:45", after := #[{ on := 7, ground := Go.Ground.data }], guard := none }) (v := ?_) rfl (by kernel_rfl) (by kernel_rfl) (by kernel_rfl) (fun _ _ _ h => h) (Or.inl ⟨by rfl, ?_⟩) (HQ0.out.hd) ?_
            rotate_left 1
            · intro w5 hSw
              go_simp; all_goals (with_reducible rfl)
            try simp only [Act.put, List.setIfInBounds_toArray, List.set_cons_zero, List.set_cons_succ]
            refine wpAnyH_take (i := 9) (oi := { dst := some 97, op := Go.Op.load 3 (Go.Operand.tmp 96), type := 3, pos := "ref.go:45", after := #[{ on := 8, ground := Go.Ground.data }], guard := none }) (v := ?_) rfl (by kernel_rfl) (by kernel_rfl) (by kernel_rfl) (fun _ _ _ h => h) (Or.inl ⟨by rfl, ?_⟩) (HQ0.out.hd) ?_
            rotate_left 1
            · intro w5 hSw
              have q : w5.cell? ⟨b0, 18, none⟩ = some (.int .i64 h.y0) := hSw.cell 18
              go_simp; all_goals (with_reducible rfl)
            try simp only [Act.put, List.setIfInBounds_toArray, List.set_cons_zero, List.set_cons_succ]
            refine wpAnyH_take (i := 10) (oi := { dst := some 98, op := Go.Op.convert 3 23 (Go.Operand.tmp 97), type := 23, pos := "ref.go:45", after := #[{ on := 9, ground := Go.Ground.data }], guard := none }) (v := ?_) rfl (by kernel_rfl) (by kernel_rfl) (by kernel_rfl) (fun _ _ _ h => h) (Or.inl ⟨by rfl, ?_⟩) (HQ0.out.hd) ?_
            rotate_left 1
            · intro w5 hSw
              have u1 := u64N_wrap h.y0
              have u2 := u64N_mod h.y0
              go_simp; all_goals (with_reducible rfl)
            try simp only [Act.put, List.setIfInBounds_toArray, List.set_cons_zero, List.set_cons_succ]
            refine wpAnyH_take (i := 13) (oi := { dst := some 101, op := Go.Op.fieldAddr 29 (Go.Operand.tmp 1) 12, type := 0, pos := "ref.go:45", after := #[], guard := none }) (v := ?_) rfl (by kernel_rfl) (by kernel_rfl) (by kernel_rfl) (fun _ _ _ h => h) (Or.inl ⟨by rfl, ?_⟩) (HQ0.out.hd) ?_
            rotate_left 1
            · intro w5 hSw
              go_simp; all_goals (with_reducible rfl)
            try simp only [Act.put, List.setIfInBounds_toArray, List.set_cons_zero, List.set_cons_succ]
            refine wpAnyH_take (i := 14) (oi := { dst := some 102, op := Go.Op.fieldAddr 27 (Go.Operand.tmp 101) 0, type := 0, pos := "ref.go:45", after := #[{ on := 13, ground := Go.Ground.data }], guard := none }) (v := ?_) rfl (by kernel_rfl) (by kernel_rfl) (by kernel_rfl) (fun _ _ _ h => h) (Or.inl ⟨by rfl, ?_⟩) (HQ0.out.hd) ?_
            rotate_left 1
            · intro w5 hSw
              go_simp; all_goals (with_reducible rfl)
            try simp only [Act.put, List.setIfInBounds_toArray, List.set_cons_zero, List.set_cons_succ]
            refine wpAnyH_take (i := 15) (oi := { dst := some 103, op := Go.Op.load 3 (Go.Operand.tmp 102), type := 3, pos := "ref.go:45", after := #[{ on := 14, ground := Go.Ground.data }], guard := none }) (v := ?_) rfl (by kernel_rfl) (by kernel_rfl) (by kernel_rfl) (fun _ _ _ h => h) (Or.inl ⟨by rfl, ?_⟩) (HQ0.out.hd) ?_
            rotate_left 1
            · intro w5 hSw
              have q : w5.cell? ⟨b0, 19, none⟩ = some (.int .i64 h.x1) := hSw.cell 19
              go_simp; all_goals (with_reducible rfl)
            try simp only [Act.put, List.setIfInBounds_toArray, List.set_cons_zero, List.set_cons_succ]
            refine wpAnyH_take (i := 16) (oi := { dst := some 104, op := Go.Op.convert 3 23 (Go.Operand.tmp 103), type := 23, pos := "ref.go:45", after := #[{ on := 15, ground := Go.Ground.data }], guard := none }) (v := ?_) rfl (by kernel_rfl) (by kernel_rfl) (by kernel_rfl) (fun _ _ _ h => h) (Or.inl ⟨by rfl, ?_⟩) (HQ0.out.hd) ?_
            rotate_left 1
            · intro w5 hSw
              have u1 := u64N_wrap h.x1
              have u2 := u64N_mod h.x1
              go_simp; all_goals (with_reducible rfl)
            try simp only [Act.put, List.setIfInBounds_toArray, List.set_cons_zero, List.set_cons_succ]
            refine wpAnyH_take (i := 19) (oi := { dst := some 107, op := Go.Op.fieldAddr 29 (Go.Operand.tmp 1) 12, type := 0, pos := "ref.go:45", after := #[], guard := none }) (v := ?_) rfl (by kernel_rfl) (by kernel_rfl) (by kernel_rfl) (fun _ _ _ h => h) (Or.inl ⟨by rfl, ?_⟩) (HQ0.out.hd) ?_
            rotate_left 1
            · intro w5 hSw
              go_simp; all_goals (with_reducible rfl)
            try simp only [Act.put, List.setIfInBounds_toArray, List.set_cons_zero, List.set_cons_succ]
            refine wpAnyH_take (i := 20) (oi := { dst := some 108, op := Go.Op.fieldAddr 27 (Go.Operand.tmp 107) 1, type := 0, pos := "ref.go:45", after := #[{ on := 19, ground := Go.Ground.data }], guard := none }) (v := ?_) rfl (by kernel_rfl) (by kernel_rfl) (by kernel_rfl) (fun _ _ _ h => h) (Or.inl ⟨by rfl, ?_⟩) (HQ0.out.hd) ?_
            rotate_left 1
            · intro w5 hSw
              go_simp; all_goals (with_reducible rfl)
            try simp only [Act.put, List.setIfInBounds_toArray, List.set_cons_zero, List.set_cons_succ]
            refine wpAnyH_take (i := 21) (oi := { dst := some 109, op := Go.Op.load 3 (Go.Operand.tmp 108), type := 3, pos := "ref.go:45", after := #[{ on := 20, ground := Go.Ground.data }], guard := none }) (v := ?_) rfl (by kernel_rfl) (by kernel_rfl) (by kernel_rfl) (fun _ _ _ h => h) (Or.inl ⟨by rfl, ?_⟩) (HQ0.out.hd) ?_
            rotate_left 1
            · intro w5 hSw
              have q : w5.cell? ⟨b0, 20, none⟩ = some (.int .i64 h.y1) := hSw.cell 20
              go_simp; all_goals (with_reducible rfl)
            try simp only [Act.put, List.setIfInBounds_toArray, List.set_cons_zero, List.set_cons_succ]
            refine wpAnyH_take (i := 22) (oi := { dst := some 110, op := Go.Op.convert 3 23 (Go.Operand.tmp 109), type := 23, pos := "ref.go:45", after := #[{ on := 21, ground := Go.Ground.data }], guard := none }) (v := ?_) rfl (by kernel_rfl) (by kernel_rfl) (by kernel_rfl) (fun _ _ _ h => h) (Or.inl ⟨by rfl, ?_⟩) (HQ0.out.hd) ?_
            rotate_left 1
            · intro w5 hSw
              have u1 := u64N_wrap h.y1
              have u2 := u64N_mod h.y1
              go_simp; all_goals (with_reducible rfl)
            try simp only [Act.put, List.setIfInBounds_toArray, List.set_cons_zero, List.set_cons_succ]
            refine wpAnyH_ready (rs := [5]) (by kernel_rfl) (by simp) ?_
            refine AllReadyH.cons (o := { dst := some 93, op := Go.Op.call { callee := Go.Callee.value (Go.Operand.func 17), args := #[Go.Operand.tmp 92, Go.Operand.const (Go.Value.int Go.IntKind.i64 4)], argTypes := #[23, 3] }, type := 22, pos := "ref.go:45", after := #[{ on := 4, ground := Go.Ground.data }], guard := none }) rfl (fun K hK => ?_) AllReadyH.nil
            go_simp
            refine (rlow_any (u64N h.x0) 4 _ (by omega) (u64N_lt _)).mono ?_; rintro e YHQ0 ⟨a, c, rfl, ho, hb⟩; have HC := Lib.hid (HQ0.out.kept hb); obtain ⟨vHQ1, wHQ0, hrun, hq, hkw⟩ := HC.out.app ho rfl (by rw [lowD_length]) (by omega) (by omega); have HQ1 : Hid (QS w base b0 h 18 vHQ1 wHQ0) := hq; have HrunHQ0 := Lib.hid hrun; clear hrun hq hkw ho hb HQ0
            go_wp2_with fail
            refine hK.out _ _ (HC.out.hd) (fun _ => ?_)
            clear hK K
            try simp only [Act.put, List.setIfInBounds_toArray, List.set_cons_zero, List.set_cons_succ]
            refine wpAnyH_ready (rs := [6]) (by kernel_rfl) (by simp) ?_
            refine AllReadyH.cons (o := { dst := some 94, op := Go.Op.call { callee := Go.Callee.builtin Go.Builtin.append, args := #[Go.Operand.tmp 88, Go.Operand.tmp 93], argTypes := #[22, 22] }, type := 22, pos := "ref.go:45", after := #[{ on := 0, ground := Go.Ground.data }, { on := 5, ground := Go.Ground.data }, { on := 5, ground := Go.Ground.chain }], guard := none }) rfl (fun K hK => ?_) AllReadyH.nil
            refine held_app (by rfl) (.tmp 88) (.tmp 93) 22 rfl _ _ (vHQ1) rfl rfl (HrunHQ0.out) ?_
            refine hK.out _ _ (HQ1.out.hd) (fun _ => ?_)
            clear hK K
            try simp only [Act.put, List.setIfInBounds_toArray, List.set_cons_zero, List.set_cons_succ]
            refine wpAnyH_ready (rs := [11]) (by kernel_rfl) (by simp) ?_
            refine AllReadyH.cons (o := { dst := some 99, op := Go.Op.call { callee := Go.Callee.value (Go.Operand.func 17), args := #[Go.Operand.tmp 98, Go.Operand.const (Go.Value.int Go.IntKind.i64 4)], argTypes := #[23, 3] }, type := 22, pos := "ref.go:45", after := #[{ on := 10, ground := Go.Ground.data }, { on := 6, ground := Go.Ground.chain }], guard := none }) rfl (fun K hK => ?_) AllReadyH.nil
            go_simp
            refine (rlow_any (u64N h.y0) 4 _ (by omega) (u64N_lt _)).mono ?_; rintro e YHQ1 ⟨a, c, rfl, ho, hb⟩; have HC := Lib.hid (HQ1.out.kept hb); obtain ⟨vHQ2, wHQ1, hrun, hq, hkw⟩ := HC.out.app ho rfl (by rw [lowD_length]) (by omega) (by omega); have HQ2 : Hid (QS w base b0 h 19 vHQ2 wHQ1) := hq; have HrunHQ1 := Lib.hid hrun; clear hrun hq hkw ho hb HQ1
            go_wp2_with fail
            refine hK.out _ _ (HC.out.hd) (fun _ => ?_)
            clear hK K
            try simp only [Act.put, List.setIfInBounds_toArray, List.set_cons_zero, List.set_cons_succ]
            refine wpAnyH_ready (rs := [12]) (by kernel_rfl) (by simp) ?_
            refine AllReadyH.cons (o := { dst := some 100, op := Go.Op.call { callee := Go.Callee.builtin Go.Builtin.append, args := #[Go.Operand.tmp 94, Go.Operand.tmp 99], argTypes := #[22, 22] }, type := 22, pos := "ref.go:45", after := #[{ on := 6, ground := Go.Ground.data }, { on := 11, ground := Go.Ground.data }, { on := 11, ground := Go.Ground.chain }], guard := none }) rfl (fun K hK => ?_) AllReadyH.nil
            refine held_app (by rfl) (.tmp 94) (.tmp 99) 22 rfl _ _ (vHQ2) rfl rfl (HrunHQ1.out) ?_
            refine hK.out _ _ (HQ2.out.hd) (fun _ => ?_)
            clear hK K
            try simp only [Act.put, List.setIfInBounds_toArray, List.set_cons_zero, List.set_cons_succ]
            refine wpAnyH_ready (rs := [17]) (by kernel_rfl) (by simp) ?_
            refine AllReadyH.cons (o := { dst := some 105, op := Go.Op.call { callee := Go.Callee.value (Go.Operand.func 17), args := #[Go.Operand.tmp 104, Go.Operand.const (Go.Value.int Go.IntKind.i64 4)], argTypes := #[23, 3] }, type := 22, pos := "ref.go:45", after := #[{ on := 16, ground := Go.Ground.data }, { on := 12, ground := Go.Ground.chain }], guard := none }) rfl (fun K hK => ?_) AllReadyH.nil
            go_simp
            refine (rlow_any (u64N h.x1) 4 _ (by omega) (u64N_lt _)).mono ?_; rintro e YHQ2 ⟨a, c, rfl, ho, hb⟩; have HC := Lib.hid (HQ2.out.kept hb); obtain ⟨vHQ3, wHQ2, hrun, hq, hkw⟩ := HC.out.app ho rfl (by rw [lowD_length]) (by omega) (by omega); have HQ3 : Hid (QS w base b0 h 20 vHQ3 wHQ2) := hq; have HrunHQ2 := Lib.hid hrun; clear hrun hq hkw ho hb HQ2
            go_wp2_with fail
            refine hK.out _ _ (HC.out.hd) (fun _ => ?_)
            clear hK K
            try simp only [Act.put, List.setIfInBounds_toArray, List.set_cons_zero, List.set_cons_succ]
            refine wpAnyH_ready (rs := [18]) (by kernel_rfl) (by simp) ?_
            refine AllReadyH.cons (o := { dst := some 106, op := Go.Op.call { callee := Go.Callee.builtin Go.Builtin.append, args := #[Go.Operand.tmp 100, Go.Operand.tmp 105], argTypes := #[22, 22] }, type := 22, pos := "ref.go:45", after := #[{ on := 12, ground := Go.Ground.data }, { on := 17, ground := Go.Ground.data }, { on := 17, ground := Go.Ground.chain }], guard := none }) rfl (fun K hK => ?_) AllReadyH.nil
            refine held_app (by rfl) (.tmp 100) (.tmp 105) 22 rfl _ _ (vHQ3) rfl rfl (HrunHQ2.out) ?_
            refine hK.out _ _ (HQ3.out.hd) (fun _ => ?_)
            clear hK K
            try simp only [Act.put, List.setIfInBounds_toArray, List.set_cons_zero, List.set_cons_succ]
            refine wpAnyH_ready (rs := [23]) (by kernel_rfl) (by simp) ?_
            refine AllReadyH.cons (o := { dst := some 111, op := Go.Op.call { callee := Go.Callee.value (Go.Operand.func 17), args := #[Go.Operand.tmp 110, Go.Operand.const (Go.Value.int Go.IntKind.i64 4)], argTypes := #[23, 3] }, type := 22, pos := "ref.go:45", after := #[{ on := 22, ground := Go.Ground.data }, { on := 18, ground := Go.Ground.chain }], guard := none }) rfl (fun K hK => ?_) AllReadyH.nil
            go_simp
            refine (rlow_any (u64N h.y1) 4 _ (by omega) (u64N_lt _)).mono ?_; rintro e YHQ3 ⟨a, c, rfl, ho, hb⟩; have HC := Lib.hid (HQ3.out.kept hb); obtain ⟨vHQ4, wHQ3, hrun, hq, hkw⟩ := HC.out.app ho rfl (by rw [lowD_length]) (by omega) (by omega); have HQ4 : Hid (QS w base b0 h 21 vHQ4 wHQ3) := hq; have HrunHQ3 := Lib.hid hrun; clear hrun hq hkw ho hb HQ3
            go_wp2_with fail
            refine hK.out _ _ (HC.out.hd) (fun _ => ?_)
            clear hK K
            try simp only [Act.put, List.setIfInBounds_toArray, List.set_cons_zero, List.set_cons_succ]
            refine wpAnyH_ready (rs := [24]) (by kernel_rfl) (by simp) ?_
            refine AllReadyH.cons (o := { dst := some 112, op := Go.Op.call { callee := Go.Callee.builtin Go.Builtin.append, args := #[Go.Operand.tmp 106, Go.Operand.tmp 111], argTypes := #[22, 22] }, type := 22, pos := "ref.go:45", after := #[{ on := 18, ground := Go.Ground.data }, { on := 23, ground := Go.Ground.data }, { on := 23, ground := Go.Ground.chain }], guard := none }) rfl (fun K hK => ?_) AllReadyH.nil
            refine held_app (by rfl) (.tmp 106) (.tmp 111) 22 rfl _ _ (vHQ4) rfl rfl (HrunHQ3.out) ?_
            refine hK.out _ _ (HQ4.out.hd) (fun _ => ?_)
            clear hK K
            try simp only [Act.put, List.setIfInBounds_toArray, List.set_cons_zero, List.set_cons_succ]
            refine wpAnyH_take (i := 25) (oi := { dst := some 3, op := Go.Op.assign (Go.Operand.tmp 112), type := 22, pos := "ref.go:45", after := #[{ on := 24, ground := Go.Ground.data }, { on := 24, ground := Go.Ground.chain }, { on := 0, ground := Go.Ground.phase }, { on := 1, ground := Go.Ground.phase }, { on := 2, ground := Go.Ground.phase }, { on := 3, ground := Go.Ground.phase }, { on := 4, ground := Go.Ground.phase }, { on := 5, ground := Go.Ground.phase }, { on := 6, ground := Go.Ground.phase }, { on := 7, ground := Go.Ground.phase }, { on := 8, ground := Go.Ground.phase }, { on := 9, ground := Go.Ground.phase }, { on := 10, ground := Go.Ground.phase }, { on := 11, ground := Go.Ground.phase }, { on := 12, ground := Go.Ground.phase }, { on := 13, ground := Go.Ground.phase }, { on := 14, ground := Go.Ground.phase }, { on := 15, ground := Go.Ground.phase }, { on := 16, ground := Go.Ground.phase }, { on := 17, ground := Go.Ground.phase }, { on := 18, ground := Go.Ground.phase }, { on := 19, ground := Go.Ground.phase }, { on := 20, ground := Go.Ground.phase }, { on := 21, ground := Go.Ground.phase }, { on := 22, ground := Go.Ground.phase }, { on := 23, ground := Go.Ground.phase }, { on := 24, ground := Go.Ground.phase }], guard := none }) (v := ?_) rfl (by kernel_rfl) (by kernel_rfl) (by kernel_rfl) (fun _ _ _ h => h) (Or.inl ⟨by rfl, ?_⟩) (HQ4.out.hd) ?_
            rotate_left 1
            · intro w5 hSw
              go_simp; all_goals (with_reducible rfl)
            try simp only [Act.put, List.setIfInBounds_toArray, List.set_cons_zero, List.set_cons_succ]
            refine wpAnyH_done (by kernel_rfl) ?_ _
            go_upto_region 16 with (fail)
            have HR0 := Lib.hid HQ4.out.drew
            clear HQ4
            refine wp_region_held (S := (fun V => Whole V b0 29 h.cells)) (by kernel_rfl) ?_
            refine wpAnyH_take (i := 0) (oi := { dst := some 113, op := Go.Op.move (Go.Operand.tmp 3), type := 22, pos := "ref.go:46", after := #[], guard := none }) (v := ?_) rfl (by kernel_rfl) (by kernel_rfl) (by kernel_rfl) (fun _ _ _ h => h) (Or.inl ⟨by rfl, ?_⟩) (HR0.out.hd) ?_
            rotate_left 1
            · intro w5 hSw
              go_simp; all_goals (with_reducible rfl)
            try simp only [Act.put, List.setIfInBounds_toArray, List.set_cons_zero, List.set_cons_succ]
            refine wpAnyH_take (i := 1) (oi := { dst := some 114, op := Go.Op.fieldAddr 29 (Go.Operand.tmp 1) 14, type := 0, pos := "ref.go:46", after := #[], guard := none }) (v := ?_) rfl (by kernel_rfl) (by kernel_rfl) (by kernel_rfl) (fun _ _ _ h => h) (Or.inl ⟨by rfl, ?_⟩) (HR0.out.hd) ?_
            rotate_left 1
            · intro w5 hSw
              go_simp; all_goals (with_reducible rfl)
            try simp only [Act.put, List.setIfInBounds_toArray, List.set_cons_zero, List.set_cons_succ]
            refine wpAnyH_take (i := 2) (oi := { dst := some 115, op := Go.Op.load 3 (Go.Operand.tmp 114), type := 3, pos := "ref.go:46", after := #[{ on := 1, ground := Go.Ground.data }], guard := none }) (v := ?_) rfl (by kernel_rfl) (by kernel_rfl) (by kernel_rfl) (fun _ _ _ h => h) (Or.inl ⟨by rfl, ?_⟩) (HR0.out.hd) ?_
            rotate_left 1
            · intro w5 hSw
              have q : w5.cell? ⟨b0, 23, none⟩ = some (.int .i64 h.mid) := hSw.cell 23
              go_simp; all_goals (with_reducible rfl)
            try simp only [Act.put, List.setIfInBounds_toArray, List.set_cons_zero, List.set_cons_succ]
            refine wpAnyH_take (i := 3) (oi := { dst := some 116, op := Go.Op.convert 3 23 (Go.Operand.tmp 115), type := 23, pos := "ref.go:46", after := #[{ on := 2, ground := Go.Ground.data }], guard := none }) (v := ?_) rfl (by kernel_rfl) (by kernel_rfl) (by kernel_rfl) (fun _ _ _ h => h) (Or.inl ⟨by rfl, ?_⟩) (HR0.out.hd) ?_
            rotate_left 1
            · intro w5 hSw
              have u1 := u64N_wrap h.mid
              have u2 := u64N_mod h.mid
              go_simp; all_goals (with_reducible rfl)
            try simp only [Act.put, List.setIfInBounds_toArray, List.set_cons_zero, List.set_cons_succ]
            refine wpAnyH_take (i := 6) (oi := { dst := some 119, op := Go.Op.fieldAddr 29 (Go.Operand.tmp 1) 13, type := 0, pos := "ref.go:46", after := #[], guard := none }) (v := ?_) rfl (by kernel_rfl) (by kernel_rfl) (by kernel_rfl) (fun _ _ _ h => h) (Or.inl ⟨by rfl, ?_⟩) (HR0.out.hd) ?_
            rotate_left 1
            · intro w5 hSw
              go_simp; all_goals (with_reducible rfl)
            try simp only [Act.put, List.setIfInBounds_toArray, List.set_cons_zero, List.set_cons_succ]
            refine wpAnyH_take (i := 7) (oi := { dst := some 120, op := Go.Op.fieldAddr 27 (Go.Operand.tmp 119) 0, type := 0, pos := "ref.go:46", after := #[{ on := 6, ground := Go.Ground.data }], guard := none }) (v := ?_) rfl (by kernel_rfl) (by kernel_rfl) (by kernel_rfl) (fun _ _ _ h => h) (Or.inl ⟨by rfl, ?_⟩) (HR0.out.hd) ?_
            rotate_left 1
            · intro w5 hSw
              go_simp; all_goals (with_reducible rfl)
            try simp only [Act.put, List.setIfInBounds_toArray, List.set_cons_zero, List.set_cons_succ]
            refine wpAnyH_take (i := 8) (oi := { dst := some 121, op := Go.Op.load 3 (Go.Operand.tmp 120), type := 3, pos := "ref.go:46", after := #[{ on := 7, ground := Go.Ground.data }], guard := none }) (v := ?_) rfl (by kernel_rfl) (by kernel_rfl) (by kernel_rfl) (fun _ _ _ h => h) (Or.inl ⟨by rfl, ?_⟩) (HR0.out.hd) ?_
            rotate_left 1
            · intro w5 hSw
              have q : w5.cell? ⟨b0, 21, none⟩ = some (.int .i64 h.cx) := hSw.cell 21
              go_simp; all_goals (with_reducible rfl)
            try simp only [Act.put, List.setIfInBounds_toArray, List.set_cons_zero, List.set_cons_succ]
            refine wpAnyH_take (i := 9) (oi := { dst := some 122, op := Go.Op.convert 3 23 (Go.Operand.tmp 121), type := 23, pos := "ref.go:46", after := #[{ on := 8, ground := Go.Ground.data }], guard := none }) (v := ?_) rfl (by kernel_rfl) (by kernel_rfl) (by kernel_rfl) (fun _ _ _ h => h) (Or.inl ⟨by rfl, ?_⟩) (HR0.out.hd) ?_
            rotate_left 1
            · intro w5 hSw
              have u1 := u64N_wrap h.cx
              have u2 := u64N_mod h.cx
              go_simp; all_goals (with_reducible rfl)
            try simp only [Act.put, List.setIfInBounds_toArray, List.set_cons_zero, List.set_cons_succ]
            refine wpAnyH_take (i := 12) (oi := { dst := some 125, op := Go.Op.fieldAddr 29 (Go.Operand.tmp 1) 13, type := 0, pos := "ref.go:46", after := #[], guard := none }) (v := ?_) rfl (by kernel_rfl) (by kernel_rfl) (by kernel_rfl) (fun _ _ _ h => h) (Or.inl ⟨by rfl, ?_⟩) (HR0.out.hd) ?_
            rotate_left 1
            · intro w5 hSw
              go_simp; all_goals (with_reducible rfl)
            try simp only [Act.put, List.setIfInBounds_toArray, List.set_cons_zero, List.set_cons_succ]
            refine wpAnyH_take (i := 13) (oi := { dst := some 126, op := Go.Op.fieldAddr 27 (Go.Operand.tmp 125) 1, type := 0, pos := "ref.go:46", after := #[{ on := 12, ground := Go.Ground.data }], guard := none }) (v := ?_) rfl (by kernel_rfl) (by kernel_rfl) (by kernel_rfl) (fun _ _ _ h => h) (Or.inl ⟨by rfl, ?_⟩) (HR0.out.hd) ?_
            rotate_left 1
            · intro w5 hSw
              go_simp; all_goals (with_reducible rfl)
            try simp only [Act.put, List.setIfInBounds_toArray, List.set_cons_zero, List.set_cons_succ]
            refine wpAnyH_take (i := 14) (oi := { dst := some 127, op := Go.Op.load 3 (Go.Operand.tmp 126), type := 3, pos := "ref.go:46", after := #[{ on := 13, ground := Go.Ground.data }], guard := none }) (v := ?_) rfl (by kernel_rfl) (by kernel_rfl) (by kernel_rfl) (fun _ _ _ h => h) (Or.inl ⟨by rfl, ?_⟩) (HR0.out.hd) ?_
            rotate_left 1
            · intro w5 hSw
              have q : w5.cell? ⟨b0, 22, none⟩ = some (.int .i64 h.cy) := hSw.cell 22
              go_simp; all_goals (with_reducible rfl)
            try simp only [Act.put, List.setIfInBounds_toArray, List.set_cons_zero, List.set_cons_succ]
            refine wpAnyH_take (i := 15) (oi := { dst := some 128, op := Go.Op.convert 3 23 (Go.Operand.tmp 127), type := 23, pos := "ref.go:46", after := #[{ on := 14, ground := Go.Ground.data }], guard := none }) (v := ?_) rfl (by kernel_rfl) (by kernel_rfl) (by kernel_rfl) (fun _ _ _ h => h) (Or.inl ⟨by rfl, ?_⟩) (HR0.out.hd) ?_
            rotate_left 1
            · intro w5 hSw
              have u1 := u64N_wrap h.cy
              have u2 := u64N_mod h.cy
              go_simp; all_goals (with_reducible rfl)
            try simp only [Act.put, List.setIfInBounds_toArray, List.set_cons_zero, List.set_cons_succ]
            refine wpAnyH_ready (rs := [4]) (by kernel_rfl) (by simp) ?_
            refine AllReadyH.cons (o := { dst := some 117, op := Go.Op.call { callee := Go.Callee.value (Go.Operand.func 17), args := #[Go.Operand.tmp 116, Go.Operand.const (Go.Value.int Go.IntKind.i64 1)], argTypes := #[23, 3] }, type := 22, pos := "ref.go:46", after := #[{ on := 3, ground := Go.Ground.data }], guard := none }) rfl (fun K hK => ?_) AllReadyH.nil
            go_simp
            refine (rlow_any (u64N h.mid) 1 _ (by omega) (u64N_lt _)).mono ?_; rintro e YHR0 ⟨a, c, rfl, ho, hb⟩; have HC := Lib.hid (HR0.out.kept hb); obtain ⟨vHR1, wHR0, hrun, hq, hkw⟩ := HC.out.app ho rfl (by rw [lowD_length]) (by omega) (by omega); have HR1 : Hid (QS w base b0 h 22 vHR1 wHR0) := hq; have HrunHR0 := Lib.hid hrun; clear hrun hq hkw ho hb HR0
            go_wp2_with fail
            refine hK.out _ _ (HC.out.hd) (fun _ => ?_)
            clear hK K
            try simp only [Act.put, List.setIfInBounds_toArray, List.set_cons_zero, List.set_cons_succ]
            refine wpAnyH_ready (rs := [5]) (by kernel_rfl) (by simp) ?_
            refine AllReadyH.cons (o := { dst := some 118, op := Go.Op.call { callee := Go.Callee.builtin Go.Builtin.append, args := #[Go.Operand.tmp 113, Go.Operand.tmp 117], argTypes := #[22, 22] }, type := 22, pos := "ref.go:46", after := #[{ on := 0, ground := Go.Ground.data }, { on := 4, ground := Go.Ground.data }, { on := 4, ground := Go.Ground.chain }], guard := none }) rfl (fun K hK => ?_) AllReadyH.nil
            refine held_app (by rfl) (.tmp 113) (.tmp 117) 22 rfl _ _ (vHR1) rfl rfl (HrunHR0.out) ?_
            refine hK.out _ _ (HR1.out.hd) (fun _ => ?_)
            clear hK K
            try simp only [Act.put, List.setIfInBounds_toArray, List.set_cons_zero, List.set_cons_succ]
            refine wpAnyH_ready (rs := [10]) (by kernel_rfl) (by simp) ?_
            refine AllReadyH.cons (o := { dst := some 123, op := Go.Op.call { callee := Go.Callee.value (Go.Operand.func 17), args := #[Go.Operand.tmp 122, Go.Operand.const (Go.Value.int Go.IntKind.i64 4)], argTypes := #[23, 3] }, type := 22, pos := "ref.go:46", after := #[{ on := 9, ground := Go.Ground.data }, { on := 5, ground := Go.Ground.chain }], guard := none }) rfl (fun K hK => ?_) AllReadyH.nil
            go_simp
            refine (rlow_any (u64N h.cx) 4 _ (by omega) (u64N_lt _)).mono ?_; rintro e YHR1 ⟨a, c, rfl, ho, hb⟩; have HC := Lib.hid (HR1.out.kept hb); obtain ⟨vHR2, wHR1, hrun, hq, hkw⟩ := HC.out.app ho rfl (by rw [lowD_length]) (by omega) (by omega); have HR2 : Hid (QS w base b0 h 23 vHR2 wHR1) := hq; have HrunHR1 := Lib.hid hrun; clear hrun hq hkw ho hb HR1
            go_wp2_with fail
            refine hK.out _ _ (HC.out.hd) (fun _ => ?_)
            clear hK K
            try simp only [Act.put, List.setIfInBounds_toArray, List.set_cons_zero, List.set_cons_succ]
            refine wpAnyH_ready (rs := [11]) (by kernel_rfl) (by simp) ?_
            refine AllReadyH.cons (o := { dst := some 124, op := Go.Op.call { callee := Go.Callee.builtin Go.Builtin.append, args := #[Go.Operand.tmp 118, Go.Operand.tmp 123], argTypes := #[22, 22] }, type := 22, pos := "ref.go:46", after := #[{ on := 5, ground := Go.Ground.data }, { on := 10, ground := Go.Ground.data }, { on := 10, ground := Go.Ground.chain }], guard := none }) rfl (fun K hK => ?_) AllReadyH.nil
            refine held_app (by rfl) (.tmp 118) (.tmp 123) 22 rfl _ _ (vHR2) rfl rfl (HrunHR1.out) ?_
            refine hK.out _ _ (HR2.out.hd) (fun _ => ?_)
            clear hK K
            try simp only [Act.put, List.setIfInBounds_toArray, List.set_cons_zero, List.set_cons_succ]
            refine wpAnyH_ready (rs := [16]) (by kernel_rfl) (by simp) ?_
            refine AllReadyH.cons (o := { dst := some 129, op := Go.Op.call { callee := Go.Callee.value (Go.Operand.func 17), args := #[Go.Operand.tmp 128, Go.Operand.const (Go.Value.int Go.IntKind.i64 4)], argTypes := #[23, 3] }, type := 22, pos := "ref.go:46", after := #[{ on := 15, ground := Go.Ground.data }, { on := 11, ground := Go.Ground.chain }], guard := none }) rfl (fun K hK => ?_) AllReadyH.nil
            go_simp
            refine (rlow_any (u64N h.cy) 4 _ (by omega) (u64N_lt _)).mono ?_; rintro e YHR2 ⟨a, c, rfl, ho, hb⟩; have HC := Lib.hid (HR2.out.kept hb); obtain ⟨vHR3, wHR2, hrun, hq, hkw⟩ := HC.out.app ho rfl (by rw [lowD_length]) (by omega) (by omega); have HR3 : Hid (QS w base b0 h 24 vHR3 wHR2) := hq; have HrunHR2 := Lib.hid hrun; clear hrun hq hkw ho hb HR2
            go_wp2_with fail
            refine hK.out _ _ (HC.out.hd) (fun _ => ?_)
            clear hK K
            try simp only [Act.put, List.setIfInBounds_toArray, List.set_cons_zero, List.set_cons_succ]
            refine wpAnyH_ready (rs := [17]) (by kernel_rfl) (by simp) ?_
            refine AllReadyH.cons (o := { dst := some 130, op := Go.Op.call { callee := Go.Callee.builtin Go.Builtin.append, args := #[Go.Operand.tmp 124, Go.Operand.tmp 129], argTypes := #[22, 22] }, type := 22, pos := "ref.go:46", after := #[{ on := 11, ground := Go.Ground.data }, { on := 16, ground := Go.Ground.data }, { on := 16, ground := Go.Ground.chain }], guard := none }) rfl (fun K hK => ?_) AllReadyH.nil
            refine held_app (by rfl) (.tmp 124) (.tmp 129) 22 rfl _ _ (vHR3) rfl rfl (HrunHR2.out) ?_
            refine hK.out _ _ (HR3.out.hd) (fun _ => ?_)
            clear hK K
            try simp only [Act.put, List.setIfInBounds_toArray, List.set_cons_zero, List.set_cons_succ]
            refine wpAnyH_take (i := 18) (oi := { dst := some 2, op := Go.Op.assign (Go.Operand.tmp 130), type := 22, pos := "ref.go:46", after := #[{ on := 17, ground := Go.Ground.data }, { on := 17, ground := Go.Ground.chain }, { on := 0, ground := Go.Ground.phase }, { on := 1, ground := Go.Ground.phase }, { on := 2, ground := Go.Ground.phase }, { on := 3, ground := Go.Ground.phase }, { on := 4, ground := Go.Ground.phase }, { on := 5, ground := Go.Ground.phase }, { on := 6, ground := Go.Ground.phase }, { on := 7, ground := Go.Ground.phase }, { on := 8, ground := Go.Ground.phase }, { on := 9, ground := Go.Ground.phase }, { on := 10, ground := Go.Ground.phase }, { on := 11, ground := Go.Ground.phase }, { on := 12, ground := Go.Ground.phase }, { on := 13, ground := Go.Ground.phase }, { on := 14, ground := Go.Ground.phase }, { on := 15, ground := Go.Ground.phase }, { on := 16, ground := Go.Ground.phase }, { on := 17, ground := Go.Ground.phase }], guard := none }) (v := ?_) rfl (by kernel_rfl) (by kernel_rfl) (by kernel_rfl) (fun _ _ _ h => h) (Or.inl ⟨by rfl, ?_⟩) (HR3.out.hd) ?_
            rotate_left 1
            · intro w5 hSw
              go_simp; all_goals (with_reducible rfl)
            try simp only [Act.put, List.setIfInBounds_toArray, List.set_cons_zero, List.set_cons_succ]
            refine wpAnyH_done (by kernel_rfl) ?_ _
            obtain ⟨a, c, hv, _, _, _, hN⟩ := HR3.out.own.nums
            have HF : Hid (Nums .u8 wHR2 wHR2.heap.size a (catP h 24) ∧ Below w.heap.size w wHR2) := ⟨hN, HR3.out.below⟩
            obtain rfl := hv
            clear hN HR3
            go_wp2_with fail
            go_ret
            exact ⟨a, c, rfl, HF.out.1, HF.out.2⟩
end Go.Proofs.Ytlbplefmpbpchaa
