/- Layer 9: the reference's Encode. -/
import Derived.Test.YtohgdlhijgjdkaaPathEn6
import Derived.Test.YtohgdlhijgjdkaaPathRf2
namespace Go.Proofs.Ytohgdlhijgjdkaa
open Go.RowKit
set_option linter.unusedVariables false
set_option maxRecDepth 100000

def bodyE (kind : Nat) (q : P2) (l : List P2) : List Nat :=
  if kind = 1 then (8 * l.length + 1) :: runE q l else (9 :: runE q (l.take 1)) ++ ((8 * (l.length - 1) + 2) :: runE (endP q (l.take 1)) (l.drop 1))
theorem encN_body (kind : Nat) (q : P2) (l : List P2) : encN kind q l = bodyE kind q l ++ (if kind = 3 then [15] else []) := by
  unfold encN bodyE
  by_cases h : kind = 1
  · rw [if_pos h, if_pos h, if_neg (by omega)]; simp
  · rw [if_neg h, if_neg h]; simp
/-- What is still to be written of a path at its point k. -/
def remE (kind : Nat) (l : List P2) (k : Nat) (q : P2) : List Nat :=
  if k = 0 then bodyE kind q l else if kind ≠ 1 ∧ k = 1 then (8 * (l.length - 1) + 2) :: runE q (l.drop 1) else runE q (l.drop k)
def preE (kind m k : Nat) : List Nat := if k = 0 then (if kind = 1 then [8 * m + 1] else [9]) else if kind ≠ 1 ∧ k = 1 then [8 * (m - 1) + 2] else []
theorem remE_at {kind : Nat} {l : List P2} {k : Nat} (h : k < l.length) (q : P2) : remE kind l k q = preE kind l.length k ++ (zig (l[k].1 - q.1) :: zig (l[k].2 - q.2) :: remE kind l (k + 1) l[k]) := by
  by_cases h0 : k = 0
  · subst h0
    cases l with
    | nil => simp at h
    | cons p r =>
      by_cases h1 : kind = 1
      · simp [remE, bodyE, preE, h1, runE]
      · simp [remE, bodyE, preE, h1, runE, endP]
  · have e := runE_at h q
    by_cases h1 : kind ≠ 1 ∧ k = 1
    · obtain ⟨h2, rfl⟩ := h1
      simp [remE, preE, h2] at e ⊢
      exact e
    · simp [remE, preE, h0, h1, e]
theorem remE_end {kind : Nat} {l : List P2} (hk : kind ≤ l.length) (h1 : 1 ≤ kind) (q : P2) : remE kind l l.length q = [] := by
  unfold remE
  rw [if_neg (by omega), if_neg (by omega), List.drop_length]
  rfl
set_option maxHeartbeats 32000000 in
theorem rencode_any (K : Int) (kind : Nat) (hK : K = (kind : Int)) (hk1 : 1 ≤ kind) (hk3 : kind ≤ 3) (u : Value) (ll : List (List P2)) (w : World) (hu : RdPP w w.heap.size u ll) (hlen : ll.length ≤ 1000) (hin : ∀ l ∈ ll, kind ≤ l.length ∧ l.length ≤ 1000 ∧ ∀ p ∈ l, inP p) (hT : (encP kind (0, 0) ll).length ≤ 5000) :
    Calls Try.prog 16 #[.int .i64 K, u] w fun e w' => ∃ v, e = .returned v ∧ Own32 w' w.heap.size v (encP kind (0, 0) ll) ∧ Below w.heap.size w w' := by
  obtain ⟨i0, hi0, hz0, hz1, hz2⟩ := info_parts u32info
  obtain ⟨a, c, rfl, _, _, hP⟩ := hu.at
  have HP := Lib.hid hP
  have HIn := Lib.hid hin
  obtain ⟨T, hTe⟩ : ∃ T, T = encP kind (0, 0) ll := ⟨_, rfl⟩
  rw [← hTe] at hT ⊢
  have HTe := Lib.hid hTe
  have HTl := Lib.hid hT
  obtain ⟨L, hL⟩ : ∃ z, z = ll.length := ⟨_, rfl⟩
  have HL := Lib.hid hL
  rw [← hL] at hlen ⊢
  have HKk := Lib.hid (show K = (kind : Int) ∧ 1 ≤ kind ∧ kind ≤ 3 from ⟨hK, hk1, hk3⟩)
  obtain ⟨base, hbase⟩ : ∃ z, z = w.heap.size := ⟨_, rfl⟩
  have Hbase := Lib.hid hbase
  rw [← hbase]
  clear hu hP hin hTe hT hL hK hk1 hk3 hbase
  go_enter Try.func16, Try.ntmps16
  go_upto_region 3 with (fail)
  obtain ⟨b6, hb6⟩ : ∃ z, z = w.heap.size := ⟨_, rfl⟩
  obtain ⟨X, hX⟩ : ∃ z, z = w.alloc (.cells #[.int .i64 0, .int .i64 0] 42) := ⟨_, rfl⟩
  have hW6 : Whole X b6 42 #[.int .i64 0, .int .i64 0] := by rw [hX, hb6]; exact Whole.new w _ _
  have HB : Hid (Below base w X) := by rw [hX, Hbase.out]; exact (Below.refl _ _).alloc (Nat.le_refl _) _
  have hl6 : base ≤ b6 := by rw [Hbase.out]; omega
  have HW6 := Lib.hid hW6
  rw [← hX, ← hb6]
  clear hX hb6 hW6
  go_wp2_with fail
  go_loopw [5, 7] (fun uv iv W => ∃ (i : Nat) (mk : List Nat) (qk : P2) (v1 : Value), i ≤ L ∧ iv = .int .i64 (i : Int) ∧ v1 = uv ∧ Hid (Own32 W base v1 mk) ∧ Hid (Whole W b6 42 #[.int .i64 qk.1, .int .i64 qk.2]) ∧ Hid (v1.ownBlock ≠ some b6) ∧ Hid (Below base w W) ∧ Hid (mk ++ encP kind qk (ll.drop i) = T) ∧ Hid (inP qk)) (fun _ iv _ => L - (intOf iv).toNat)
  case atStart => exact ⟨0, [], (0, 0), _, Nat.zero_le _, rfl, rfl, Own32.nil_ _ _, HW6, (by show ¬ _; simp [Value.ownBlock]), HB, HTe.out.symm, ⟨by simp, by simp⟩⟩
  case round =>
    obtain ⟨i, mk, qk, v1, hi, rfl, rfl, HO, HW, HV, HBw, HTot, Hqk⟩ := hrel
    clear HW6 HB
    by_cases hlt : i < L
    · have hil : i < ll.length := by have := HL.out; omega
      have Hlt1 : Hid (i + 1 ≤ L) := hlt
      have hib : i ≤ 1000 := by omega
      obtain ⟨b0, o0, ue, rfl, hb0, ce0, hRd⟩ := HP.out i hil
      have ce := ((show Below w.heap.size w wr from by have := HBw.out; rw [Hbase.out] at this; exact this).cell (p := ⟨b0, o0 + i, none⟩) hb0).trans ce0
      obtain ⟨ae, cx, rfl, hce, hcm, hPt⟩ := hRd
      obtain ⟨q1, q2, q3⟩ := HIn.out _ (List.getElem_mem hil)
      have ht := HTot.out
      rw [encP_at hil] at ht
      have hmk : mk.length ≤ 5000 := by have h1 := HTl.out; rw [← ht] at h1; simp at h1; omega
      have hin2 := endP_in Hqk.out q3
      generalize ll[i]'hil = l0 at *
      obtain ⟨m, hm⟩ : ∃ z, z = l0.length := ⟨_, rfl⟩
      have Hm := Lib.hid hm
      rw [← hm] at ce ce0 q1 q2
      have hPtB : PAt w base ae l0 := by rw [Hbase.out]; exact hPt
      have HPt := Lib.hid hPtB
      have Hq3 := Lib.hid q3
      have Ht := Lib.hid ht
      have Hin2 := Lib.hid hin2
      obtain ⟨T0, hT0⟩ : ∃ z, z = mk ++ bodyE kind qk l0 := ⟨_, rfl⟩
      obtain ⟨E0, hE0⟩ : ∃ z, z = endP qk l0 := ⟨_, rfl⟩
      have HT0 := Lib.hid hT0
      have HE0 := Lib.hid hE0
      have Hmk := Lib.hid hmk
      have hk0 : (0 : Int) ≤ (i : Int) := by omega
      have hk1 : (i : Int) < (L : Int) := by omega
      have Hq1 := Lib.hid (show kind ≤ m ∧ m ≤ 1000 from ⟨q1, q2⟩)
      clear ht hin2 hmk hPt hPtB q1 q2 q3 hm hce hil hT0 hE0 ce0
      go_wp2_with fail
      go_loopw [5, 9] (fun uv kv W => ∃ (k : Nat) (mj : List Nat) (qj : P2) (v2 : Value), k ≤ m ∧ kv = .int .i64 (k : Int) ∧ v2 = uv ∧ Hid (Own32 W base v2 mj) ∧ Hid (Whole W b6 42 #[.int .i64 qj.1, .int .i64 qj.2]) ∧ Hid (v2.ownBlock ≠ some b6) ∧ Hid (Below base w W) ∧ Hid (mj ++ remE kind l0 k qj = T0) ∧ Hid (endP qj (l0.drop k) = E0) ∧ Hid (inP qj) ∧ Hid (mj.length ≤ 5000 + 3 * k)) (fun _ kv _ => m - (intOf kv).toNat)
      case atStart => exact ⟨0, mk, qk, v1, Nat.zero_le _, rfl, rfl, HO, HW, HV, HBw, HT0.out.symm, HE0.out.symm, Hqk, Hmk.out⟩
      case round =>
        obtain ⟨k, mj, qj, v2, hk, rfl, rfl, HO, HWj, HVj, HBj, HTj, HEj, Hqj, Hlj⟩ := hrel
        by_cases hltk : k < m
        · have hkl : k < l0.length := by have := Hm.out; omega
          have Hlt : Hid (k + 1 ≤ m) := hltk
          have hmb : m ≤ 1000 := Hq1.out.2
          obtain ⟨⟨px, py⟩, hpk⟩ : ∃ p, l0[k]'hkl = p := ⟨_, rfl⟩
          have hin := Hq3.out _ (List.getElem_mem hkl)
          rw [hpk] at hin
          have ht := HTj.out
          have hen := HEj.out
          rw [remE_at hkl, hpk, ← Hm.out] at ht
          rw [endP_at hkl, hpk] at hen
          obtain ⟨qx, qy⟩ := qj
          have hqk := Hqj.out
          simp only at ht hen
          obtain ⟨sx, hsx⟩ : ∃ s, s = px - qx := ⟨_, rfl⟩
          obtain ⟨sy, hsy⟩ : ∃ s, s = py - qy := ⟨_, rfl⟩
          have hbx : -2097152 ≤ sx ∧ sx ≤ 2097152 := by have h1 := hin.1; have h2 := hqk.1; simp only at h1 h2; omega
          have hby : -2097152 ≤ sy ∧ sy ≤ 2097152 := by have h1 := hin.2; have h2 := hqk.2; simp only at h1 h2; omega
          have hwsx : IntKind.i64.wrap (px - qx) = sx := by rw [hsx, IntKind.wrap_i64]; omega
          have hwsy : IntKind.i64.wrap (py - qy) = sy := by rw [hsy, IntKind.wrap_i64]; omega
          have hzx := zig_small hbx
          have hzy := zig_small hby
          have HZx := Lib.hid fun W => rzig_any sx W (by omega)
          have HZy := Lib.hid fun W => rzig_any sy W (by omega)
          rw [← hsx, ← hsy] at ht
          obtain ⟨zx, hzxe⟩ : ∃ z, z = zig sx := ⟨_, rfl⟩
          obtain ⟨zy, hzye⟩ : ∃ z, z = zig sy := ⟨_, rfl⟩
          rw [← hzxe] at HZx hzx ht
          rw [← hzye] at HZy hzy ht
          have hwzx : IntKind.u32.wrap (zx : Int) = (zx : Int) := by rw [IntKind.wrap_u32]; omega
          have hwzy : IntKind.u32.wrap (zy : Int) = (zy : Int) := by rw [IntKind.wrap_u32]; omega
          have Hlst : Hid (endP (px, py) (l0.drop (k + 1)) = E0) := hen
          have Hpin : Hid (inP (px, py)) := hin
          have hj0 : (0 : Int) ≤ (k : Int) := by omega
          have hj1 : (k : Int) < (m : Int) := by omega
          clear hen hin hqk hsx hsy hbx hby hzx hzy hzxe hzye
          by_cases hk00 : k = 0
          · have e0 : ((k : Int) == 0) = true := by simp [hk00]
            have e1 : ((k : Int) == 1) = false := by simp [hk00]
            by_cases hkd : kind = 1
            · have dK : (K == 1) = true := by have := HKk.out.1; simp; omega
              have Hkind : Hid (k = 0 ∧ kind = 1) := ⟨hk00, hkd⟩
              clear hk00 hkd
              obtain ⟨n1, hn1⟩ : ∃ n, n = 8 * m + 1 := ⟨_, rfl⟩
              have hnI : 8 * (m : Int) + 1 = (n1 : Int) := by omega
              have hpre : preE kind m k = [n1] := by rw [hn1]; simp [preE, Hkind.out]
              rw [hpre] at ht
              have hown : wr.ownsRow base 44 1 v2 mj.length (u32s mj) := HO.out
              have hBr : base ≤ wr.heap.size := by have := HBj.out.size; have := Hbase.out; omega
              have hlj : mj.length ≤ 9000 := by have := Hlj.out; have := Hq1.out; omega
              have Hn1 := Lib.hid hn1
              have Ht9 := Lib.hid ht
              clear hn1 hpre ht
              go_wp2_with (at_builtin; refine app_one rfl (.tmp 33) (.tmp 39) 22 rfl base 44 i0 _ 4 Try.underlying22 hi0 hz0 hz1 hz2 rfl v2 _ _ rfl hown (.int .u32 (n1 : Int)) 1 rfl rfl (by unfold maxLen; omega) (by omega) hBr ?_)
              intro v5 W1 h2 h3 h5
              have hG5 : Gone32 wr base v2 (mj ++ [n1]) v5 W1 := Gone32.grown h2 (by simp) (by simp [u32s]) h3 h5
              have HO1 := Lib.hid hG5.own
              have HWB := Lib.hid (HWj.out.only hG5.only (fun e => HVj.out e))
              have HB1 := Lib.hid (HBj.out.trans (hG5.below HO.out hBr))
              have Hv6 := Lib.hid (show v5.ownBlock ≠ some b6 from fun e => by
                rcases hG5.at_ with e1 | ⟨j, e1, hj⟩
                · rw [e1] at e; exact HVj.out e
                · rw [e1] at e; injection e with e; have := HWj.out.lt; omega)
              obtain ⟨mk2, hmk2⟩ : ∃ z, z = mj ++ [n1] := ⟨_, rfl⟩
              rw [← hmk2] at HO1
              have Htot : Hid ((mk2 ++ [zx, zy]) ++ remE kind l0 (k + 1) (px, py) = T0) := by show _ = _; rw [← Ht9.out, hmk2]; simp
              have Hl2 : Hid (mk2.length ≤ 5001 + 3 * k) := by show _ ≤ _; have := Hlj.out; rw [hmk2]; simp; omega
              obtain ⟨v2', hv2'⟩ : ∃ z, z = v5 := ⟨_, rfl⟩
              clear h2 h3 h5 hG5 hown hmk2
              go_upto_region 16 with (fail)
              obtain ⟨b1, o1, rfl, hb1, p0, p1⟩ := (HPt.out.below HB1.out).at k hkl
              rw [hpk] at p0 p1
              simp only at p0 p1
              have q0 : W1.cell? ⟨b6, 0, none⟩ = some (.int .i64 qx) := HWB.out.cell 0
              have q1 : W1.cell? ⟨b6, 1, none⟩ = some (.int .i64 qy) := HWB.out.cell 1
              have HS0 : Hid (W1.drew.cell? ⟨b1, o1 + k * 2, none⟩ = some (.int .i64 px) ∧ W1.drew.cell? ⟨b1, o1 + k * 2 + 1, none⟩ = some (.int .i64 py) ∧ W1.drew.cell? ⟨b6, 0, none⟩ = some (.int .i64 qx) ∧ W1.drew.cell? ⟨b6, 1, none⟩ = some (.int .i64 qy)) := ⟨p0, p1, q0, q1⟩
              have hBd : base ≤ W1.drew.heap.size := by have h8 := HB1.out.size; have h9 := Hbase.out; show base ≤ W1.heap.size; omega
              have hb1l : b1 < W1.drew.heap.size := Nat.lt_of_lt_of_le hb1 hBd
              have hal : Below W1.drew.heap.size W1.drew (W1.drew.alloc (.cells #[.int .u32 (zx : Int), .int .u32 (zy : Int)] 44)) := (Below.refl _ _).alloc (Nat.le_refl _) _
              have HS2 : Hid ((W1.drew.alloc (.cells #[.int .u32 (zx : Int), .int .u32 (zy : Int)] 44)).cell? ⟨b1, o1 + k * 2, none⟩ = some (.int .i64 px) ∧ (W1.drew.alloc (.cells #[.int .u32 (zx : Int), .int .u32 (zy : Int)] 44)).cell? ⟨b1, o1 + k * 2 + 1, none⟩ = some (.int .i64 py) ∧ (W1.drew.alloc (.cells #[.int .u32 (zx : Int), .int .u32 (zy : Int)] 44)).cell? ⟨b6, 0, none⟩ = some (.int .i64 qx) ∧ (W1.drew.alloc (.cells #[.int .u32 (zx : Int), .int .u32 (zy : Int)] 44)).cell? ⟨b6, 1, none⟩ = some (.int .i64 qy)) := ⟨(hal.cell (p := ⟨b1, o1 + k * 2, none⟩) hb1l).trans p0, (hal.cell (p := ⟨b1, o1 + k * 2 + 1, none⟩) hb1l).trans p1, (hal.cell (p := ⟨b6, 0, none⟩) HWB.out.lt).trans q0, (hal.cell (p := ⟨b6, 1, none⟩) HWB.out.lt).trans q1⟩
              have hOd : Own32 W1.drew base v5 mk2 := HO1.out
              obtain ⟨v3, w3, hrun, hG⟩ := app_two base v5 mk2 zx zy 2 hOd (by have := Hl2.out; omega) hBd
              obtain ⟨a3, c3, rfl, _, _, _, _⟩ := hG.own.nums
              obtain ⟨L3, hL3⟩ : ∃ L, (mk2 ++ [zx, zy] : List Nat).length = L := ⟨_, rfl⟩
              rw [hL3] at hrun hG
              have hlowv : ∀ b, v5.ownBlock = some b → base ≤ b := fun b hb => (hOd.lt b hb).1
              have hbb : b1 < base := hb1
              have HS3 : Hid (w3.cell? ⟨b1, o1 + k * 2, none⟩ = some (.int .i64 px) ∧ w3.cell? ⟨b1, o1 + k * 2 + 1, none⟩ = some (.int .i64 py) ∧ w3.cell? ⟨b6, 0, none⟩ = some (.int .i64 qx) ∧ w3.cell? ⟨b6, 1, none⟩ = some (.int .i64 qy)) := by
                have e1 : ∀ j, w3.cell? ⟨b1, j, none⟩ = W1.drew.cell? ⟨b1, j, none⟩ := fun j => hG.only.cell (p := ⟨b1, j, none⟩) hb1l (fun e => by have := hlowv b1 e; omega)
                have e2 : ∀ j, w3.cell? ⟨b6, j, none⟩ = W1.drew.cell? ⟨b6, j, none⟩ := fun j => hG.only.cell (p := ⟨b6, j, none⟩) HWB.out.lt (fun e => Hv6.out e)
                exact ⟨(e1 _).trans p0, (e1 _).trans p1, (e2 _).trans q0, (e2 _).trans q1⟩
              have Hrun := Lib.hid hrun
              have hst : ∃ z, z = (w3.setCell ⟨b6, 0, none⟩ (.int .i64 px)).setCell ⟨b6, 1, none⟩ (.int .i64 py) := ⟨_, rfl⟩
              have hWd : Whole W1.drew b6 42 #[.int .i64 qx, .int .i64 qy] := HWB.out
              have hW3 : Whole w3 b6 42 #[.int .i64 qx, .int .i64 qy] := hWd.only hG.only (fun e => Hv6.out e)
              have hB3 : Below base w w3 := (show Below base w W1.drew from ⟨HB1.out.os, HB1.out.tape, HB1.out.output, HB1.out.size, HB1.out.block⟩).trans (hG.below hOd hBd)
              have hv3 : (Value.slice a3 L3 c3).ownBlock ≠ some b6 := fun e => by
                rcases hG.at_ with e1 | ⟨i, e1, hi⟩
                · rw [e1] at e; exact Hv6.out e
                · rw [e1] at e; injection e with e; have := hWd.lt; omega
              have hoS : Only (fun b => b = b6) w3 ((w3.setCell ⟨b6, 0, none⟩ (.int .i64 px)).setCell ⟨b6, 1, none⟩ (.int .i64 py)) := Only.setCell (S := fun b => b = b6) (Only.setCell (S := fun b => b = b6) (Only.refl _ _) (p := ⟨b6, 0, none⟩) (fun _ => rfl) _) (p := ⟨b6, 1, none⟩) (fun _ => rfl) _
              have HOW3 := Lib.hid (hG.own.only hoS (fun b hb e => hv3 (by rw [hb, e])))
              have HEND : Hid (Whole ((w3.setCell ⟨b6, 0, none⟩ (.int .i64 px)).setCell ⟨b6, 1, none⟩ (.int .i64 py)) b6 42 #[.int .i64 px, .int .i64 py] ∧ (Value.slice a3 L3 c3).ownBlock ≠ some b6 ∧ Below base w ((w3.setCell ⟨b6, 0, none⟩ (.int .i64 px)).setCell ⟨b6, 1, none⟩ (.int .i64 py))) :=
                ⟨by simpa using (hW3.set 0 (.int .i64 px)).set 1 (.int .i64 py), hv3, (hB3.setCell (p := ⟨b6, 0, none⟩) hl6 _).setCell (p := ⟨b6, 1, none⟩) hl6 _⟩
              have k0 : w3.cell? ⟨b6, 0, none⟩ = some (.int .i64 qx) := hW3.cell 0
              have k1 : w3.cell? ⟨b6, 1, none⟩ = some (.int .i64 qy) := hW3.cell 1
              have g1 : w3.frozen? ⟨b6, 0, none⟩ = false := hW3.frozen 0
              have g2 : w3.frozen? ⟨b6, 1, none⟩ = false := hW3.frozen 1
              obtain ⟨e90, e91, e92, e93⟩ := HS3.out
              clear hrun hG hst hWd hW3 hB3 hv3 hoS hOd hlowv hbb hal hL3
              have Hlen2 : Hid ((mk2 ++ [zx, zy]).length ≤ 5000 + 3 * (k + 1)) := by show _ ≤ _; have := Hl2.out; simp; omega
              refine wp_region_held (S := fun W => W.cell? ⟨b1, o1 + k * 2, none⟩ = some (.int .i64 px) ∧ W.cell? ⟨b1, o1 + k * 2 + 1, none⟩ = some (.int .i64 py) ∧ W.cell? ⟨b6, 0, none⟩ = some (.int .i64 qx) ∧ W.cell? ⟨b6, 1, none⟩ = some (.int .i64 qy)) (by kernel_rfl) ?_
              refine wpAnyH_take (i := 0) (oi := { dst := some 61, op := Go.Op.move (Go.Operand.tmp 5), type := 22, pos := "ref.go:59", after := #[], guard := none }) (v := ?_) rfl (by kernel_rfl) (by kernel_rfl) (by kernel_rfl) (fun _ _ _ h => h) (Or.inl ⟨by rfl, ?_⟩) (HS0.out) ?_
              rotate_left 1
              · intro w5 hSw
                go_simp; all_goals (with_reducible rfl)
              try simp only [Act.put, List.setIfInBounds_toArray, List.set_cons_zero, List.set_cons_succ]
              refine wpAnyH_take (i := 1) (oi := { dst := some 62, op := Go.Op.move (Go.Operand.tmp 8), type := 43, pos := "ref.go:59", after := #[], guard := none }) (v := ?_) rfl (by kernel_rfl) (by kernel_rfl) (by kernel_rfl) (fun _ _ _ h => h) (Or.inl ⟨by rfl, ?_⟩) (HS0.out) ?_
              rotate_left 1
              · intro w5 hSw
                go_simp; all_goals (with_reducible rfl)
              try simp only [Act.put, List.setIfInBounds_toArray, List.set_cons_zero, List.set_cons_succ]
              refine wpAnyH_take (i := 2) (oi := { dst := some 63, op := Go.Op.move (Go.Operand.tmp 9), type := 3, pos := "ref.go:59", after := #[], guard := none }) (v := ?_) rfl (by kernel_rfl) (by kernel_rfl) (by kernel_rfl) (fun _ _ _ h => h) (Or.inl ⟨by rfl, ?_⟩) (HS0.out) ?_
              rotate_left 1
              · intro w5 hSw
                go_simp; all_goals (with_reducible rfl)
              try simp only [Act.put, List.setIfInBounds_toArray, List.set_cons_zero, List.set_cons_succ]
              refine wpAnyH_take (i := 3) (oi := { dst := some 64, op := Go.Op.indexAddr 43 (Go.Operand.tmp 62) (Go.Operand.tmp 63), type := 0, pos := "ref.go:59", after := #[{ on := 1, ground := Go.Ground.data }, { on := 2, ground := Go.Ground.data }], guard := none }) (v := ?_) rfl (by kernel_rfl) (by kernel_rfl) (by kernel_rfl) (fun _ _ _ h => h) (Or.inl ⟨by rfl, ?_⟩) (HS0.out) ?_
              rotate_left 1
              · intro w5 hSw
                go_simp; all_goals (with_reducible rfl)
              try simp only [Act.put, List.setIfInBounds_toArray, List.set_cons_zero, List.set_cons_succ]
              refine wpAnyH_take (i := 4) (oi := { dst := some 65, op := Go.Op.fieldAddr 42 (Go.Operand.tmp 64) 0, type := 0, pos := "ref.go:59", after := #[{ on := 3, ground := Go.Ground.data }], guard := none }) (v := ?_) rfl (by kernel_rfl) (by kernel_rfl) (by kernel_rfl) (fun _ _ _ h => h) (Or.inl ⟨by rfl, ?_⟩) (HS0.out) ?_
              rotate_left 1
              · intro w5 hSw
                go_simp; all_goals (with_reducible rfl)
              try simp only [Act.put, List.setIfInBounds_toArray, List.set_cons_zero, List.set_cons_succ]
              refine wpAnyH_take (i := 5) (oi := { dst := some 66, op := Go.Op.load 3 (Go.Operand.tmp 65), type := 3, pos := "ref.go:59", after := #[{ on := 4, ground := Go.Ground.data }], guard := none }) (v := ?_) rfl (by kernel_rfl) (by kernel_rfl) (by kernel_rfl) (fun _ _ _ h => h) (Or.inl ⟨by rfl, ?_⟩) (HS0.out) ?_
              rotate_left 1
              · intro w5 hSw
                obtain ⟨d0, d1, d2, d3⟩ := hSw
                go_simp; all_goals (with_reducible rfl)
              try simp only [Act.put, List.setIfInBounds_toArray, List.set_cons_zero, List.set_cons_succ]
              refine wpAnyH_take (i := 6) (oi := { dst := some 67, op := Go.Op.fieldAddr 42 (Go.Operand.tmp 6) 0, type := 0, pos := "ref.go:59", after := #[], guard := none }) (v := ?_) rfl (by kernel_rfl) (by kernel_rfl) (by kernel_rfl) (fun _ _ _ h => h) (Or.inl ⟨by rfl, ?_⟩) (HS0.out) ?_
              rotate_left 1
              · intro w5 hSw
                go_simp; all_goals (with_reducible rfl)
              try simp only [Act.put, List.setIfInBounds_toArray, List.set_cons_zero, List.set_cons_succ]
              refine wpAnyH_take (i := 7) (oi := { dst := some 68, op := Go.Op.load 3 (Go.Operand.tmp 67), type := 3, pos := "ref.go:59", after := #[{ on := 6, ground := Go.Ground.data }], guard := none }) (v := ?_) rfl (by kernel_rfl) (by kernel_rfl) (by kernel_rfl) (fun _ _ _ h => h) (Or.inl ⟨by rfl, ?_⟩) (HS0.out) ?_
              rotate_left 1
              · intro w5 hSw
                obtain ⟨d0, d1, d2, d3⟩ := hSw
                go_simp; all_goals (with_reducible rfl)
              try simp only [Act.put, List.setIfInBounds_toArray, List.set_cons_zero, List.set_cons_succ]
              refine wpAnyH_take (i := 8) (oi := { dst := some 69, op := Go.Op.binOp Go.BinOp.sub 3 (Go.Operand.tmp 66) (Go.Operand.tmp 68) 3, type := 3, pos := "ref.go:59", after := #[{ on := 5, ground := Go.Ground.data }, { on := 7, ground := Go.Ground.data }], guard := none }) (v := ?_) rfl (by kernel_rfl) (by kernel_rfl) (by kernel_rfl) (fun _ _ _ h => h) (Or.inl ⟨by rfl, ?_⟩) (HS0.out) ?_
              rotate_left 1
              · intro w5 hSw
                go_simp; all_goals (with_reducible rfl)
              try simp only [Act.put, List.setIfInBounds_toArray, List.set_cons_zero, List.set_cons_succ]
              refine wpAnyH_take (i := 11) (oi := { dst := some 72, op := Go.Op.move (Go.Operand.tmp 8), type := 43, pos := "ref.go:59", after := #[], guard := none }) (v := ?_) rfl (by kernel_rfl) (by kernel_rfl) (by kernel_rfl) (fun _ _ _ h => h) (Or.inl ⟨by rfl, ?_⟩) (HS0.out) ?_
              rotate_left 1
              · intro w5 hSw
                go_simp; all_goals (with_reducible rfl)
              try simp only [Act.put, List.setIfInBounds_toArray, List.set_cons_zero, List.set_cons_succ]
              refine wpAnyH_take (i := 12) (oi := { dst := some 73, op := Go.Op.move (Go.Operand.tmp 9), type := 3, pos := "ref.go:59", after := #[], guard := none }) (v := ?_) rfl (by kernel_rfl) (by kernel_rfl) (by kernel_rfl) (fun _ _ _ h => h) (Or.inl ⟨by rfl, ?_⟩) (HS0.out) ?_
              rotate_left 1
              · intro w5 hSw
                go_simp; all_goals (with_reducible rfl)
              try simp only [Act.put, List.setIfInBounds_toArray, List.set_cons_zero, List.set_cons_succ]
              refine wpAnyH_take (i := 13) (oi := { dst := some 74, op := Go.Op.indexAddr 43 (Go.Operand.tmp 72) (Go.Operand.tmp 73), type := 0, pos := "ref.go:59", after := #[{ on := 11, ground := Go.Ground.data }, { on := 12, ground := Go.Ground.data }], guard := none }) (v := ?_) rfl (by kernel_rfl) (by kernel_rfl) (by kernel_rfl) (fun _ _ _ h => h) (Or.inl ⟨by rfl, ?_⟩) (HS0.out) ?_
              rotate_left 1
              · intro w5 hSw
                go_simp; all_goals (with_reducible rfl)
              try simp only [Act.put, List.setIfInBounds_toArray, List.set_cons_zero, List.set_cons_succ]
              refine wpAnyH_take (i := 14) (oi := { dst := some 75, op := Go.Op.fieldAddr 42 (Go.Operand.tmp 74) 1, type := 0, pos := "ref.go:59", after := #[{ on := 13, ground := Go.Ground.data }], guard := none }) (v := ?_) rfl (by kernel_rfl) (by kernel_rfl) (by kernel_rfl) (fun _ _ _ h => h) (Or.inl ⟨by rfl, ?_⟩) (HS0.out) ?_
              rotate_left 1
              · intro w5 hSw
                go_simp; all_goals (with_reducible rfl)
              try simp only [Act.put, List.setIfInBounds_toArray, List.set_cons_zero, List.set_cons_succ]
              refine wpAnyH_take (i := 15) (oi := { dst := some 76, op := Go.Op.load 3 (Go.Operand.tmp 75), type := 3, pos := "ref.go:59", after := #[{ on := 14, ground := Go.Ground.data }], guard := none }) (v := ?_) rfl (by kernel_rfl) (by kernel_rfl) (by kernel_rfl) (fun _ _ _ h => h) (Or.inl ⟨by rfl, ?_⟩) (HS0.out) ?_
              rotate_left 1
              · intro w5 hSw
                obtain ⟨d0, d1, d2, d3⟩ := hSw
                go_simp; all_goals (with_reducible rfl)
              try simp only [Act.put, List.setIfInBounds_toArray, List.set_cons_zero, List.set_cons_succ]
              refine wpAnyH_take (i := 16) (oi := { dst := some 77, op := Go.Op.fieldAddr 42 (Go.Operand.tmp 6) 1, type := 0, pos := "ref.go:59", after := #[], guard := none }) (v := ?_) rfl (by kernel_rfl) (by kernel_rfl) (by kernel_rfl) (fun _ _ _ h => h) (Or.inl ⟨by rfl, ?_⟩) (HS0.out) ?_
              rotate_left 1
              · intro w5 hSw
                go_simp; all_goals (with_reducible rfl)
              try simp only [Act.put, List.setIfInBounds_toArray, List.set_cons_zero, List.set_cons_succ]
              refine wpAnyH_take (i := 17) (oi := { dst := some 78, op := Go.Op.load 3 (Go.Operand.tmp 77), type := 3, pos := "ref.go:59", after := #[{ on := 16, ground := Go.Ground.data }], guard := none }) (v := ?_) rfl (by kernel_rfl) (by kernel_rfl) (by kernel_rfl) (fun _ _ _ h => h) (Or.inl ⟨by rfl, ?_⟩) (HS0.out) ?_
              rotate_left 1
              · intro w5 hSw
                obtain ⟨d0, d1, d2, d3⟩ := hSw
                go_simp; all_goals (with_reducible rfl)
              try simp only [Act.put, List.setIfInBounds_toArray, List.set_cons_zero, List.set_cons_succ]
              refine wpAnyH_take (i := 18) (oi := { dst := some 79, op := Go.Op.binOp Go.BinOp.sub 3 (Go.Operand.tmp 76) (Go.Operand.tmp 78) 3, type := 3, pos := "ref.go:59", after := #[{ on := 15, ground := Go.Ground.data }, { on := 17, ground := Go.Ground.data }], guard := none }) (v := ?_) rfl (by kernel_rfl) (by kernel_rfl) (by kernel_rfl) (fun _ _ _ h => h) (Or.inl ⟨by rfl, ?_⟩) (HS0.out) ?_
              rotate_left 1
              · intro w5 hSw
                go_simp; all_goals (with_reducible rfl)
              try simp only [Act.put, List.setIfInBounds_toArray, List.set_cons_zero, List.set_cons_succ]
              refine wpAnyH_ready (rs := [9]) (by kernel_rfl) (by simp) ?_
              refine (AllReadyH.cons (o := { dst := some 70, op := Go.Op.call { callee := Go.Callee.value (Go.Operand.func 27), args := #[Go.Operand.tmp 69], argTypes := #[3] }, type := 59, pos := "ref.go:59", after := #[{ on := 8, ground := Go.Ground.data }], guard := none }) rfl (fun K hK => ?_) AllReadyH.nil)
              go_simp
              refine (HZx.out _).mono ?_; rintro e Y ⟨rfl, rfl⟩
              go_wp2_with fail
              refine hK.out _ _ (HS0.out) (fun _ => ?_)
              clear hK K
              try simp only [Act.put, List.setIfInBounds_toArray, List.set_cons_zero, List.set_cons_succ]
              refine wpAnyH_take (i := 10) (oi := { dst := some 71, op := Go.Op.convert 59 44 (Go.Operand.tmp 70), type := 44, pos := "ref.go:59", after := #[{ on := 9, ground := Go.Ground.data }], guard := none }) (v := ?_) rfl (by kernel_rfl) (by kernel_rfl) (by kernel_rfl) (fun _ _ _ h => h) (Or.inl ⟨by rfl, ?_⟩) (HS0.out) ?_
              rotate_left 1
              · intro w5 hSw
                go_simp; all_goals (with_reducible rfl)
              try simp only [Act.put, List.setIfInBounds_toArray, List.set_cons_zero, List.set_cons_succ]
              refine wpAnyH_ready (rs := [19]) (by kernel_rfl) (by simp) ?_
              refine (AllReadyH.cons (o := { dst := some 80, op := Go.Op.call { callee := Go.Callee.value (Go.Operand.func 27), args := #[Go.Operand.tmp 79], argTypes := #[3] }, type := 59, pos := "ref.go:59", after := #[{ on := 18, ground := Go.Ground.data }, { on := 9, ground := Go.Ground.chain }], guard := none }) rfl (fun K hK => ?_) AllReadyH.nil)
              go_simp
              refine (HZy.out _).mono ?_; rintro e Y ⟨rfl, rfl⟩
              go_wp2_with fail
              refine hK.out _ _ (HS0.out) (fun _ => ?_)
              clear hK K
              try simp only [Act.put, List.setIfInBounds_toArray, List.set_cons_zero, List.set_cons_succ]
              refine wpAnyH_take (i := 20) (oi := { dst := some 81, op := Go.Op.convert 59 44 (Go.Operand.tmp 80), type := 44, pos := "ref.go:59", after := #[{ on := 19, ground := Go.Ground.data }], guard := none }) (v := ?_) rfl (by kernel_rfl) (by kernel_rfl) (by kernel_rfl) (fun _ _ _ h => h) (Or.inl ⟨by rfl, ?_⟩) (HS0.out) ?_
              rotate_left 1
              · intro w5 hSw
                go_simp; all_goals (with_reducible rfl)
              try simp only [Act.put, List.setIfInBounds_toArray, List.set_cons_zero, List.set_cons_succ]
              refine wpAnyH_ready (rs := [21]) (by kernel_rfl) (by simp) ?_
              refine (AllReadyH.cons (o := { dst := some 82, op := Go.Op.buildSlice 22 2 #[(0, Go.Operand.tmp 71), (1, Go.Operand.tmp 81)], type := 22, pos := "ref.go:59", after := #[{ on := 10, ground := Go.Ground.data }, { on := 20, ground := Go.Ground.data }], guard := none }) rfl (fun K hK => ?_) AllReadyH.nil)
              go_simp
              refine hK.out _ _ (HS2.out) (fun _ => ?_)
              clear hK K
              try simp only [Act.put, List.setIfInBounds_toArray, List.set_cons_zero, List.set_cons_succ]
              refine wpAnyH_ready (rs := [22]) (by kernel_rfl) (by simp) ?_
              refine (AllReadyH.cons (o := { dst := some 83, op := Go.Op.call { callee := Go.Callee.builtin Go.Builtin.append, args := #[Go.Operand.tmp 61, Go.Operand.tmp 82], argTypes := #[22, 22] }, type := 22, pos := "ref.go:59", after := #[{ on := 0, ground := Go.Ground.data }, { on := 21, ground := Go.Ground.data }, { on := 19, ground := Go.Ground.chain }], guard := none }) rfl (fun K hK => ?_) AllReadyH.nil)
              refine held_app (by rfl) (.tmp 61) (.tmp 82) 22 rfl _ _ (.slice a3 L3 c3) rfl rfl (Hrun.out) ?_
              refine hK.out _ _ (HS3.out) (fun _ => ?_)
              clear hK K
              try simp only [Act.put, List.setIfInBounds_toArray, List.set_cons_zero, List.set_cons_succ]
              refine wpAnyH_take (i := 23) (oi := { dst := some 5, op := Go.Op.assign (Go.Operand.tmp 83), type := 22, pos := "ref.go:59", after := #[{ on := 22, ground := Go.Ground.data }, { on := 22, ground := Go.Ground.chain }, { on := 0, ground := Go.Ground.phase }, { on := 1, ground := Go.Ground.phase }, { on := 2, ground := Go.Ground.phase }, { on := 3, ground := Go.Ground.phase }, { on := 4, ground := Go.Ground.phase }, { on := 5, ground := Go.Ground.phase }, { on := 6, ground := Go.Ground.phase }, { on := 7, ground := Go.Ground.phase }, { on := 8, ground := Go.Ground.phase }, { on := 9, ground := Go.Ground.phase }, { on := 10, ground := Go.Ground.phase }, { on := 11, ground := Go.Ground.phase }, { on := 12, ground := Go.Ground.phase }, { on := 13, ground := Go.Ground.phase }, { on := 14, ground := Go.Ground.phase }, { on := 15, ground := Go.Ground.phase }, { on := 16, ground := Go.Ground.phase }, { on := 17, ground := Go.Ground.phase }, { on := 18, ground := Go.Ground.phase }, { on := 19, ground := Go.Ground.phase }, { on := 20, ground := Go.Ground.phase }, { on := 21, ground := Go.Ground.phase }, { on := 22, ground := Go.Ground.phase }], guard := none }) (v := ?_) rfl (by kernel_rfl) (by kernel_rfl) (by kernel_rfl) (fun _ _ _ h => h) (Or.inl ⟨by rfl, ?_⟩) (HS3.out) ?_
              rotate_left 1
              · intro w5 hSw
                go_simp; all_goals (with_reducible rfl)
              try simp only [Act.put, List.setIfInBounds_toArray, List.set_cons_zero, List.set_cons_succ]
              refine wpAnyH_done (by kernel_rfl) ?_ _
              go_wp2_with fail
              go_roundw
              case rel => exact ⟨k + 1, mk2 ++ [zx, zy], (px, py), .slice a3 L3 c3, Hlt.out, by go_num, rfl, HOW3.out, HEND.out.1, HEND.out.2.1, HEND.out.2.2, Htot.out, Hlst.out, Hpin.out, Hlen2.out⟩
              case measure => have := Hlt.out; simp [intOf]; omega
            · have dK : (K == 1) = false := by have := HKk.out.1; simp; omega
              have Hkind : Hid (k = 0 ∧ ¬ kind = 1) := ⟨hk00, hkd⟩
              clear hk00 hkd
              obtain ⟨n1, hn1⟩ : ∃ n, n = 9 := ⟨_, rfl⟩
              have hnI : (9 : Int) = (n1 : Int) := by omega
              have hpre : preE kind m k = [n1] := by rw [hn1]; simp [preE, Hkind.out]
              rw [hpre] at ht
              have hown : wr.ownsRow base 44 1 v2 mj.length (u32s mj) := HO.out
              have hBr : base ≤ wr.heap.size := by have := HBj.out.size; have := Hbase.out; omega
              have hlj : mj.length ≤ 9000 := by have := Hlj.out; have := Hq1.out; omega
              have Hn1 := Lib.hid hn1
              have Ht9 := Lib.hid ht
              clear hn1 hpre ht
              go_wp2_with (at_builtin; refine app_one rfl (.tmp 43) (.tmp 44) 22 rfl base 44 i0 _ 4 Try.underlying22 hi0 hz0 hz1 hz2 rfl v2 _ _ rfl hown (.int .u32 (n1 : Int)) 1 rfl rfl (by unfold maxLen; omega) (by omega) hBr ?_)
              intro v5 W1 h2 h3 h5
              have hG5 : Gone32 wr base v2 (mj ++ [n1]) v5 W1 := Gone32.grown h2 (by simp) (by simp [u32s]) h3 h5
              have HO1 := Lib.hid hG5.own
              have HWB := Lib.hid (HWj.out.only hG5.only (fun e => HVj.out e))
              have HB1 := Lib.hid (HBj.out.trans (hG5.below HO.out hBr))
              have Hv6 := Lib.hid (show v5.ownBlock ≠ some b6 from fun e => by
                rcases hG5.at_ with e1 | ⟨j, e1, hj⟩
                · rw [e1] at e; exact HVj.out e
                · rw [e1] at e; injection e with e; have := HWj.out.lt; omega)
              obtain ⟨mk2, hmk2⟩ : ∃ z, z = mj ++ [n1] := ⟨_, rfl⟩
              rw [← hmk2] at HO1
              have Htot : Hid ((mk2 ++ [zx, zy]) ++ remE kind l0 (k + 1) (px, py) = T0) := by show _ = _; rw [← Ht9.out, hmk2]; simp
              have Hl2 : Hid (mk2.length ≤ 5001 + 3 * k) := by show _ ≤ _; have := Hlj.out; rw [hmk2]; simp; omega
              obtain ⟨v2', hv2'⟩ : ∃ z, z = v5 := ⟨_, rfl⟩
              clear h2 h3 h5 hG5 hown hmk2
              go_upto_region 16 with (fail)
              obtain ⟨b1, o1, rfl, hb1, p0, p1⟩ := (HPt.out.below HB1.out).at k hkl
              rw [hpk] at p0 p1
              simp only at p0 p1
              have q0 : W1.cell? ⟨b6, 0, none⟩ = some (.int .i64 qx) := HWB.out.cell 0
              have q1 : W1.cell? ⟨b6, 1, none⟩ = some (.int .i64 qy) := HWB.out.cell 1
              have HS0 : Hid (W1.drew.cell? ⟨b1, o1 + k * 2, none⟩ = some (.int .i64 px) ∧ W1.drew.cell? ⟨b1, o1 + k * 2 + 1, none⟩ = some (.int .i64 py) ∧ W1.drew.cell? ⟨b6, 0, none⟩ = some (.int .i64 qx) ∧ W1.drew.cell? ⟨b6, 1, none⟩ = some (.int .i64 qy)) := ⟨p0, p1, q0, q1⟩
              have hBd : base ≤ W1.drew.heap.size := by have h8 := HB1.out.size; have h9 := Hbase.out; show base ≤ W1.heap.size; omega
              have hb1l : b1 < W1.drew.heap.size := Nat.lt_of_lt_of_le hb1 hBd
              have hal : Below W1.drew.heap.size W1.drew (W1.drew.alloc (.cells #[.int .u32 (zx : Int), .int .u32 (zy : Int)] 44)) := (Below.refl _ _).alloc (Nat.le_refl _) _
              have HS2 : Hid ((W1.drew.alloc (.cells #[.int .u32 (zx : Int), .int .u32 (zy : Int)] 44)).cell? ⟨b1, o1 + k * 2, none⟩ = some (.int .i64 px) ∧ (W1.drew.alloc (.cells #[.int .u32 (zx : Int), .int .u32 (zy : Int)] 44)).cell? ⟨b1, o1 + k * 2 + 1, none⟩ = some (.int .i64 py) ∧ (W1.drew.alloc (.cells #[.int .u32 (zx : Int), .int .u32 (zy : Int)] 44)).cell? ⟨b6, 0, none⟩ = some (.int .i64 qx) ∧ (W1.drew.alloc (.cells #[.int .u32 (zx : Int), .int .u32 (zy : Int)] 44)).cell? ⟨b6, 1, none⟩ = some (.int .i64 qy)) := ⟨(hal.cell (p := ⟨b1, o1 + k * 2, none⟩) hb1l).trans p0, (hal.cell (p := ⟨b1, o1 + k * 2 + 1, none⟩) hb1l).trans p1, (hal.cell (p := ⟨b6, 0, none⟩) HWB.out.lt).trans q0, (hal.cell (p := ⟨b6, 1, none⟩) HWB.out.lt).trans q1⟩
              have hOd : Own32 W1.drew base v5 mk2 := HO1.out
              obtain ⟨v3, w3, hrun, hG⟩ := app_two base v5 mk2 zx zy 2 hOd (by have := Hl2.out; omega) hBd
              obtain ⟨a3, c3, rfl, _, _, _, _⟩ := hG.own.nums
              obtain ⟨L3, hL3⟩ : ∃ L, (mk2 ++ [zx, zy] : List Nat).length = L := ⟨_, rfl⟩
              rw [hL3] at hrun hG
              have hlowv : ∀ b, v5.ownBlock = some b → base ≤ b := fun b hb => (hOd.lt b hb).1
              have hbb : b1 < base := hb1
              have HS3 : Hid (w3.cell? ⟨b1, o1 + k * 2, none⟩ = some (.int .i64 px) ∧ w3.cell? ⟨b1, o1 + k * 2 + 1, none⟩ = some (.int .i64 py) ∧ w3.cell? ⟨b6, 0, none⟩ = some (.int .i64 qx) ∧ w3.cell? ⟨b6, 1, none⟩ = some (.int .i64 qy)) := by
                have e1 : ∀ j, w3.cell? ⟨b1, j, none⟩ = W1.drew.cell? ⟨b1, j, none⟩ := fun j => hG.only.cell (p := ⟨b1, j, none⟩) hb1l (fun e => by have := hlowv b1 e; omega)
                have e2 : ∀ j, w3.cell? ⟨b6, j, none⟩ = W1.drew.cell? ⟨b6, j, none⟩ := fun j => hG.only.cell (p := ⟨b6, j, none⟩) HWB.out.lt (fun e => Hv6.out e)
                exact ⟨(e1 _).trans p0, (e1 _).trans p1, (e2 _).trans q0, (e2 _).trans q1⟩
              have Hrun := Lib.hid hrun
              have hst : ∃ z, z = (w3.setCell ⟨b6, 0, none⟩ (.int .i64 px)).setCell ⟨b6, 1, none⟩ (.int .i64 py) := ⟨_, rfl⟩
              have hWd : Whole W1.drew b6 42 #[.int .i64 qx, .int .i64 qy] := HWB.out
              have hW3 : Whole w3 b6 42 #[.int .i64 qx, .int .i64 qy] := hWd.only hG.only (fun e => Hv6.out e)
              have hB3 : Below base w w3 := (show Below base w W1.drew from ⟨HB1.out.os, HB1.out.tape, HB1.out.output, HB1.out.size, HB1.out.block⟩).trans (hG.below hOd hBd)
              have hv3 : (Value.slice a3 L3 c3).ownBlock ≠ some b6 := fun e => by
                rcases hG.at_ with e1 | ⟨i, e1, hi⟩
                · rw [e1] at e; exact Hv6.out e
                · rw [e1] at e; injection e with e; have := hWd.lt; omega
              have hoS : Only (fun b => b = b6) w3 ((w3.setCell ⟨b6, 0, none⟩ (.int .i64 px)).setCell ⟨b6, 1, none⟩ (.int .i64 py)) := Only.setCell (S := fun b => b = b6) (Only.setCell (S := fun b => b = b6) (Only.refl _ _) (p := ⟨b6, 0, none⟩) (fun _ => rfl) _) (p := ⟨b6, 1, none⟩) (fun _ => rfl) _
              have HOW3 := Lib.hid (hG.own.only hoS (fun b hb e => hv3 (by rw [hb, e])))
              have HEND : Hid (Whole ((w3.setCell ⟨b6, 0, none⟩ (.int .i64 px)).setCell ⟨b6, 1, none⟩ (.int .i64 py)) b6 42 #[.int .i64 px, .int .i64 py] ∧ (Value.slice a3 L3 c3).ownBlock ≠ some b6 ∧ Below base w ((w3.setCell ⟨b6, 0, none⟩ (.int .i64 px)).setCell ⟨b6, 1, none⟩ (.int .i64 py))) :=
                ⟨by simpa using (hW3.set 0 (.int .i64 px)).set 1 (.int .i64 py), hv3, (hB3.setCell (p := ⟨b6, 0, none⟩) hl6 _).setCell (p := ⟨b6, 1, none⟩) hl6 _⟩
              have k0 : w3.cell? ⟨b6, 0, none⟩ = some (.int .i64 qx) := hW3.cell 0
              have k1 : w3.cell? ⟨b6, 1, none⟩ = some (.int .i64 qy) := hW3.cell 1
              have g1 : w3.frozen? ⟨b6, 0, none⟩ = false := hW3.frozen 0
              have g2 : w3.frozen? ⟨b6, 1, none⟩ = false := hW3.frozen 1
              obtain ⟨e90, e91, e92, e93⟩ := HS3.out
              clear hrun hG hst hWd hW3 hB3 hv3 hoS hOd hlowv hbb hal hL3
              have Hlen2 : Hid ((mk2 ++ [zx, zy]).length ≤ 5000 + 3 * (k + 1)) := by show _ ≤ _; have := Hl2.out; simp; omega
              refine wp_region_held (S := fun W => W.cell? ⟨b1, o1 + k * 2, none⟩ = some (.int .i64 px) ∧ W.cell? ⟨b1, o1 + k * 2 + 1, none⟩ = some (.int .i64 py) ∧ W.cell? ⟨b6, 0, none⟩ = some (.int .i64 qx) ∧ W.cell? ⟨b6, 1, none⟩ = some (.int .i64 qy)) (by kernel_rfl) ?_
              refine wpAnyH_take (i := 0) (oi := { dst := some 61, op := Go.Op.move (Go.Operand.tmp 5), type := 22, pos := "ref.go:59", after := #[], guard := none }) (v := ?_) rfl (by kernel_rfl) (by kernel_rfl) (by kernel_rfl) (fun _ _ _ h => h) (Or.inl ⟨by rfl, ?_⟩) (HS0.out) ?_
              rotate_left 1
              · intro w5 hSw
                go_simp; all_goals (with_reducible rfl)
              try simp only [Act.put, List.setIfInBounds_toArray, List.set_cons_zero, List.set_cons_succ]
              refine wpAnyH_take (i := 1) (oi := { dst := some 62, op := Go.Op.move (Go.Operand.tmp 8), type := 43, pos := "ref.go:59", after := #[], guard := none }) (v := ?_) rfl (by kernel_rfl) (by kernel_rfl) (by kernel_rfl) (fun _ _ _ h => h) (Or.inl ⟨by rfl, ?_⟩) (HS0.out) ?_
              rotate_left 1
              · intro w5 hSw
                go_simp; all_goals (with_reducible rfl)
              try simp only [Act.put, List.setIfInBounds_toArray, List.set_cons_zero, List.set_cons_succ]
              refine wpAnyH_take (i := 2) (oi := { dst := some 63, op := Go.Op.move (Go.Operand.tmp 9), type := 3, pos := "ref.go:59", after := #[], guard := none }) (v := ?_) rfl (by kernel_rfl) (by kernel_rfl) (by kernel_rfl) (fun _ _ _ h => h) (Or.inl ⟨by rfl, ?_⟩) (HS0.out) ?_
              rotate_left 1
              · intro w5 hSw
                go_simp; all_goals (with_reducible rfl)
              try simp only [Act.put, List.setIfInBounds_toArray, List.set_cons_zero, List.set_cons_succ]
              refine wpAnyH_take (i := 3) (oi := { dst := some 64, op := Go.Op.indexAddr 43 (Go.Operand.tmp 62) (Go.Operand.tmp 63), type := 0, pos := "ref.go:59", after := #[{ on := 1, ground := Go.Ground.data }, { on := 2, ground := Go.Ground.data }], guard := none }) (v := ?_) rfl (by kernel_rfl) (by kernel_rfl) (by kernel_rfl) (fun _ _ _ h => h) (Or.inl ⟨by rfl, ?_⟩) (HS0.out) ?_
              rotate_left 1
              · intro w5 hSw
                go_simp; all_goals (with_reducible rfl)
              try simp only [Act.put, List.setIfInBounds_toArray, List.set_cons_zero, List.set_cons_succ]
              refine wpAnyH_take (i := 4) (oi := { dst := some 65, op := Go.Op.fieldAddr 42 (Go.Operand.tmp 64) 0, type := 0, pos := "ref.go:59", after := #[{ on := 3, ground := Go.Ground.data }], guard := none }) (v := ?_) rfl (by kernel_rfl) (by kernel_rfl) (by kernel_rfl) (fun _ _ _ h => h) (Or.inl ⟨by rfl, ?_⟩) (HS0.out) ?_
              rotate_left 1
              · intro w5 hSw
                go_simp; all_goals (with_reducible rfl)
              try simp only [Act.put, List.setIfInBounds_toArray, List.set_cons_zero, List.set_cons_succ]
              refine wpAnyH_take (i := 5) (oi := { dst := some 66, op := Go.Op.load 3 (Go.Operand.tmp 65), type := 3, pos := "ref.go:59", after := #[{ on := 4, ground := Go.Ground.data }], guard := none }) (v := ?_) rfl (by kernel_rfl) (by kernel_rfl) (by kernel_rfl) (fun _ _ _ h => h) (Or.inl ⟨by rfl, ?_⟩) (HS0.out) ?_
              rotate_left 1
              · intro w5 hSw
                obtain ⟨d0, d1, d2, d3⟩ := hSw
                go_simp; all_goals (with_reducible rfl)
              try simp only [Act.put, List.setIfInBounds_toArray, List.set_cons_zero, List.set_cons_succ]
              refine wpAnyH_take (i := 6) (oi := { dst := some 67, op := Go.Op.fieldAddr 42 (Go.Operand.tmp 6) 0, type := 0, pos := "ref.go:59", after := #[], guard := none }) (v := ?_) rfl (by kernel_rfl) (by kernel_rfl) (by kernel_rfl) (fun _ _ _ h => h) (Or.inl ⟨by rfl, ?_⟩) (HS0.out) ?_
              rotate_left 1
              · intro w5 hSw
                go_simp; all_goals (with_reducible rfl)
              try simp only [Act.put, List.setIfInBounds_toArray, List.set_cons_zero, List.set_cons_succ]
              refine wpAnyH_take (i := 7) (oi := { dst := some 68, op := Go.Op.load 3 (Go.Operand.tmp 67), type := 3, pos := "ref.go:59", after := #[{ on := 6, ground := Go.Ground.data }], guard := none }) (v := ?_) rfl (by kernel_rfl) (by kernel_rfl) (by kernel_rfl) (fun _ _ _ h => h) (Or.inl ⟨by rfl, ?_⟩) (HS0.out) ?_
              rotate_left 1
              · intro w5 hSw
                obtain ⟨d0, d1, d2, d3⟩ := hSw
                go_simp; all_goals (with_reducible rfl)
              try simp only [Act.put, List.setIfInBounds_toArray, List.set_cons_zero, List.set_cons_succ]
              refine wpAnyH_take (i := 8) (oi := { dst := some 69, op := Go.Op.binOp Go.BinOp.sub 3 (Go.Operand.tmp 66) (Go.Operand.tmp 68) 3, type := 3, pos := "ref.go:59", after := #[{ on := 5, ground := Go.Ground.data }, { on := 7, ground := Go.Ground.data }], guard := none }) (v := ?_) rfl (by kernel_rfl) (by kernel_rfl) (by kernel_rfl) (fun _ _ _ h => h) (Or.inl ⟨by rfl, ?_⟩) (HS0.out) ?_
              rotate_left 1
              · intro w5 hSw
                go_simp; all_goals (with_reducible rfl)
              try simp only [Act.put, List.setIfInBounds_toArray, List.set_cons_zero, List.set_cons_succ]
              refine wpAnyH_take (i := 11) (oi := { dst := some 72, op := Go.Op.move (Go.Operand.tmp 8), type := 43, pos := "ref.go:59", after := #[], guard := none }) (v := ?_) rfl (by kernel_rfl) (by kernel_rfl) (by kernel_rfl) (fun _ _ _ h => h) (Or.inl ⟨by rfl, ?_⟩) (HS0.out) ?_
              rotate_left 1
              · intro w5 hSw
                go_simp; all_goals (with_reducible rfl)
              try simp only [Act.put, List.setIfInBounds_toArray, List.set_cons_zero, List.set_cons_succ]
              refine wpAnyH_take (i := 12) (oi := { dst := some 73, op := Go.Op.move (Go.Operand.tmp 9), type := 3, pos := "ref.go:59", after := #[], guard := none }) (v := ?_) rfl (by kernel_rfl) (by kernel_rfl) (by kernel_rfl) (fun _ _ _ h => h) (Or.inl ⟨by rfl, ?_⟩) (HS0.out) ?_
              rotate_left 1
              · intro w5 hSw
                go_simp; all_goals (with_reducible rfl)
              try simp only [Act.put, List.setIfInBounds_toArray, List.set_cons_zero, List.set_cons_succ]
              refine wpAnyH_take (i := 13) (oi := { dst := some 74, op := Go.Op.indexAddr 43 (Go.Operand.tmp 72) (Go.Operand.tmp 73), type := 0, pos := "ref.go:59", after := #[{ on := 11, ground := Go.Ground.data }, { on := 12, ground := Go.Ground.data }], guard := none }) (v := ?_) rfl (by kernel_rfl) (by kernel_rfl) (by kernel_rfl) (fun _ _ _ h => h) (Or.inl ⟨by rfl, ?_⟩) (HS0.out) ?_
              rotate_left 1
              · intro w5 hSw
                go_simp; all_goals (with_reducible rfl)
              try simp only [Act.put, List.setIfInBounds_toArray, List.set_cons_zero, List.set_cons_succ]
              refine wpAnyH_take (i := 14) (oi := { dst := some 75, op := Go.Op.fieldAddr 42 (Go.Operand.tmp 74) 1, type := 0, pos := "ref.go:59", after := #[{ on := 13, ground := Go.Ground.data }], guard := none }) (v := ?_) rfl (by kernel_rfl) (by kernel_rfl) (by kernel_rfl) (fun _ _ _ h => h) (Or.inl ⟨by rfl, ?_⟩) (HS0.out) ?_
              rotate_left 1
              · intro w5 hSw
                go_simp; all_goals (with_reducible rfl)
              try simp only [Act.put, List.setIfInBounds_toArray, List.set_cons_zero, List.set_cons_succ]
              refine wpAnyH_take (i := 15) (oi := { dst := some 76, op := Go.Op.load 3 (Go.Operand.tmp 75), type := 3, pos := "ref.go:59", after := #[{ on := 14, ground := Go.Ground.data }], guard := none }) (v := ?_) rfl (by kernel_rfl) (by kernel_rfl) (by kernel_rfl) (fun _ _ _ h => h) (Or.inl ⟨by rfl, ?_⟩) (HS0.out) ?_
              rotate_left 1
              · intro w5 hSw
                obtain ⟨d0, d1, d2, d3⟩ := hSw
                go_simp; all_goals (with_reducible rfl)
              try simp only [Act.put, List.setIfInBounds_toArray, List.set_cons_zero, List.set_cons_succ]
              refine wpAnyH_take (i := 16) (oi := { dst := some 77, op := Go.Op.fieldAddr 42 (Go.Operand.tmp 6) 1, type := 0, pos := "ref.go:59", after := #[], guard := none }) (v := ?_) rfl (by kernel_rfl) (by kernel_rfl) (by kernel_rfl) (fun _ _ _ h => h) (Or.inl ⟨by rfl, ?_⟩) (HS0.out) ?_
              rotate_left 1
              · intro w5 hSw
                go_simp; all_goals (with_reducible rfl)
              try simp only [Act.put, List.setIfInBounds_toArray, List.set_cons_zero, List.set_cons_succ]
              refine wpAnyH_take (i := 17) (oi := { dst := some 78, op := Go.Op.load 3 (Go.Operand.tmp 77), type := 3, pos := "ref.go:59", after := #[{ on := 16, ground := Go.Ground.data }], guard := none }) (v := ?_) rfl (by kernel_rfl) (by kernel_rfl) (by kernel_rfl) (fun _ _ _ h => h) (Or.inl ⟨by rfl, ?_⟩) (HS0.out) ?_
              rotate_left 1
              · intro w5 hSw
                obtain ⟨d0, d1, d2, d3⟩ := hSw
                go_simp; all_goals (with_reducible rfl)
              try simp only [Act.put, List.setIfInBounds_toArray, List.set_cons_zero, List.set_cons_succ]
              refine wpAnyH_take (i := 18) (oi := { dst := some 79, op := Go.Op.binOp Go.BinOp.sub 3 (Go.Operand.tmp 76) (Go.Operand.tmp 78) 3, type := 3, pos := "ref.go:59", after := #[{ on := 15, ground := Go.Ground.data }, { on := 17, ground := Go.Ground.data }], guard := none }) (v := ?_) rfl (by kernel_rfl) (by kernel_rfl) (by kernel_rfl) (fun _ _ _ h => h) (Or.inl ⟨by rfl, ?_⟩) (HS0.out) ?_
              rotate_left 1
              · intro w5 hSw
                go_simp; all_goals (with_reducible rfl)
              try simp only [Act.put, List.setIfInBounds_toArray, List.set_cons_zero, List.set_cons_succ]
              refine wpAnyH_ready (rs := [9]) (by kernel_rfl) (by simp) ?_
              refine (AllReadyH.cons (o := { dst := some 70, op := Go.Op.call { callee := Go.Callee.value (Go.Operand.func 27), args := #[Go.Operand.tmp 69], argTypes := #[3] }, type := 59, pos := "ref.go:59", after := #[{ on := 8, ground := Go.Ground.data }], guard := none }) rfl (fun K hK => ?_) AllReadyH.nil)
              go_simp
              refine (HZx.out _).mono ?_; rintro e Y ⟨rfl, rfl⟩
              go_wp2_with fail
              refine hK.out _ _ (HS0.out) (fun _ => ?_)
              clear hK K
              try simp only [Act.put, List.setIfInBounds_toArray, List.set_cons_zero, List.set_cons_succ]
              refine wpAnyH_take (i := 10) (oi := { dst := some 71, op := Go.Op.convert 59 44 (Go.Operand.tmp 70), type := 44, pos := "ref.go:59", after := #[{ on := 9, ground := Go.Ground.data }], guard := none }) (v := ?_) rfl (by kernel_rfl) (by kernel_rfl) (by kernel_rfl) (fun _ _ _ h => h) (Or.inl ⟨by rfl, ?_⟩) (HS0.out) ?_
              rotate_left 1
              · intro w5 hSw
                go_simp; all_goals (with_reducible rfl)
              try simp only [Act.put, List.setIfInBounds_toArray, List.set_cons_zero, List.set_cons_succ]
              refine wpAnyH_ready (rs := [19]) (by kernel_rfl) (by simp) ?_
              refine (AllReadyH.cons (o := { dst := some 80, op := Go.Op.call { callee := Go.Callee.value (Go.Operand.func 27), args := #[Go.Operand.tmp 79], argTypes := #[3] }, type := 59, pos := "ref.go:59", after := #[{ on := 18, ground := Go.Ground.data }, { on := 9, ground := Go.Ground.chain }], guard := none }) rfl (fun K hK => ?_) AllReadyH.nil)
              go_simp
              refine (HZy.out _).mono ?_; rintro e Y ⟨rfl, rfl⟩
              go_wp2_with fail
              refine hK.out _ _ (HS0.out) (fun _ => ?_)
              clear hK K
              try simp only [Act.put, List.setIfInBounds_toArray, List.set_cons_zero, List.set_cons_succ]
              refine wpAnyH_take (i := 20) (oi := { dst := some 81, op := Go.Op.convert 59 44 (Go.Operand.tmp 80), type := 44, pos := "ref.go:59", after := #[{ on := 19, ground := Go.Ground.data }], guard := none }) (v := ?_) rfl (by kernel_rfl) (by kernel_rfl) (by kernel_rfl) (fun _ _ _ h => h) (Or.inl ⟨by rfl, ?_⟩) (HS0.out) ?_
              rotate_left 1
              · intro w5 hSw
                go_simp; all_goals (with_reducible rfl)
              try simp only [Act.put, List.setIfInBounds_toArray, List.set_cons_zero, List.set_cons_succ]
              refine wpAnyH_ready (rs := [21]) (by kernel_rfl) (by simp) ?_
              refine (AllReadyH.cons (o := { dst := some 82, op := Go.Op.buildSlice 22 2 #[(0, Go.Operand.tmp 71), (1, Go.Operand.tmp 81)], type := 22, pos := "ref.go:59", after := #[{ on := 10, ground := Go.Ground.data }, { on := 20, ground := Go.Ground.data }], guard := none }) rfl (fun K hK => ?_) AllReadyH.nil)
              go_simp
              refine hK.out _ _ (HS2.out) (fun _ => ?_)
              clear hK K
              try simp only [Act.put, List.setIfInBounds_toArray, List.set_cons_zero, List.set_cons_succ]
              refine wpAnyH_ready (rs := [22]) (by kernel_rfl) (by simp) ?_
              refine (AllReadyH.cons (o := { dst := some 83, op := Go.Op.call { callee := Go.Callee.builtin Go.Builtin.append, args := #[Go.Operand.tmp 61, Go.Operand.tmp 82], argTypes := #[22, 22] }, type := 22, pos := "ref.go:59", after := #[{ on := 0, ground := Go.Ground.data }, { on := 21, ground := Go.Ground.data }, { on := 19, ground := Go.Ground.chain }], guard := none }) rfl (fun K hK => ?_) AllReadyH.nil)
              refine held_app (by rfl) (.tmp 61) (.tmp 82) 22 rfl _ _ (.slice a3 L3 c3) rfl rfl (Hrun.out) ?_
              refine hK.out _ _ (HS3.out) (fun _ => ?_)
              clear hK K
              try simp only [Act.put, List.setIfInBounds_toArray, List.set_cons_zero, List.set_cons_succ]
              refine wpAnyH_take (i := 23) (oi := { dst := some 5, op := Go.Op.assign (Go.Operand.tmp 83), type := 22, pos := "ref.go:59", after := #[{ on := 22, ground := Go.Ground.data }, { on := 22, ground := Go.Ground.chain }, { on := 0, ground := Go.Ground.phase }, { on := 1, ground := Go.Ground.phase }, { on := 2, ground := Go.Ground.phase }, { on := 3, ground := Go.Ground.phase }, { on := 4, ground := Go.Ground.phase }, { on := 5, ground := Go.Ground.phase }, { on := 6, ground := Go.Ground.phase }, { on := 7, ground := Go.Ground.phase }, { on := 8, ground := Go.Ground.phase }, { on := 9, ground := Go.Ground.phase }, { on := 10, ground := Go.Ground.phase }, { on := 11, ground := Go.Ground.phase }, { on := 12, ground := Go.Ground.phase }, { on := 13, ground := Go.Ground.phase }, { on := 14, ground := Go.Ground.phase }, { on := 15, ground := Go.Ground.phase }, { on := 16, ground := Go.Ground.phase }, { on := 17, ground := Go.Ground.phase }, { on := 18, ground := Go.Ground.phase }, { on := 19, ground := Go.Ground.phase }, { on := 20, ground := Go.Ground.phase }, { on := 21, ground := Go.Ground.phase }, { on := 22, ground := Go.Ground.phase }], guard := none }) (v := ?_) rfl (by kernel_rfl) (by kernel_rfl) (by kernel_rfl) (fun _ _ _ h => h) (Or.inl ⟨by rfl, ?_⟩) (HS3.out) ?_
              rotate_left 1
              · intro w5 hSw
                go_simp; all_goals (with_reducible rfl)
              try simp only [Act.put, List.setIfInBounds_toArray, List.set_cons_zero, List.set_cons_succ]
              refine wpAnyH_done (by kernel_rfl) ?_ _
              go_wp2_with fail
              go_roundw
              case rel => exact ⟨k + 1, mk2 ++ [zx, zy], (px, py), .slice a3 L3 c3, Hlt.out, by go_num, rfl, HOW3.out, HEND.out.1, HEND.out.2.1, HEND.out.2.2, Htot.out, Hlst.out, Hpin.out, Hlen2.out⟩
              case measure => have := Hlt.out; simp [intOf]; omega
          · have e0 : ((k : Int) == 0) = false := by simp; omega
            by_cases hkd : kind = 1
            · have dK : (K == 1) = true := by have := HKk.out.1; simp; omega
              have dKn : (K != 1) = false := by have := HKk.out.1; simp; omega
              have hpre : preE kind m k = [] := by simp [preE, hk00, hkd]
              clear hkd
              by_cases hk11 : k = 1
              · have e1 : ((k : Int) == 1) = true := by simp [hk11]
                clear hk00 hk11
                rw [hpre, List.nil_append] at ht
                have Ht9 := Lib.hid ht
                clear ht hpre
                go_upto_region 16 with (fail)
                obtain ⟨mk2, hmk2⟩ : ∃ z, z = mj := ⟨_, rfl⟩
                obtain ⟨W1, hW1⟩ : ∃ z, z = wr := ⟨_, rfl⟩
                obtain ⟨v5, hv5⟩ : ∃ z, z = v2 := ⟨_, rfl⟩
                have HO1 : Hid (Own32 W1 base v5 mk2) := by rw [hW1, hv5, hmk2]; exact HO.out
                have HWB : Hid (Whole W1 b6 42 #[.int .i64 qx, .int .i64 qy]) := by rw [hW1]; exact HWj.out
                have HB1 : Hid (Below base w W1) := by rw [hW1]; exact HBj.out
                have Hv6 : Hid (v5.ownBlock ≠ some b6) := by rw [hv5]; exact HVj.out
                have Htot : Hid ((mk2 ++ [zx, zy]) ++ remE kind l0 (k + 1) (px, py) = T0) := by show _ = _; rw [← Ht9.out, hmk2]; simp
                have Hl2 : Hid (mk2.length ≤ 5001 + 3 * k) := by show _ ≤ _; have := Hlj.out; rw [hmk2]; omega
                rw [← hW1, ← hv5]
                clear hmk2 hW1 hv5
                obtain ⟨b1, o1, rfl, hb1, p0, p1⟩ := (HPt.out.below HB1.out).at k hkl
                rw [hpk] at p0 p1
                simp only at p0 p1
                have q0 : W1.cell? ⟨b6, 0, none⟩ = some (.int .i64 qx) := HWB.out.cell 0
                have q1 : W1.cell? ⟨b6, 1, none⟩ = some (.int .i64 qy) := HWB.out.cell 1
                have HS0 : Hid (W1.drew.cell? ⟨b1, o1 + k * 2, none⟩ = some (.int .i64 px) ∧ W1.drew.cell? ⟨b1, o1 + k * 2 + 1, none⟩ = some (.int .i64 py) ∧ W1.drew.cell? ⟨b6, 0, none⟩ = some (.int .i64 qx) ∧ W1.drew.cell? ⟨b6, 1, none⟩ = some (.int .i64 qy)) := ⟨p0, p1, q0, q1⟩
                have hBd : base ≤ W1.drew.heap.size := by have h8 := HB1.out.size; have h9 := Hbase.out; show base ≤ W1.heap.size; omega
                have hb1l : b1 < W1.drew.heap.size := Nat.lt_of_lt_of_le hb1 hBd
                have hal : Below W1.drew.heap.size W1.drew (W1.drew.alloc (.cells #[.int .u32 (zx : Int), .int .u32 (zy : Int)] 44)) := (Below.refl _ _).alloc (Nat.le_refl _) _
                have HS2 : Hid ((W1.drew.alloc (.cells #[.int .u32 (zx : Int), .int .u32 (zy : Int)] 44)).cell? ⟨b1, o1 + k * 2, none⟩ = some (.int .i64 px) ∧ (W1.drew.alloc (.cells #[.int .u32 (zx : Int), .int .u32 (zy : Int)] 44)).cell? ⟨b1, o1 + k * 2 + 1, none⟩ = some (.int .i64 py) ∧ (W1.drew.alloc (.cells #[.int .u32 (zx : Int), .int .u32 (zy : Int)] 44)).cell? ⟨b6, 0, none⟩ = some (.int .i64 qx) ∧ (W1.drew.alloc (.cells #[.int .u32 (zx : Int), .int .u32 (zy : Int)] 44)).cell? ⟨b6, 1, none⟩ = some (.int .i64 qy)) := ⟨(hal.cell (p := ⟨b1, o1 + k * 2, none⟩) hb1l).trans p0, (hal.cell (p := ⟨b1, o1 + k * 2 + 1, none⟩) hb1l).trans p1, (hal.cell (p := ⟨b6, 0, none⟩) HWB.out.lt).trans q0, (hal.cell (p := ⟨b6, 1, none⟩) HWB.out.lt).trans q1⟩
                have hOd : Own32 W1.drew base v5 mk2 := HO1.out
                obtain ⟨v3, w3, hrun, hG⟩ := app_two base v5 mk2 zx zy 2 hOd (by have := Hl2.out; omega) hBd
                obtain ⟨a3, c3, rfl, _, _, _, _⟩ := hG.own.nums
                obtain ⟨L3, hL3⟩ : ∃ L, (mk2 ++ [zx, zy] : List Nat).length = L := ⟨_, rfl⟩
                rw [hL3] at hrun hG
                have hlowv : ∀ b, v5.ownBlock = some b → base ≤ b := fun b hb => (hOd.lt b hb).1
                have hbb : b1 < base := hb1
                have HS3 : Hid (w3.cell? ⟨b1, o1 + k * 2, none⟩ = some (.int .i64 px) ∧ w3.cell? ⟨b1, o1 + k * 2 + 1, none⟩ = some (.int .i64 py) ∧ w3.cell? ⟨b6, 0, none⟩ = some (.int .i64 qx) ∧ w3.cell? ⟨b6, 1, none⟩ = some (.int .i64 qy)) := by
                  have e1 : ∀ j, w3.cell? ⟨b1, j, none⟩ = W1.drew.cell? ⟨b1, j, none⟩ := fun j => hG.only.cell (p := ⟨b1, j, none⟩) hb1l (fun e => by have := hlowv b1 e; omega)
                  have e2 : ∀ j, w3.cell? ⟨b6, j, none⟩ = W1.drew.cell? ⟨b6, j, none⟩ := fun j => hG.only.cell (p := ⟨b6, j, none⟩) HWB.out.lt (fun e => Hv6.out e)
                  exact ⟨(e1 _).trans p0, (e1 _).trans p1, (e2 _).trans q0, (e2 _).trans q1⟩
                have Hrun := Lib.hid hrun
                have hst : ∃ z, z = (w3.setCell ⟨b6, 0, none⟩ (.int .i64 px)).setCell ⟨b6, 1, none⟩ (.int .i64 py) := ⟨_, rfl⟩
                have hWd : Whole W1.drew b6 42 #[.int .i64 qx, .int .i64 qy] := HWB.out
                have hW3 : Whole w3 b6 42 #[.int .i64 qx, .int .i64 qy] := hWd.only hG.only (fun e => Hv6.out e)
                have hB3 : Below base w w3 := (show Below base w W1.drew from ⟨HB1.out.os, HB1.out.tape, HB1.out.output, HB1.out.size, HB1.out.block⟩).trans (hG.below hOd hBd)
                have hv3 : (Value.slice a3 L3 c3).ownBlock ≠ some b6 := fun e => by
                  rcases hG.at_ with e1 | ⟨i, e1, hi⟩
                  · rw [e1] at e; exact Hv6.out e
                  · rw [e1] at e; injection e with e; have := hWd.lt; omega
                have hoS : Only (fun b => b = b6) w3 ((w3.setCell ⟨b6, 0, none⟩ (.int .i64 px)).setCell ⟨b6, 1, none⟩ (.int .i64 py)) := Only.setCell (S := fun b => b = b6) (Only.setCell (S := fun b => b = b6) (Only.refl _ _) (p := ⟨b6, 0, none⟩) (fun _ => rfl) _) (p := ⟨b6, 1, none⟩) (fun _ => rfl) _
                have HOW3 := Lib.hid (hG.own.only hoS (fun b hb e => hv3 (by rw [hb, e])))
                have HEND : Hid (Whole ((w3.setCell ⟨b6, 0, none⟩ (.int .i64 px)).setCell ⟨b6, 1, none⟩ (.int .i64 py)) b6 42 #[.int .i64 px, .int .i64 py] ∧ (Value.slice a3 L3 c3).ownBlock ≠ some b6 ∧ Below base w ((w3.setCell ⟨b6, 0, none⟩ (.int .i64 px)).setCell ⟨b6, 1, none⟩ (.int .i64 py))) :=
                  ⟨by simpa using (hW3.set 0 (.int .i64 px)).set 1 (.int .i64 py), hv3, (hB3.setCell (p := ⟨b6, 0, none⟩) hl6 _).setCell (p := ⟨b6, 1, none⟩) hl6 _⟩
                have k0 : w3.cell? ⟨b6, 0, none⟩ = some (.int .i64 qx) := hW3.cell 0
                have k1 : w3.cell? ⟨b6, 1, none⟩ = some (.int .i64 qy) := hW3.cell 1
                have g1 : w3.frozen? ⟨b6, 0, none⟩ = false := hW3.frozen 0
                have g2 : w3.frozen? ⟨b6, 1, none⟩ = false := hW3.frozen 1
                obtain ⟨e90, e91, e92, e93⟩ := HS3.out
                clear hrun hG hst hWd hW3 hB3 hv3 hoS hOd hlowv hbb hal hL3
                have Hlen2 : Hid ((mk2 ++ [zx, zy]).length ≤ 5000 + 3 * (k + 1)) := by show _ ≤ _; have := Hl2.out; simp; omega
                refine wp_region_held (S := fun W => W.cell? ⟨b1, o1 + k * 2, none⟩ = some (.int .i64 px) ∧ W.cell? ⟨b1, o1 + k * 2 + 1, none⟩ = some (.int .i64 py) ∧ W.cell? ⟨b6, 0, none⟩ = some (.int .i64 qx) ∧ W.cell? ⟨b6, 1, none⟩ = some (.int .i64 qy)) (by kernel_rfl) ?_
                refine wpAnyH_take (i := 0) (oi := { dst := some 61, op := Go.Op.move (Go.Operand.tmp 5), type := 22, pos := "ref.go:59", after := #[], guard := none }) (v := ?_) rfl (by kernel_rfl) (by kernel_rfl) (by kernel_rfl) (fun _ _ _ h => h) (Or.inl ⟨by rfl, ?_⟩) (HS0.out) ?_
                rotate_left 1
                · intro w5 hSw
                  go_simp; all_goals (with_reducible rfl)
                try simp only [Act.put, List.setIfInBounds_toArray, List.set_cons_zero, List.set_cons_succ]
                refine wpAnyH_take (i := 1) (oi := { dst := some 62, op := Go.Op.move (Go.Operand.tmp 8), type := 43, pos := "ref.go:59", after := #[], guard := none }) (v := ?_) rfl (by kernel_rfl) (by kernel_rfl) (by kernel_rfl) (fun _ _ _ h => h) (Or.inl ⟨by rfl, ?_⟩) (HS0.out) ?_
                rotate_left 1
                · intro w5 hSw
                  go_simp; all_goals (with_reducible rfl)
                try simp only [Act.put, List.setIfInBounds_toArray, List.set_cons_zero, List.set_cons_succ]
                refine wpAnyH_take (i := 2) (oi := { dst := some 63, op := Go.Op.move (Go.Operand.tmp 9), type := 3, pos := "ref.go:59", after := #[], guard := none }) (v := ?_) rfl (by kernel_rfl) (by kernel_rfl) (by kernel_rfl) (fun _ _ _ h => h) (Or.inl ⟨by rfl, ?_⟩) (HS0.out) ?_
                rotate_left 1
                · intro w5 hSw
                  go_simp; all_goals (with_reducible rfl)
                try simp only [Act.put, List.setIfInBounds_toArray, List.set_cons_zero, List.set_cons_succ]
                refine wpAnyH_take (i := 3) (oi := { dst := some 64, op := Go.Op.indexAddr 43 (Go.Operand.tmp 62) (Go.Operand.tmp 63), type := 0, pos := "ref.go:59", after := #[{ on := 1, ground := Go.Ground.data }, { on := 2, ground := Go.Ground.data }], guard := none }) (v := ?_) rfl (by kernel_rfl) (by kernel_rfl) (by kernel_rfl) (fun _ _ _ h => h) (Or.inl ⟨by rfl, ?_⟩) (HS0.out) ?_
                rotate_left 1
                · intro w5 hSw
                  go_simp; all_goals (with_reducible rfl)
                try simp only [Act.put, List.setIfInBounds_toArray, List.set_cons_zero, List.set_cons_succ]
                refine wpAnyH_take (i := 4) (oi := { dst := some 65, op := Go.Op.fieldAddr 42 (Go.Operand.tmp 64) 0, type := 0, pos := "ref.go:59", after := #[{ on := 3, ground := Go.Ground.data }], guard := none }) (v := ?_) rfl (by kernel_rfl) (by kernel_rfl) (by kernel_rfl) (fun _ _ _ h => h) (Or.inl ⟨by rfl, ?_⟩) (HS0.out) ?_
                rotate_left 1
                · intro w5 hSw
                  go_simp; all_goals (with_reducible rfl)
                try simp only [Act.put, List.setIfInBounds_toArray, List.set_cons_zero, List.set_cons_succ]
                refine wpAnyH_take (i := 5) (oi := { dst := some 66, op := Go.Op.load 3 (Go.Operand.tmp 65), type := 3, pos := "ref.go:59", after := #[{ on := 4, ground := Go.Ground.data }], guard := none }) (v := ?_) rfl (by kernel_rfl) (by kernel_rfl) (by kernel_rfl) (fun _ _ _ h => h) (Or.inl ⟨by rfl, ?_⟩) (HS0.out) ?_
                rotate_left 1
                · intro w5 hSw
                  obtain ⟨d0, d1, d2, d3⟩ := hSw
                  go_simp; all_goals (with_reducible rfl)
                try simp only [Act.put, List.setIfInBounds_toArray, List.set_cons_zero, List.set_cons_succ]
                refine wpAnyH_take (i := 6) (oi := { dst := some 67, op := Go.Op.fieldAddr 42 (Go.Operand.tmp 6) 0, type := 0, pos := "ref.go:59", after := #[], guard := none }) (v := ?_) rfl (by kernel_rfl) (by kernel_rfl) (by kernel_rfl) (fun _ _ _ h => h) (Or.inl ⟨by rfl, ?_⟩) (HS0.out) ?_
                rotate_left 1
                · intro w5 hSw
                  go_simp; all_goals (with_reducible rfl)
                try simp only [Act.put, List.setIfInBounds_toArray, List.set_cons_zero, List.set_cons_succ]
                refine wpAnyH_take (i := 7) (oi := { dst := some 68, op := Go.Op.load 3 (Go.Operand.tmp 67), type := 3, pos := "ref.go:59", after := #[{ on := 6, ground := Go.Ground.data }], guard := none }) (v := ?_) rfl (by kernel_rfl) (by kernel_rfl) (by kernel_rfl) (fun _ _ _ h => h) (Or.inl ⟨by rfl, ?_⟩) (HS0.out) ?_
                rotate_left 1
                · intro w5 hSw
                  obtain ⟨d0, d1, d2, d3⟩ := hSw
                  go_simp; all_goals (with_reducible rfl)
                try simp only [Act.put, List.setIfInBounds_toArray, List.set_cons_zero, List.set_cons_succ]
                refine wpAnyH_take (i := 8) (oi := { dst := some 69, op := Go.Op.binOp Go.BinOp.sub 3 (Go.Operand.tmp 66) (Go.Operand.tmp 68) 3, type := 3, pos := "ref.go:59", after := #[{ on := 5, ground := Go.Ground.data }, { on := 7, ground := Go.Ground.data }], guard := none }) (v := ?_) rfl (by kernel_rfl) (by kernel_rfl) (by kernel_rfl) (fun _ _ _ h => h) (Or.inl ⟨by rfl, ?_⟩) (HS0.out) ?_
                rotate_left 1
                · intro w5 hSw
                  go_simp; all_goals (with_reducible rfl)
                try simp only [Act.put, List.setIfInBounds_toArray, List.set_cons_zero, List.set_cons_succ]
                refine wpAnyH_take (i := 11) (oi := { dst := some 72, op := Go.Op.move (Go.Operand.tmp 8), type := 43, pos := "ref.go:59", after := #[], guard := none }) (v := ?_) rfl (by kernel_rfl) (by kernel_rfl) (by kernel_rfl) (fun _ _ _ h => h) (Or.inl ⟨by rfl, ?_⟩) (HS0.out) ?_
                rotate_left 1
                · intro w5 hSw
                  go_simp; all_goals (with_reducible rfl)
                try simp only [Act.put, List.setIfInBounds_toArray, List.set_cons_zero, List.set_cons_succ]
                refine wpAnyH_take (i := 12) (oi := { dst := some 73, op := Go.Op.move (Go.Operand.tmp 9), type := 3, pos := "ref.go:59", after := #[], guard := none }) (v := ?_) rfl (by kernel_rfl) (by kernel_rfl) (by kernel_rfl) (fun _ _ _ h => h) (Or.inl ⟨by rfl, ?_⟩) (HS0.out) ?_
                rotate_left 1
                · intro w5 hSw
                  go_simp; all_goals (with_reducible rfl)
                try simp only [Act.put, List.setIfInBounds_toArray, List.set_cons_zero, List.set_cons_succ]
                refine wpAnyH_take (i := 13) (oi := { dst := some 74, op := Go.Op.indexAddr 43 (Go.Operand.tmp 72) (Go.Operand.tmp 73), type := 0, pos := "ref.go:59", after := #[{ on := 11, ground := Go.Ground.data }, { on := 12, ground := Go.Ground.data }], guard := none }) (v := ?_) rfl (by kernel_rfl) (by kernel_rfl) (by kernel_rfl) (fun _ _ _ h => h) (Or.inl ⟨by rfl, ?_⟩) (HS0.out) ?_
                rotate_left 1
                · intro w5 hSw
                  go_simp; all_goals (with_reducible rfl)
                try simp only [Act.put, List.setIfInBounds_toArray, List.set_cons_zero, List.set_cons_succ]
                refine wpAnyH_take (i := 14) (oi := { dst := some 75, op := Go.Op.fieldAddr 42 (Go.Operand.tmp 74) 1, type := 0, pos := "ref.go:59", after := #[{ on := 13, ground := Go.Ground.data }], guard := none }) (v := ?_) rfl (by kernel_rfl) (by kernel_rfl) (by kernel_rfl) (fun _ _ _ h => h) (Or.inl ⟨by rfl, ?_⟩) (HS0.out) ?_
                rotate_left 1
                · intro w5 hSw
                  go_simp; all_goals (with_reducible rfl)
                try simp only [Act.put, List.setIfInBounds_toArray, List.set_cons_zero, List.set_cons_succ]
                refine wpAnyH_take (i := 15) (oi := { dst := some 76, op := Go.Op.load 3 (Go.Operand.tmp 75), type := 3, pos := "ref.go:59", after := #[{ on := 14, ground := Go.Ground.data }], guard := none }) (v := ?_) rfl (by kernel_rfl) (by kernel_rfl) (by kernel_rfl) (fun _ _ _ h => h) (Or.inl ⟨by rfl, ?_⟩) (HS0.out) ?_
                rotate_left 1
                · intro w5 hSw
                  obtain ⟨d0, d1, d2, d3⟩ := hSw
                  go_simp; all_goals (with_reducible rfl)
                try simp only [Act.put, List.setIfInBounds_toArray, List.set_cons_zero, List.set_cons_succ]
                refine wpAnyH_take (i := 16) (oi := { dst := some 77, op := Go.Op.fieldAddr 42 (Go.Operand.tmp 6) 1, type := 0, pos := "ref.go:59", after := #[], guard := none }) (v := ?_) rfl (by kernel_rfl) (by kernel_rfl) (by kernel_rfl) (fun _ _ _ h => h) (Or.inl ⟨by rfl, ?_⟩) (HS0.out) ?_
                rotate_left 1
                · intro w5 hSw
                  go_simp; all_goals (with_reducible rfl)
                try simp only [Act.put, List.setIfInBounds_toArray, List.set_cons_zero, List.set_cons_succ]
                refine wpAnyH_take (i := 17) (oi := { dst := some 78, op := Go.Op.load 3 (Go.Operand.tmp 77), type := 3, pos := "ref.go:59", after := #[{ on := 16, ground := Go.Ground.data }], guard := none }) (v := ?_) rfl (by kernel_rfl) (by kernel_rfl) (by kernel_rfl) (fun _ _ _ h => h) (Or.inl ⟨by rfl, ?_⟩) (HS0.out) ?_
                rotate_left 1
                · intro w5 hSw
                  obtain ⟨d0, d1, d2, d3⟩ := hSw
                  go_simp; all_goals (with_reducible rfl)
                try simp only [Act.put, List.setIfInBounds_toArray, List.set_cons_zero, List.set_cons_succ]
                refine wpAnyH_take (i := 18) (oi := { dst := some 79, op := Go.Op.binOp Go.BinOp.sub 3 (Go.Operand.tmp 76) (Go.Operand.tmp 78) 3, type := 3, pos := "ref.go:59", after := #[{ on := 15, ground := Go.Ground.data }, { on := 17, ground := Go.Ground.data }], guard := none }) (v := ?_) rfl (by kernel_rfl) (by kernel_rfl) (by kernel_rfl) (fun _ _ _ h => h) (Or.inl ⟨by rfl, ?_⟩) (HS0.out) ?_
                rotate_left 1
                · intro w5 hSw
                  go_simp; all_goals (with_reducible rfl)
                try simp only [Act.put, List.setIfInBounds_toArray, List.set_cons_zero, List.set_cons_succ]
                refine wpAnyH_ready (rs := [9]) (by kernel_rfl) (by simp) ?_
                refine (AllReadyH.cons (o := { dst := some 70, op := Go.Op.call { callee := Go.Callee.value (Go.Operand.func 27), args := #[Go.Operand.tmp 69], argTypes := #[3] }, type := 59, pos := "ref.go:59", after := #[{ on := 8, ground := Go.Ground.data }], guard := none }) rfl (fun K hK => ?_) AllReadyH.nil)
                go_simp
                refine (HZx.out _).mono ?_; rintro e Y ⟨rfl, rfl⟩
                go_wp2_with fail
                refine hK.out _ _ (HS0.out) (fun _ => ?_)
                clear hK K
                try simp only [Act.put, List.setIfInBounds_toArray, List.set_cons_zero, List.set_cons_succ]
                refine wpAnyH_take (i := 10) (oi := { dst := some 71, op := Go.Op.convert 59 44 (Go.Operand.tmp 70), type := 44, pos := "ref.go:59", after := #[{ on := 9, ground := Go.Ground.data }], guard := none }) (v := ?_) rfl (by kernel_rfl) (by kernel_rfl) (by kernel_rfl) (fun _ _ _ h => h) (Or.inl ⟨by rfl, ?_⟩) (HS0.out) ?_
                rotate_left 1
                · intro w5 hSw
                  go_simp; all_goals (with_reducible rfl)
                try simp only [Act.put, List.setIfInBounds_toArray, List.set_cons_zero, List.set_cons_succ]
                refine wpAnyH_ready (rs := [19]) (by kernel_rfl) (by simp) ?_
                refine (AllReadyH.cons (o := { dst := some 80, op := Go.Op.call { callee := Go.Callee.value (Go.Operand.func 27), args := #[Go.Operand.tmp 79], argTypes := #[3] }, type := 59, pos := "ref.go:59", after := #[{ on := 18, ground := Go.Ground.data }, { on := 9, ground := Go.Ground.chain }], guard := none }) rfl (fun K hK => ?_) AllReadyH.nil)
                go_simp
                refine (HZy.out _).mono ?_; rintro e Y ⟨rfl, rfl⟩
                go_wp2_with fail
                refine hK.out _ _ (HS0.out) (fun _ => ?_)
                clear hK K
                try simp only [Act.put, List.setIfInBounds_toArray, List.set_cons_zero, List.set_cons_succ]
                refine wpAnyH_take (i := 20) (oi := { dst := some 81, op := Go.Op.convert 59 44 (Go.Operand.tmp 80), type := 44, pos := "ref.go:59", after := #[{ on := 19, ground := Go.Ground.data }], guard := none }) (v := ?_) rfl (by kernel_rfl) (by kernel_rfl) (by kernel_rfl) (fun _ _ _ h => h) (Or.inl ⟨by rfl, ?_⟩) (HS0.out) ?_
                rotate_left 1
                · intro w5 hSw
                  go_simp; all_goals (with_reducible rfl)
                try simp only [Act.put, List.setIfInBounds_toArray, List.set_cons_zero, List.set_cons_succ]
                refine wpAnyH_ready (rs := [21]) (by kernel_rfl) (by simp) ?_
                refine (AllReadyH.cons (o := { dst := some 82, op := Go.Op.buildSlice 22 2 #[(0, Go.Operand.tmp 71), (1, Go.Operand.tmp 81)], type := 22, pos := "ref.go:59", after := #[{ on := 10, ground := Go.Ground.data }, { on := 20, ground := Go.Ground.data }], guard := none }) rfl (fun K hK => ?_) AllReadyH.nil)
                go_simp
                refine hK.out _ _ (HS2.out) (fun _ => ?_)
                clear hK K
                try simp only [Act.put, List.setIfInBounds_toArray, List.set_cons_zero, List.set_cons_succ]
                refine wpAnyH_ready (rs := [22]) (by kernel_rfl) (by simp) ?_
                refine (AllReadyH.cons (o := { dst := some 83, op := Go.Op.call { callee := Go.Callee.builtin Go.Builtin.append, args := #[Go.Operand.tmp 61, Go.Operand.tmp 82], argTypes := #[22, 22] }, type := 22, pos := "ref.go:59", after := #[{ on := 0, ground := Go.Ground.data }, { on := 21, ground := Go.Ground.data }, { on := 19, ground := Go.Ground.chain }], guard := none }) rfl (fun K hK => ?_) AllReadyH.nil)
                refine held_app (by rfl) (.tmp 61) (.tmp 82) 22 rfl _ _ (.slice a3 L3 c3) rfl rfl (Hrun.out) ?_
                refine hK.out _ _ (HS3.out) (fun _ => ?_)
                clear hK K
                try simp only [Act.put, List.setIfInBounds_toArray, List.set_cons_zero, List.set_cons_succ]
                refine wpAnyH_take (i := 23) (oi := { dst := some 5, op := Go.Op.assign (Go.Operand.tmp 83), type := 22, pos := "ref.go:59", after := #[{ on := 22, ground := Go.Ground.data }, { on := 22, ground := Go.Ground.chain }, { on := 0, ground := Go.Ground.phase }, { on := 1, ground := Go.Ground.phase }, { on := 2, ground := Go.Ground.phase }, { on := 3, ground := Go.Ground.phase }, { on := 4, ground := Go.Ground.phase }, { on := 5, ground := Go.Ground.phase }, { on := 6, ground := Go.Ground.phase }, { on := 7, ground := Go.Ground.phase }, { on := 8, ground := Go.Ground.phase }, { on := 9, ground := Go.Ground.phase }, { on := 10, ground := Go.Ground.phase }, { on := 11, ground := Go.Ground.phase }, { on := 12, ground := Go.Ground.phase }, { on := 13, ground := Go.Ground.phase }, { on := 14, ground := Go.Ground.phase }, { on := 15, ground := Go.Ground.phase }, { on := 16, ground := Go.Ground.phase }, { on := 17, ground := Go.Ground.phase }, { on := 18, ground := Go.Ground.phase }, { on := 19, ground := Go.Ground.phase }, { on := 20, ground := Go.Ground.phase }, { on := 21, ground := Go.Ground.phase }, { on := 22, ground := Go.Ground.phase }], guard := none }) (v := ?_) rfl (by kernel_rfl) (by kernel_rfl) (by kernel_rfl) (fun _ _ _ h => h) (Or.inl ⟨by rfl, ?_⟩) (HS3.out) ?_
                rotate_left 1
                · intro w5 hSw
                  go_simp; all_goals (with_reducible rfl)
                try simp only [Act.put, List.setIfInBounds_toArray, List.set_cons_zero, List.set_cons_succ]
                refine wpAnyH_done (by kernel_rfl) ?_ _
                go_wp2_with fail
                go_roundw
                case rel => exact ⟨k + 1, mk2 ++ [zx, zy], (px, py), .slice a3 L3 c3, Hlt.out, by go_num, rfl, HOW3.out, HEND.out.1, HEND.out.2.1, HEND.out.2.2, Htot.out, Hlst.out, Hpin.out, Hlen2.out⟩
                case measure => have := Hlt.out; simp [intOf]; omega
              · have e1 : ((k : Int) == 1) = false := by simp; omega
                clear hk00 hk11
                rw [hpre, List.nil_append] at ht
                have Ht9 := Lib.hid ht
                clear ht hpre
                go_upto_region 16 with (fail)
                obtain ⟨mk2, hmk2⟩ : ∃ z, z = mj := ⟨_, rfl⟩
                obtain ⟨W1, hW1⟩ : ∃ z, z = wr := ⟨_, rfl⟩
                obtain ⟨v5, hv5⟩ : ∃ z, z = v2 := ⟨_, rfl⟩
                have HO1 : Hid (Own32 W1 base v5 mk2) := by rw [hW1, hv5, hmk2]; exact HO.out
                have HWB : Hid (Whole W1 b6 42 #[.int .i64 qx, .int .i64 qy]) := by rw [hW1]; exact HWj.out
                have HB1 : Hid (Below base w W1) := by rw [hW1]; exact HBj.out
                have Hv6 : Hid (v5.ownBlock ≠ some b6) := by rw [hv5]; exact HVj.out
                have Htot : Hid ((mk2 ++ [zx, zy]) ++ remE kind l0 (k + 1) (px, py) = T0) := by show _ = _; rw [← Ht9.out, hmk2]; simp
                have Hl2 : Hid (mk2.length ≤ 5001 + 3 * k) := by show _ ≤ _; have := Hlj.out; rw [hmk2]; omega
                rw [← hW1, ← hv5]
                clear hmk2 hW1 hv5
                obtain ⟨b1, o1, rfl, hb1, p0, p1⟩ := (HPt.out.below HB1.out).at k hkl
                rw [hpk] at p0 p1
                simp only at p0 p1
                have q0 : W1.cell? ⟨b6, 0, none⟩ = some (.int .i64 qx) := HWB.out.cell 0
                have q1 : W1.cell? ⟨b6, 1, none⟩ = some (.int .i64 qy) := HWB.out.cell 1
                have HS0 : Hid (W1.drew.cell? ⟨b1, o1 + k * 2, none⟩ = some (.int .i64 px) ∧ W1.drew.cell? ⟨b1, o1 + k * 2 + 1, none⟩ = some (.int .i64 py) ∧ W1.drew.cell? ⟨b6, 0, none⟩ = some (.int .i64 qx) ∧ W1.drew.cell? ⟨b6, 1, none⟩ = some (.int .i64 qy)) := ⟨p0, p1, q0, q1⟩
                have hBd : base ≤ W1.drew.heap.size := by have h8 := HB1.out.size; have h9 := Hbase.out; show base ≤ W1.heap.size; omega
                have hb1l : b1 < W1.drew.heap.size := Nat.lt_of_lt_of_le hb1 hBd
                have hal : Below W1.drew.heap.size W1.drew (W1.drew.alloc (.cells #[.int .u32 (zx : Int), .int .u32 (zy : Int)] 44)) := (Below.refl _ _).alloc (Nat.le_refl _) _
                have HS2 : Hid ((W1.drew.alloc (.cells #[.int .u32 (zx : Int), .int .u32 (zy : Int)] 44)).cell? ⟨b1, o1 + k * 2, none⟩ = some (.int .i64 px) ∧ (W1.drew.alloc (.cells #[.int .u32 (zx : Int), .int .u32 (zy : Int)] 44)).cell? ⟨b1, o1 + k * 2 + 1, none⟩ = some (.int .i64 py) ∧ (W1.drew.alloc (.cells #[.int .u32 (zx : Int), .int .u32 (zy : Int)] 44)).cell? ⟨b6, 0, none⟩ = some (.int .i64 qx) ∧ (W1.drew.alloc (.cells #[.int .u32 (zx : Int), .int .u32 (zy : Int)] 44)).cell? ⟨b6, 1, none⟩ = some (.int .i64 qy)) := ⟨(hal.cell (p := ⟨b1, o1 + k * 2, none⟩) hb1l).trans p0, (hal.cell (p := ⟨b1, o1 + k * 2 + 1, none⟩) hb1l).trans p1, (hal.cell (p := ⟨b6, 0, none⟩) HWB.out.lt).trans q0, (hal.cell (p := ⟨b6, 1, none⟩) HWB.out.lt).trans q1⟩
                have hOd : Own32 W1.drew base v5 mk2 := HO1.out
                obtain ⟨v3, w3, hrun, hG⟩ := app_two base v5 mk2 zx zy 2 hOd (by have := Hl2.out; omega) hBd
                obtain ⟨a3, c3, rfl, _, _, _, _⟩ := hG.own.nums
                obtain ⟨L3, hL3⟩ : ∃ L, (mk2 ++ [zx, zy] : List Nat).length = L := ⟨_, rfl⟩
                rw [hL3] at hrun hG
                have hlowv : ∀ b, v5.ownBlock = some b → base ≤ b := fun b hb => (hOd.lt b hb).1
                have hbb : b1 < base := hb1
                have HS3 : Hid (w3.cell? ⟨b1, o1 + k * 2, none⟩ = some (.int .i64 px) ∧ w3.cell? ⟨b1, o1 + k * 2 + 1, none⟩ = some (.int .i64 py) ∧ w3.cell? ⟨b6, 0, none⟩ = some (.int .i64 qx) ∧ w3.cell? ⟨b6, 1, none⟩ = some (.int .i64 qy)) := by
                  have e1 : ∀ j, w3.cell? ⟨b1, j, none⟩ = W1.drew.cell? ⟨b1, j, none⟩ := fun j => hG.only.cell (p := ⟨b1, j, none⟩) hb1l (fun e => by have := hlowv b1 e; omega)
                  have e2 : ∀ j, w3.cell? ⟨b6, j, none⟩ = W1.drew.cell? ⟨b6, j, none⟩ := fun j => hG.only.cell (p := ⟨b6, j, none⟩) HWB.out.lt (fun e => Hv6.out e)
                  exact ⟨(e1 _).trans p0, (e1 _).trans p1, (e2 _).trans q0, (e2 _).trans q1⟩
                have Hrun := Lib.hid hrun
                have hst : ∃ z, z = (w3.setCell ⟨b6, 0, none⟩ (.int .i64 px)).setCell ⟨b6, 1, none⟩ (.int .i64 py) := ⟨_, rfl⟩
                have hWd : Whole W1.drew b6 42 #[.int .i64 qx, .int .i64 qy] := HWB.out
                have hW3 : Whole w3 b6 42 #[.int .i64 qx, .int .i64 qy] := hWd.only hG.only (fun e => Hv6.out e)
                have hB3 : Below base w w3 := (show Below base w W1.drew from ⟨HB1.out.os, HB1.out.tape, HB1.out.output, HB1.out.size, HB1.out.block⟩).trans (hG.below hOd hBd)
                have hv3 : (Value.slice a3 L3 c3).ownBlock ≠ some b6 := fun e => by
                  rcases hG.at_ with e1 | ⟨i, e1, hi⟩
                  · rw [e1] at e; exact Hv6.out e
                  · rw [e1] at e; injection e with e; have := hWd.lt; omega
                have hoS : Only (fun b => b = b6) w3 ((w3.setCell ⟨b6, 0, none⟩ (.int .i64 px)).setCell ⟨b6, 1, none⟩ (.int .i64 py)) := Only.setCell (S := fun b => b = b6) (Only.setCell (S := fun b => b = b6) (Only.refl _ _) (p := ⟨b6, 0, none⟩) (fun _ => rfl) _) (p := ⟨b6, 1, none⟩) (fun _ => rfl) _
                have HOW3 := Lib.hid (hG.own.only hoS (fun b hb e => hv3 (by rw [hb, e])))
                have HEND : Hid (Whole ((w3.setCell ⟨b6, 0, none⟩ (.int .i64 px)).setCell ⟨b6, 1, none⟩ (.int .i64 py)) b6 42 #[.int .i64 px, .int .i64 py] ∧ (Value.slice a3 L3 c3).ownBlock ≠ some b6 ∧ Below base w ((w3.setCell ⟨b6, 0, none⟩ (.int .i64 px)).setCell ⟨b6, 1, none⟩ (.int .i64 py))) :=
                  ⟨by simpa using (hW3.set 0 (.int .i64 px)).set 1 (.int .i64 py), hv3, (hB3.setCell (p := ⟨b6, 0, none⟩) hl6 _).setCell (p := ⟨b6, 1, none⟩) hl6 _⟩
                have k0 : w3.cell? ⟨b6, 0, none⟩ = some (.int .i64 qx) := hW3.cell 0
                have k1 : w3.cell? ⟨b6, 1, none⟩ = some (.int .i64 qy) := hW3.cell 1
                have g1 : w3.frozen? ⟨b6, 0, none⟩ = false := hW3.frozen 0
                have g2 : w3.frozen? ⟨b6, 1, none⟩ = false := hW3.frozen 1
                obtain ⟨e90, e91, e92, e93⟩ := HS3.out
                clear hrun hG hst hWd hW3 hB3 hv3 hoS hOd hlowv hbb hal hL3
                have Hlen2 : Hid ((mk2 ++ [zx, zy]).length ≤ 5000 + 3 * (k + 1)) := by show _ ≤ _; have := Hl2.out; simp; omega
                refine wp_region_held (S := fun W => W.cell? ⟨b1, o1 + k * 2, none⟩ = some (.int .i64 px) ∧ W.cell? ⟨b1, o1 + k * 2 + 1, none⟩ = some (.int .i64 py) ∧ W.cell? ⟨b6, 0, none⟩ = some (.int .i64 qx) ∧ W.cell? ⟨b6, 1, none⟩ = some (.int .i64 qy)) (by kernel_rfl) ?_
                refine wpAnyH_take (i := 0) (oi := { dst := some 61, op := Go.Op.move (Go.Operand.tmp 5), type := 22, pos := "ref.go:59", after := #[], guard := none }) (v := ?_) rfl (by kernel_rfl) (by kernel_rfl) (by kernel_rfl) (fun _ _ _ h => h) (Or.inl ⟨by rfl, ?_⟩) (HS0.out) ?_
                rotate_left 1
                · intro w5 hSw
                  go_simp; all_goals (with_reducible rfl)
                try simp only [Act.put, List.setIfInBounds_toArray, List.set_cons_zero, List.set_cons_succ]
                refine wpAnyH_take (i := 1) (oi := { dst := some 62, op := Go.Op.move (Go.Operand.tmp 8), type := 43, pos := "ref.go:59", after := #[], guard := none }) (v := ?_) rfl (by kernel_rfl) (by kernel_rfl) (by kernel_rfl) (fun _ _ _ h => h) (Or.inl ⟨by rfl, ?_⟩) (HS0.out) ?_
                rotate_left 1
                · intro w5 hSw
                  go_simp; all_goals (with_reducible rfl)
                try simp only [Act.put, List.setIfInBounds_toArray, List.set_cons_zero, List.set_cons_succ]
                refine wpAnyH_take (i := 2) (oi := { dst := some 63, op := Go.Op.move (Go.Operand.tmp 9), type := 3, pos := "ref.go:59", after := #[], guard := none }) (v := ?_) rfl (by kernel_rfl) (by kernel_rfl) (by kernel_rfl) (fun _ _ _ h => h) (Or.inl ⟨by rfl, ?_⟩) (HS0.out) ?_
                rotate_left 1
                · intro w5 hSw
                  go_simp; all_goals (with_reducible rfl)
                try simp only [Act.put, List.setIfInBounds_toArray, List.set_cons_zero, List.set_cons_succ]
                refine wpAnyH_take (i := 3) (oi := { dst := some 64, op := Go.Op.indexAddr 43 (Go.Operand.tmp 62) (Go.Operand.tmp 63), type := 0, pos := "ref.go:59", after := #[{ on := 1, ground := Go.Ground.data }, { on := 2, ground := Go.Ground.data }], guard := none }) (v := ?_) rfl (by kernel_rfl) (by kernel_rfl) (by kernel_rfl) (fun _ _ _ h => h) (Or.inl ⟨by rfl, ?_⟩) (HS0.out) ?_
                rotate_left 1
                · intro w5 hSw
                  go_simp; all_goals (with_reducible rfl)
                try simp only [Act.put, List.setIfInBounds_toArray, List.set_cons_zero, List.set_cons_succ]
                refine wpAnyH_take (i := 4) (oi := { dst := some 65, op := Go.Op.fieldAddr 42 (Go.Operand.tmp 64) 0, type := 0, pos := "ref.go:59", after := #[{ on := 3, ground := Go.Ground.data }], guard := none }) (v := ?_) rfl (by kernel_rfl) (by kernel_rfl) (by kernel_rfl) (fun _ _ _ h => h) (Or.inl ⟨by rfl, ?_⟩) (HS0.out) ?_
                rotate_left 1
                · intro w5 hSw
                  go_simp; all_goals (with_reducible rfl)
                try simp only [Act.put, List.setIfInBounds_toArray, List.set_cons_zero, List.set_cons_succ]
                refine wpAnyH_take (i := 5) (oi := { dst := some 66, op := Go.Op.load 3 (Go.Operand.tmp 65), type := 3, pos := "ref.go:59", after := #[{ on := 4, ground := Go.Ground.data }], guard := none }) (v := ?_) rfl (by kernel_rfl) (by kernel_rfl) (by kernel_rfl) (fun _ _ _ h => h) (Or.inl ⟨by rfl, ?_⟩) (HS0.out) ?_
                rotate_left 1
                · intro w5 hSw
                  obtain ⟨d0, d1, d2, d3⟩ := hSw
                  go_simp; all_goals (with_reducible rfl)
                try simp only [Act.put, List.setIfInBounds_toArray, List.set_cons_zero, List.set_cons_succ]
                refine wpAnyH_take (i := 6) (oi := { dst := some 67, op := Go.Op.fieldAddr 42 (Go.Operand.tmp 6) 0, type := 0, pos := "ref.go:59", after := #[], guard := none }) (v := ?_) rfl (by kernel_rfl) (by kernel_rfl) (by kernel_rfl) (fun _ _ _ h => h) (Or.inl ⟨by rfl, ?_⟩) (HS0.out) ?_
                rotate_left 1
                · intro w5 hSw
                  go_simp; all_goals (with_reducible rfl)
                try simp only [Act.put, List.setIfInBounds_toArray, List.set_cons_zero, List.set_cons_succ]
                refine wpAnyH_take (i := 7) (oi := { dst := some 68, op := Go.Op.load 3 (Go.Operand.tmp 67), type := 3, pos := "ref.go:59", after := #[{ on := 6, ground := Go.Ground.data }], guard := none }) (v := ?_) rfl (by kernel_rfl) (by kernel_rfl) (by kernel_rfl) (fun _ _ _ h => h) (Or.inl ⟨by rfl, ?_⟩) (HS0.out) ?_
                rotate_left 1
                · intro w5 hSw
                  obtain ⟨d0, d1, d2, d3⟩ := hSw
                  go_simp; all_goals (with_reducible rfl)
                try simp only [Act.put, List.setIfInBounds_toArray, List.set_cons_zero, List.set_cons_succ]
                refine wpAnyH_take (i := 8) (oi := { dst := some 69, op := Go.Op.binOp Go.BinOp.sub 3 (Go.Operand.tmp 66) (Go.Operand.tmp 68) 3, type := 3, pos := "ref.go:59", after := #[{ on := 5, ground := Go.Ground.data }, { on := 7, ground := Go.Ground.data }], guard := none }) (v := ?_) rfl (by kernel_rfl) (by kernel_rfl) (by kernel_rfl) (fun _ _ _ h => h) (Or.inl ⟨by rfl, ?_⟩) (HS0.out) ?_
                rotate_left 1
                · intro w5 hSw
                  go_simp; all_goals (with_reducible rfl)
                try simp only [Act.put, List.setIfInBounds_toArray, List.set_cons_zero, List.set_cons_succ]
                refine wpAnyH_take (i := 11) (oi := { dst := some 72, op := Go.Op.move (Go.Operand.tmp 8), type := 43, pos := "ref.go:59", after := #[], guard := none }) (v := ?_) rfl (by kernel_rfl) (by kernel_rfl) (by kernel_rfl) (fun _ _ _ h => h) (Or.inl ⟨by rfl, ?_⟩) (HS0.out) ?_
                rotate_left 1
                · intro w5 hSw
                  go_simp; all_goals (with_reducible rfl)
                try simp only [Act.put, List.setIfInBounds_toArray, List.set_cons_zero, List.set_cons_succ]
                refine wpAnyH_take (i := 12) (oi := { dst := some 73, op := Go.Op.move (Go.Operand.tmp 9), type := 3, pos := "ref.go:59", after := #[], guard := none }) (v := ?_) rfl (by kernel_rfl) (by kernel_rfl) (by kernel_rfl) (fun _ _ _ h => h) (Or.inl ⟨by rfl, ?_⟩) (HS0.out) ?_
                rotate_left 1
                · intro w5 hSw
                  go_simp; all_goals (with_reducible rfl)
                try simp only [Act.put, List.setIfInBounds_toArray, List.set_cons_zero, List.set_cons_succ]
                refine wpAnyH_take (i := 13) (oi := { dst := some 74, op := Go.Op.indexAddr 43 (Go.Operand.tmp 72) (Go.Operand.tmp 73), type := 0, pos := "ref.go:59", after := #[{ on := 11, ground := Go.Ground.data }, { on := 12, ground := Go.Ground.data }], guard := none }) (v := ?_) rfl (by kernel_rfl) (by kernel_rfl) (by kernel_rfl) (fun _ _ _ h => h) (Or.inl ⟨by rfl, ?_⟩) (HS0.out) ?_
                rotate_left 1
                · intro w5 hSw
                  go_simp; all_goals (with_reducible rfl)
                try simp only [Act.put, List.setIfInBounds_toArray, List.set_cons_zero, List.set_cons_succ]
                refine wpAnyH_take (i := 14) (oi := { dst := some 75, op := Go.Op.fieldAddr 42 (Go.Operand.tmp 74) 1, type := 0, pos := "ref.go:59", after := #[{ on := 13, ground := Go.Ground.data }], guard := none }) (v := ?_) rfl (by kernel_rfl) (by kernel_rfl) (by kernel_rfl) (fun _ _ _ h => h) (Or.inl ⟨by rfl, ?_⟩) (HS0.out) ?_
                rotate_left 1
                · intro w5 hSw
                  go_simp; all_goals (with_reducible rfl)
                try simp only [Act.put, List.setIfInBounds_toArray, List.set_cons_zero, List.set_cons_succ]
                refine wpAnyH_take (i := 15) (oi := { dst := some 76, op := Go.Op.load 3 (Go.Operand.tmp 75), type := 3, pos := "ref.go:59", after := #[{ on := 14, ground := Go.Ground.data }], guard := none }) (v := ?_) rfl (by kernel_rfl) (by kernel_rfl) (by kernel_rfl) (fun _ _ _ h => h) (Or.inl ⟨by rfl, ?_⟩) (HS0.out) ?_
                rotate_left 1
                · intro w5 hSw
                  obtain ⟨d0, d1, d2, d3⟩ := hSw
                  go_simp; all_goals (with_reducible rfl)
                try simp only [Act.put, List.setIfInBounds_toArray, List.set_cons_zero, List.set_cons_succ]
                refine wpAnyH_take (i := 16) (oi := { dst := some 77, op := Go.Op.fieldAddr 42 (Go.Operand.tmp 6) 1, type := 0, pos := "ref.go:59", after := #[], guard := none }) (v := ?_) rfl (by kernel_rfl) (by kernel_rfl) (by kernel_rfl) (fun _ _ _ h => h) (Or.inl ⟨by rfl, ?_⟩) (HS0.out) ?_
                rotate_left 1
                · intro w5 hSw
                  go_simp; all_goals (with_reducible rfl)
                try simp only [Act.put, List.setIfInBounds_toArray, List.set_cons_zero, List.set_cons_succ]
                refine wpAnyH_take (i := 17) (oi := { dst := some 78, op := Go.Op.load 3 (Go.Operand.tmp 77), type := 3, pos := "ref.go:59", after := #[{ on := 16, ground := Go.Ground.data }], guard := none }) (v := ?_) rfl (by kernel_rfl) (by kernel_rfl) (by kernel_rfl) (fun _ _ _ h => h) (Or.inl ⟨by rfl, ?_⟩) (HS0.out) ?_
                rotate_left 1
                · intro w5 hSw
                  obtain ⟨d0, d1, d2, d3⟩ := hSw
                  go_simp; all_goals (with_reducible rfl)
                try simp only [Act.put, List.setIfInBounds_toArray, List.set_cons_zero, List.set_cons_succ]
                refine wpAnyH_take (i := 18) (oi := { dst := some 79, op := Go.Op.binOp Go.BinOp.sub 3 (Go.Operand.tmp 76) (Go.Operand.tmp 78) 3, type := 3, pos := "ref.go:59", after := #[{ on := 15, ground := Go.Ground.data }, { on := 17, ground := Go.Ground.data }], guard := none }) (v := ?_) rfl (by kernel_rfl) (by kernel_rfl) (by kernel_rfl) (fun _ _ _ h => h) (Or.inl ⟨by rfl, ?_⟩) (HS0.out) ?_
                rotate_left 1
                · intro w5 hSw
                  go_simp; all_goals (with_reducible rfl)
                try simp only [Act.put, List.setIfInBounds_toArray, List.set_cons_zero, List.set_cons_succ]
                refine wpAnyH_ready (rs := [9]) (by kernel_rfl) (by simp) ?_
                refine (AllReadyH.cons (o := { dst := some 70, op := Go.Op.call { callee := Go.Callee.value (Go.Operand.func 27), args := #[Go.Operand.tmp 69], argTypes := #[3] }, type := 59, pos := "ref.go:59", after := #[{ on := 8, ground := Go.Ground.data }], guard := none }) rfl (fun K hK => ?_) AllReadyH.nil)
                go_simp
                refine (HZx.out _).mono ?_; rintro e Y ⟨rfl, rfl⟩
                go_wp2_with fail
                refine hK.out _ _ (HS0.out) (fun _ => ?_)
                clear hK K
                try simp only [Act.put, List.setIfInBounds_toArray, List.set_cons_zero, List.set_cons_succ]
                refine wpAnyH_take (i := 10) (oi := { dst := some 71, op := Go.Op.convert 59 44 (Go.Operand.tmp 70), type := 44, pos := "ref.go:59", after := #[{ on := 9, ground := Go.Ground.data }], guard := none }) (v := ?_) rfl (by kernel_rfl) (by kernel_rfl) (by kernel_rfl) (fun _ _ _ h => h) (Or.inl ⟨by rfl, ?_⟩) (HS0.out) ?_
                rotate_left 1
                · intro w5 hSw
                  go_simp; all_goals (with_reducible rfl)
                try simp only [Act.put, List.setIfInBounds_toArray, List.set_cons_zero, List.set_cons_succ]
                refine wpAnyH_ready (rs := [19]) (by kernel_rfl) (by simp) ?_
                refine (AllReadyH.cons (o := { dst := some 80, op := Go.Op.call { callee := Go.Callee.value (Go.Operand.func 27), args := #[Go.Operand.tmp 79], argTypes := #[3] }, type := 59, pos := "ref.go:59", after := #[{ on := 18, ground := Go.Ground.data }, { on := 9, ground := Go.Ground.chain }], guard := none }) rfl (fun K hK => ?_) AllReadyH.nil)
                go_simp
                refine (HZy.out _).mono ?_; rintro e Y ⟨rfl, rfl⟩
                go_wp2_with fail
                refine hK.out _ _ (HS0.out) (fun _ => ?_)
                clear hK K
                try simp only [Act.put, List.setIfInBounds_toArray, List.set_cons_zero, List.set_cons_succ]
                refine wpAnyH_take (i := 20) (oi := { dst := some 81, op := Go.Op.convert 59 44 (Go.Operand.tmp 80), type := 44, pos := "ref.go:59", after := #[{ on := 19, ground := Go.Ground.data }], guard := none }) (v := ?_) rfl (by kernel_rfl) (by kernel_rfl) (by kernel_rfl) (fun _ _ _ h => h) (Or.inl ⟨by rfl, ?_⟩) (HS0.out) ?_
                rotate_left 1
                · intro w5 hSw
                  go_simp; all_goals (with_reducible rfl)
                try simp only [Act.put, List.setIfInBounds_toArray, List.set_cons_zero, List.set_cons_succ]
                refine wpAnyH_ready (rs := [21]) (by kernel_rfl) (by simp) ?_
                refine (AllReadyH.cons (o := { dst := some 82, op := Go.Op.buildSlice 22 2 #[(0, Go.Operand.tmp 71), (1, Go.Operand.tmp 81)], type := 22, pos := "ref.go:59", after := #[{ on := 10, ground := Go.Ground.data }, { on := 20, ground := Go.Ground.data }], guard := none }) rfl (fun K hK => ?_) AllReadyH.nil)
                go_simp
                refine hK.out _ _ (HS2.out) (fun _ => ?_)
                clear hK K
                try simp only [Act.put, List.setIfInBounds_toArray, List.set_cons_zero, List.set_cons_succ]
                refine wpAnyH_ready (rs := [22]) (by kernel_rfl) (by simp) ?_
                refine (AllReadyH.cons (o := { dst := some 83, op := Go.Op.call { callee := Go.Callee.builtin Go.Builtin.append, args := #[Go.Operand.tmp 61, Go.Operand.tmp 82], argTypes := #[22, 22] }, type := 22, pos := "ref.go:59", after := #[{ on := 0, ground := Go.Ground.data }, { on := 21, ground := Go.Ground.data }, { on := 19, ground := Go.Ground.chain }], guard := none }) rfl (fun K hK => ?_) AllReadyH.nil)
                refine held_app (by rfl) (.tmp 61) (.tmp 82) 22 rfl _ _ (.slice a3 L3 c3) rfl rfl (Hrun.out) ?_
                refine hK.out _ _ (HS3.out) (fun _ => ?_)
                clear hK K
                try simp only [Act.put, List.setIfInBounds_toArray, List.set_cons_zero, List.set_cons_succ]
                refine wpAnyH_take (i := 23) (oi := { dst := some 5, op := Go.Op.assign (Go.Operand.tmp 83), type := 22, pos := "ref.go:59", after := #[{ on := 22, ground := Go.Ground.data }, { on := 22, ground := Go.Ground.chain }, { on := 0, ground := Go.Ground.phase }, { on := 1, ground := Go.Ground.phase }, { on := 2, ground := Go.Ground.phase }, { on := 3, ground := Go.Ground.phase }, { on := 4, ground := Go.Ground.phase }, { on := 5, ground := Go.Ground.phase }, { on := 6, ground := Go.Ground.phase }, { on := 7, ground := Go.Ground.phase }, { on := 8, ground := Go.Ground.phase }, { on := 9, ground := Go.Ground.phase }, { on := 10, ground := Go.Ground.phase }, { on := 11, ground := Go.Ground.phase }, { on := 12, ground := Go.Ground.phase }, { on := 13, ground := Go.Ground.phase }, { on := 14, ground := Go.Ground.phase }, { on := 15, ground := Go.Ground.phase }, { on := 16, ground := Go.Ground.phase }, { on := 17, ground := Go.Ground.phase }, { on := 18, ground := Go.Ground.phase }, { on := 19, ground := Go.Ground.phase }, { on := 20, ground := Go.Ground.phase }, { on := 21, ground := Go.Ground.phase }, { on := 22, ground := Go.Ground.phase }], guard := none }) (v := ?_) rfl (by kernel_rfl) (by kernel_rfl) (by kernel_rfl) (fun _ _ _ h => h) (Or.inl ⟨by rfl, ?_⟩) (HS3.out) ?_
                rotate_left 1
                · intro w5 hSw
                  go_simp; all_goals (with_reducible rfl)
                try simp only [Act.put, List.setIfInBounds_toArray, List.set_cons_zero, List.set_cons_succ]
                refine wpAnyH_done (by kernel_rfl) ?_ _
                go_wp2_with fail
                go_roundw
                case rel => exact ⟨k + 1, mk2 ++ [zx, zy], (px, py), .slice a3 L3 c3, Hlt.out, by go_num, rfl, HOW3.out, HEND.out.1, HEND.out.2.1, HEND.out.2.2, Htot.out, Hlst.out, Hpin.out, Hlen2.out⟩
                case measure => have := Hlt.out; simp [intOf]; omega
            · have dK : (K == 1) = false := by have := HKk.out.1; simp; omega
              have dKn : (K != 1) = true := by have := HKk.out.1; simp; omega
              by_cases hk11 : k = 1
              · have e1 : ((k : Int) == 1) = true := by simp [hk11]
                have Hkind : Hid (k = 1 ∧ ¬ kind = 1) := ⟨hk11, hkd⟩
                clear hk00 hkd hk11
                obtain ⟨n1, hn1⟩ : ∃ n, n = 8 * (m - 1) + 2 := ⟨_, rfl⟩
                have hnI : 8 * ((m : Int) - 1) + 2 = (n1 : Int) := by omega
                have hpre : preE kind m k = [n1] := by rw [hn1]; simp [preE, Hkind.out]
                rw [hpre] at ht
                have hown : wr.ownsRow base 44 1 v2 mj.length (u32s mj) := HO.out
                have hBr : base ≤ wr.heap.size := by have := HBj.out.size; have := Hbase.out; omega
                have hlj : mj.length ≤ 9000 := by have := Hlj.out; have := Hq1.out; omega
                have Hn1 := Lib.hid hn1
                have Ht9 := Lib.hid ht
                clear hn1 hpre ht
                go_wp2_with (at_builtin; refine app_one rfl (.tmp 52) (.tmp 59) 22 rfl base 44 i0 _ 4 Try.underlying22 hi0 hz0 hz1 hz2 rfl v2 _ _ rfl hown (.int .u32 (n1 : Int)) 1 rfl rfl (by unfold maxLen; omega) (by omega) hBr ?_)
                intro v5 W1 h2 h3 h5
                have hG5 : Gone32 wr base v2 (mj ++ [n1]) v5 W1 := Gone32.grown h2 (by simp) (by simp [u32s]) h3 h5
                have HO1 := Lib.hid hG5.own
                have HWB := Lib.hid (HWj.out.only hG5.only (fun e => HVj.out e))
                have HB1 := Lib.hid (HBj.out.trans (hG5.below HO.out hBr))
                have Hv6 := Lib.hid (show v5.ownBlock ≠ some b6 from fun e => by
                  rcases hG5.at_ with e1 | ⟨j, e1, hj⟩
                  · rw [e1] at e; exact HVj.out e
                  · rw [e1] at e; injection e with e; have := HWj.out.lt; omega)
                obtain ⟨mk2, hmk2⟩ : ∃ z, z = mj ++ [n1] := ⟨_, rfl⟩
                rw [← hmk2] at HO1
                have Htot : Hid ((mk2 ++ [zx, zy]) ++ remE kind l0 (k + 1) (px, py) = T0) := by show _ = _; rw [← Ht9.out, hmk2]; simp
                have Hl2 : Hid (mk2.length ≤ 5001 + 3 * k) := by show _ ≤ _; have := Hlj.out; rw [hmk2]; simp; omega
                obtain ⟨v2', hv2'⟩ : ∃ z, z = v5 := ⟨_, rfl⟩
                clear h2 h3 h5 hG5 hown hmk2
                go_upto_region 16 with (fail)
                obtain ⟨b1, o1, rfl, hb1, p0, p1⟩ := (HPt.out.below HB1.out).at k hkl
                rw [hpk] at p0 p1
                simp only at p0 p1
                have q0 : W1.cell? ⟨b6, 0, none⟩ = some (.int .i64 qx) := HWB.out.cell 0
                have q1 : W1.cell? ⟨b6, 1, none⟩ = some (.int .i64 qy) := HWB.out.cell 1
                have HS0 : Hid (W1.drew.cell? ⟨b1, o1 + k * 2, none⟩ = some (.int .i64 px) ∧ W1.drew.cell? ⟨b1, o1 + k * 2 + 1, none⟩ = some (.int .i64 py) ∧ W1.drew.cell? ⟨b6, 0, none⟩ = some (.int .i64 qx) ∧ W1.drew.cell? ⟨b6, 1, none⟩ = some (.int .i64 qy)) := ⟨p0, p1, q0, q1⟩
                have hBd : base ≤ W1.drew.heap.size := by have h8 := HB1.out.size; have h9 := Hbase.out; show base ≤ W1.heap.size; omega
                have hb1l : b1 < W1.drew.heap.size := Nat.lt_of_lt_of_le hb1 hBd
                have hal : Below W1.drew.heap.size W1.drew (W1.drew.alloc (.cells #[.int .u32 (zx : Int), .int .u32 (zy : Int)] 44)) := (Below.refl _ _).alloc (Nat.le_refl _) _
                have HS2 : Hid ((W1.drew.alloc (.cells #[.int .u32 (zx : Int), .int .u32 (zy : Int)] 44)).cell? ⟨b1, o1 + k * 2, none⟩ = some (.int .i64 px) ∧ (W1.drew.alloc (.cells #[.int .u32 (zx : Int), .int .u32 (zy : Int)] 44)).cell? ⟨b1, o1 + k * 2 + 1, none⟩ = some (.int .i64 py) ∧ (W1.drew.alloc (.cells #[.int .u32 (zx : Int), .int .u32 (zy : Int)] 44)).cell? ⟨b6, 0, none⟩ = some (.int .i64 qx) ∧ (W1.drew.alloc (.cells #[.int .u32 (zx : Int), .int .u32 (zy : Int)] 44)).cell? ⟨b6, 1, none⟩ = some (.int .i64 qy)) := ⟨(hal.cell (p := ⟨b1, o1 + k * 2, none⟩) hb1l).trans p0, (hal.cell (p := ⟨b1, o1 + k * 2 + 1, none⟩) hb1l).trans p1, (hal.cell (p := ⟨b6, 0, none⟩) HWB.out.lt).trans q0, (hal.cell (p := ⟨b6, 1, none⟩) HWB.out.lt).trans q1⟩
                have hOd : Own32 W1.drew base v5 mk2 := HO1.out
                obtain ⟨v3, w3, hrun, hG⟩ := app_two base v5 mk2 zx zy 2 hOd (by have := Hl2.out; omega) hBd
                obtain ⟨a3, c3, rfl, _, _, _, _⟩ := hG.own.nums
                obtain ⟨L3, hL3⟩ : ∃ L, (mk2 ++ [zx, zy] : List Nat).length = L := ⟨_, rfl⟩
                rw [hL3] at hrun hG
                have hlowv : ∀ b, v5.ownBlock = some b → base ≤ b := fun b hb => (hOd.lt b hb).1
                have hbb : b1 < base := hb1
                have HS3 : Hid (w3.cell? ⟨b1, o1 + k * 2, none⟩ = some (.int .i64 px) ∧ w3.cell? ⟨b1, o1 + k * 2 + 1, none⟩ = some (.int .i64 py) ∧ w3.cell? ⟨b6, 0, none⟩ = some (.int .i64 qx) ∧ w3.cell? ⟨b6, 1, none⟩ = some (.int .i64 qy)) := by
                  have e1 : ∀ j, w3.cell? ⟨b1, j, none⟩ = W1.drew.cell? ⟨b1, j, none⟩ := fun j => hG.only.cell (p := ⟨b1, j, none⟩) hb1l (fun e => by have := hlowv b1 e; omega)
                  have e2 : ∀ j, w3.cell? ⟨b6, j, none⟩ = W1.drew.cell? ⟨b6, j, none⟩ := fun j => hG.only.cell (p := ⟨b6, j, none⟩) HWB.out.lt (fun e => Hv6.out e)
                  exact ⟨(e1 _).trans p0, (e1 _).trans p1, (e2 _).trans q0, (e2 _).trans q1⟩
                have Hrun := Lib.hid hrun
                have hst : ∃ z, z = (w3.setCell ⟨b6, 0, none⟩ (.int .i64 px)).setCell ⟨b6, 1, none⟩ (.int .i64 py) := ⟨_, rfl⟩
                have hWd : Whole W1.drew b6 42 #[.int .i64 qx, .int .i64 qy] := HWB.out
                have hW3 : Whole w3 b6 42 #[.int .i64 qx, .int .i64 qy] := hWd.only hG.only (fun e => Hv6.out e)
                have hB3 : Below base w w3 := (show Below base w W1.drew from ⟨HB1.out.os, HB1.out.tape, HB1.out.output, HB1.out.size, HB1.out.block⟩).trans (hG.below hOd hBd)
                have hv3 : (Value.slice a3 L3 c3).ownBlock ≠ some b6 := fun e => by
                  rcases hG.at_ with e1 | ⟨i, e1, hi⟩
                  · rw [e1] at e; exact Hv6.out e
                  · rw [e1] at e; injection e with e; have := hWd.lt; omega
                have hoS : Only (fun b => b = b6) w3 ((w3.setCell ⟨b6, 0, none⟩ (.int .i64 px)).setCell ⟨b6, 1, none⟩ (.int .i64 py)) := Only.setCell (S := fun b => b = b6) (Only.setCell (S := fun b => b = b6) (Only.refl _ _) (p := ⟨b6, 0, none⟩) (fun _ => rfl) _) (p := ⟨b6, 1, none⟩) (fun _ => rfl) _
                have HOW3 := Lib.hid (hG.own.only hoS (fun b hb e => hv3 (by rw [hb, e])))
                have HEND : Hid (Whole ((w3.setCell ⟨b6, 0, none⟩ (.int .i64 px)).setCell ⟨b6, 1, none⟩ (.int .i64 py)) b6 42 #[.int .i64 px, .int .i64 py] ∧ (Value.slice a3 L3 c3).ownBlock ≠ some b6 ∧ Below base w ((w3.setCell ⟨b6, 0, none⟩ (.int .i64 px)).setCell ⟨b6, 1, none⟩ (.int .i64 py))) :=
                  ⟨by simpa using (hW3.set 0 (.int .i64 px)).set 1 (.int .i64 py), hv3, (hB3.setCell (p := ⟨b6, 0, none⟩) hl6 _).setCell (p := ⟨b6, 1, none⟩) hl6 _⟩
                have k0 : w3.cell? ⟨b6, 0, none⟩ = some (.int .i64 qx) := hW3.cell 0
                have k1 : w3.cell? ⟨b6, 1, none⟩ = some (.int .i64 qy) := hW3.cell 1
                have g1 : w3.frozen? ⟨b6, 0, none⟩ = false := hW3.frozen 0
                have g2 : w3.frozen? ⟨b6, 1, none⟩ = false := hW3.frozen 1
                obtain ⟨e90, e91, e92, e93⟩ := HS3.out
                clear hrun hG hst hWd hW3 hB3 hv3 hoS hOd hlowv hbb hal hL3
                have Hlen2 : Hid ((mk2 ++ [zx, zy]).length ≤ 5000 + 3 * (k + 1)) := by show _ ≤ _; have := Hl2.out; simp; omega
                refine wp_region_held (S := fun W => W.cell? ⟨b1, o1 + k * 2, none⟩ = some (.int .i64 px) ∧ W.cell? ⟨b1, o1 + k * 2 + 1, none⟩ = some (.int .i64 py) ∧ W.cell? ⟨b6, 0, none⟩ = some (.int .i64 qx) ∧ W.cell? ⟨b6, 1, none⟩ = some (.int .i64 qy)) (by kernel_rfl) ?_
                refine wpAnyH_take (i := 0) (oi := { dst := some 61, op := Go.Op.move (Go.Operand.tmp 5), type := 22, pos := "ref.go:59", after := #[], guard := none }) (v := ?_) rfl (by kernel_rfl) (by kernel_rfl) (by kernel_rfl) (fun _ _ _ h => h) (Or.inl ⟨by rfl, ?_⟩) (HS0.out) ?_
                rotate_left 1
                · intro w5 hSw
                  go_simp; all_goals (with_reducible rfl)
                try simp only [Act.put, List.setIfInBounds_toArray, List.set_cons_zero, List.set_cons_succ]
                refine wpAnyH_take (i := 1) (oi := { dst := some 62, op := Go.Op.move (Go.Operand.tmp 8), type := 43, pos := "ref.go:59", after := #[], guard := none }) (v := ?_) rfl (by kernel_rfl) (by kernel_rfl) (by kernel_rfl) (fun _ _ _ h => h) (Or.inl ⟨by rfl, ?_⟩) (HS0.out) ?_
                rotate_left 1
                · intro w5 hSw
                  go_simp; all_goals (with_reducible rfl)
                try simp only [Act.put, List.setIfInBounds_toArray, List.set_cons_zero, List.set_cons_succ]
                refine wpAnyH_take (i := 2) (oi := { dst := some 63, op := Go.Op.move (Go.Operand.tmp 9), type := 3, pos := "ref.go:59", after := #[], guard := none }) (v := ?_) rfl (by kernel_rfl) (by kernel_rfl) (by kernel_rfl) (fun _ _ _ h => h) (Or.inl ⟨by rfl, ?_⟩) (HS0.out) ?_
                rotate_left 1
                · intro w5 hSw
                  go_simp; all_goals (with_reducible rfl)
                try simp only [Act.put, List.setIfInBounds_toArray, List.set_cons_zero, List.set_cons_succ]
                refine wpAnyH_take (i := 3) (oi := { dst := some 64, op := Go.Op.indexAddr 43 (Go.Operand.tmp 62) (Go.Operand.tmp 63), type := 0, pos := "ref.go:59", after := #[{ on := 1, ground := Go.Ground.data }, { on := 2, ground := Go.Ground.data }], guard := none }) (v := ?_) rfl (by kernel_rfl) (by kernel_rfl) (by kernel_rfl) (fun _ _ _ h => h) (Or.inl ⟨by rfl, ?_⟩) (HS0.out) ?_
                rotate_left 1
                · intro w5 hSw
                  go_simp; all_goals (with_reducible rfl)
                try simp only [Act.put, List.setIfInBounds_toArray, List.set_cons_zero, List.set_cons_succ]
                refine wpAnyH_take (i := 4) (oi := { dst := some 65, op := Go.Op.fieldAddr 42 (Go.Operand.tmp 64) 0, type := 0, pos := "ref.go:59", after := #[{ on := 3, ground := Go.Ground.data }], guard := none }) (v := ?_) rfl (by kernel_rfl) (by kernel_rfl) (by kernel_rfl) (fun _ _ _ h => h) (Or.inl ⟨by rfl, ?_⟩) (HS0.out) ?_
                rotate_left 1
                · intro w5 hSw
                  go_simp; all_goals (with_reducible rfl)
                try simp only [Act.put, List.setIfInBounds_toArray, List.set_cons_zero, List.set_cons_succ]
                refine wpAnyH_take (i := 5) (oi := { dst := some 66, op := Go.Op.load 3 (Go.Operand.tmp 65), type := 3, pos := "ref.go:59", after := #[{ on := 4, ground := Go.Ground.data }], guard := none }) (v := ?_) rfl (by kernel_rfl) (by kernel_rfl) (by kernel_rfl) (fun _ _ _ h => h) (Or.inl ⟨by rfl, ?_⟩) (HS0.out) ?_
                rotate_left 1
                · intro w5 hSw
                  obtain ⟨d0, d1, d2, d3⟩ := hSw
                  go_simp; all_goals (with_reducible rfl)
                try simp only [Act.put, List.setIfInBounds_toArray, List.set_cons_zero, List.set_cons_succ]
                refine wpAnyH_take (i := 6) (oi := { dst := some 67, op := Go.Op.fieldAddr 42 (Go.Operand.tmp 6) 0, type := 0, pos := "ref.go:59", after := #[], guard := none }) (v := ?_) rfl (by kernel_rfl) (by kernel_rfl) (by kernel_rfl) (fun _ _ _ h => h) (Or.inl ⟨by rfl, ?_⟩) (HS0.out) ?_
                rotate_left 1
                · intro w5 hSw
                  go_simp; all_goals (with_reducible rfl)
                try simp only [Act.put, List.setIfInBounds_toArray, List.set_cons_zero, List.set_cons_succ]
                refine wpAnyH_take (i := 7) (oi := { dst := some 68, op := Go.Op.load 3 (Go.Operand.tmp 67), type := 3, pos := "ref.go:59", after := #[{ on := 6, ground := Go.Ground.data }], guard := none }) (v := ?_) rfl (by kernel_rfl) (by kernel_rfl) (by kernel_rfl) (fun _ _ _ h => h) (Or.inl ⟨by rfl, ?_⟩) (HS0.out) ?_
                rotate_left 1
                · intro w5 hSw
                  obtain ⟨d0, d1, d2, d3⟩ := hSw
                  go_simp; all_goals (with_reducible rfl)
                try simp only [Act.put, List.setIfInBounds_toArray, List.set_cons_zero, List.set_cons_succ]
                refine wpAnyH_take (i := 8) (oi := { dst := some 69, op := Go.Op.binOp Go.BinOp.sub 3 (Go.Operand.tmp 66) (Go.Operand.tmp 68) 3, type := 3, pos := "ref.go:59", after := #[{ on := 5, ground := Go.Ground.data }, { on := 7, ground := Go.Ground.data }], guard := none }) (v := ?_) rfl (by kernel_rfl) (by kernel_rfl) (by kernel_rfl) (fun _ _ _ h => h) (Or.inl ⟨by rfl, ?_⟩) (HS0.out) ?_
                rotate_left 1
                · intro w5 hSw
                  go_simp; all_goals (with_reducible rfl)
                try simp only [Act.put, List.setIfInBounds_toArray, List.set_cons_zero, List.set_cons_succ]
                refine wpAnyH_take (i := 11) (oi := { dst := some 72, op := Go.Op.move (Go.Operand.tmp 8), type := 43, pos := "ref.go:59", after := #[], guard := none }) (v := ?_) rfl (by kernel_rfl) (by kernel_rfl) (by kernel_rfl) (fun _ _ _ h => h) (Or.inl ⟨by rfl, ?_⟩) (HS0.out) ?_
                rotate_left 1
                · intro w5 hSw
                  go_simp; all_goals (with_reducible rfl)
                try simp only [Act.put, List.setIfInBounds_toArray, List.set_cons_zero, List.set_cons_succ]
                refine wpAnyH_take (i := 12) (oi := { dst := some 73, op := Go.Op.move (Go.Operand.tmp 9), type := 3, pos := "ref.go:59", after := #[], guard := none }) (v := ?_) rfl (by kernel_rfl) (by kernel_rfl) (by kernel_rfl) (fun _ _ _ h => h) (Or.inl ⟨by rfl, ?_⟩) (HS0.out) ?_
                rotate_left 1
                · intro w5 hSw
                  go_simp; all_goals (with_reducible rfl)
                try simp only [Act.put, List.setIfInBounds_toArray, List.set_cons_zero, List.set_cons_succ]
                refine wpAnyH_take (i := 13) (oi := { dst := some 74, op := Go.Op.indexAddr 43 (Go.Operand.tmp 72) (Go.Operand.tmp 73), type := 0, pos := "ref.go:59", after := #[{ on := 11, ground := Go.Ground.data }, { on := 12, ground := Go.Ground.data }], guard := none }) (v := ?_) rfl (by kernel_rfl) (by kernel_rfl) (by kernel_rfl) (fun _ _ _ h => h) (Or.inl ⟨by rfl, ?_⟩) (HS0.out) ?_
                rotate_left 1
                · intro w5 hSw
                  go_simp; all_goals (with_reducible rfl)
                try simp only [Act.put, List.setIfInBounds_toArray, List.set_cons_zero, List.set_cons_succ]
                refine wpAnyH_take (i := 14) (oi := { dst := some 75, op := Go.Op.fieldAddr 42 (Go.Operand.tmp 74) 1, type := 0, pos := "ref.go:59", after := #[{ on := 13, ground := Go.Ground.data }], guard := none }) (v := ?_) rfl (by kernel_rfl) (by kernel_rfl) (by kernel_rfl) (fun _ _ _ h => h) (Or.inl ⟨by rfl, ?_⟩) (HS0.out) ?_
                rotate_left 1
                · intro w5 hSw
                  go_simp; all_goals (with_reducible rfl)
                try simp only [Act.put, List.setIfInBounds_toArray, List.set_cons_zero, List.set_cons_succ]
                refine wpAnyH_take (i := 15) (oi := { dst := some 76, op := Go.Op.load 3 (Go.Operand.tmp 75), type := 3, pos := "ref.go:59", after := #[{ on := 14, ground := Go.Ground.data }], guard := none }) (v := ?_) rfl (by kernel_rfl) (by kernel_rfl) (by kernel_rfl) (fun _ _ _ h => h) (Or.inl ⟨by rfl, ?_⟩) (HS0.out) ?_
                rotate_left 1
                · intro w5 hSw
                  obtain ⟨d0, d1, d2, d3⟩ := hSw
                  go_simp; all_goals (with_reducible rfl)
                try simp only [Act.put, List.setIfInBounds_toArray, List.set_cons_zero, List.set_cons_succ]
                refine wpAnyH_take (i := 16) (oi := { dst := some 77, op := Go.Op.fieldAddr 42 (Go.Operand.tmp 6) 1, type := 0, pos := "ref.go:59", after := #[], guard := none }) (v := ?_) rfl (by kernel_rfl) (by kernel_rfl) (by kernel_rfl) (fun _ _ _ h => h) (Or.inl ⟨by rfl, ?_⟩) (HS0.out) ?_
                rotate_left 1
                · intro w5 hSw
                  go_simp; all_goals (with_reducible rfl)
                try simp only [Act.put, List.setIfInBounds_toArray, List.set_cons_zero, List.set_cons_succ]
                refine wpAnyH_take (i := 17) (oi := { dst := some 78, op := Go.Op.load 3 (Go.Operand.tmp 77), type := 3, pos := "ref.go:59", after := #[{ on := 16, ground := Go.Ground.data }], guard := none }) (v := ?_) rfl (by kernel_rfl) (by kernel_rfl) (by kernel_rfl) (fun _ _ _ h => h) (Or.inl ⟨by rfl, ?_⟩) (HS0.out) ?_
                rotate_left 1
                · intro w5 hSw
                  obtain ⟨d0, d1, d2, d3⟩ := hSw
                  go_simp; all_goals (with_reducible rfl)
                try simp only [Act.put, List.setIfInBounds_toArray, List.set_cons_zero, List.set_cons_succ]
                refine wpAnyH_take (i := 18) (oi := { dst := some 79, op := Go.Op.binOp Go.BinOp.sub 3 (Go.Operand.tmp 76) (Go.Operand.tmp 78) 3, type := 3, pos := "ref.go:59", after := #[{ on := 15, ground := Go.Ground.data }, { on := 17, ground := Go.Ground.data }], guard := none }) (v := ?_) rfl (by kernel_rfl) (by kernel_rfl) (by kernel_rfl) (fun _ _ _ h => h) (Or.inl ⟨by rfl, ?_⟩) (HS0.out) ?_
                rotate_left 1
                · intro w5 hSw
                  go_simp; all_goals (with_reducible rfl)
                try simp only [Act.put, List.setIfInBounds_toArray, List.set_cons_zero, List.set_cons_succ]
                refine wpAnyH_ready (rs := [9]) (by kernel_rfl) (by simp) ?_
                refine (AllReadyH.cons (o := { dst := some 70, op := Go.Op.call { callee := Go.Callee.value (Go.Operand.func 27), args := #[Go.Operand.tmp 69], argTypes := #[3] }, type := 59, pos := "ref.go:59", after := #[{ on := 8, ground := Go.Ground.data }], guard := none }) rfl (fun K hK => ?_) AllReadyH.nil)
                go_simp
                refine (HZx.out _).mono ?_; rintro e Y ⟨rfl, rfl⟩
                go_wp2_with fail
                refine hK.out _ _ (HS0.out) (fun _ => ?_)
                clear hK K
                try simp only [Act.put, List.setIfInBounds_toArray, List.set_cons_zero, List.set_cons_succ]
                refine wpAnyH_take (i := 10) (oi := { dst := some 71, op := Go.Op.convert 59 44 (Go.Operand.tmp 70), type := 44, pos := "ref.go:59", after := #[{ on := 9, ground := Go.Ground.data }], guard := none }) (v := ?_) rfl (by kernel_rfl) (by kernel_rfl) (by kernel_rfl) (fun _ _ _ h => h) (Or.inl ⟨by rfl, ?_⟩) (HS0.out) ?_
                rotate_left 1
                · intro w5 hSw
                  go_simp; all_goals (with_reducible rfl)
                try simp only [Act.put, List.setIfInBounds_toArray, List.set_cons_zero, List.set_cons_succ]
                refine wpAnyH_ready (rs := [19]) (by kernel_rfl) (by simp) ?_
                refine (AllReadyH.cons (o := { dst := some 80, op := Go.Op.call { callee := Go.Callee.value (Go.Operand.func 27), args := #[Go.Operand.tmp 79], argTypes := #[3] }, type := 59, pos := "ref.go:59", after := #[{ on := 18, ground := Go.Ground.data }, { on := 9, ground := Go.Ground.chain }], guard := none }) rfl (fun K hK => ?_) AllReadyH.nil)
                go_simp
                refine (HZy.out _).mono ?_; rintro e Y ⟨rfl, rfl⟩
                go_wp2_with fail
                refine hK.out _ _ (HS0.out) (fun _ => ?_)
                clear hK K
                try simp only [Act.put, List.setIfInBounds_toArray, List.set_cons_zero, List.set_cons_succ]
                refine wpAnyH_take (i := 20) (oi := { dst := some 81, op := Go.Op.convert 59 44 (Go.Operand.tmp 80), type := 44, pos := "ref.go:59", after := #[{ on := 19, ground := Go.Ground.data }], guard := none }) (v := ?_) rfl (by kernel_rfl) (by kernel_rfl) (by kernel_rfl) (fun _ _ _ h => h) (Or.inl ⟨by rfl, ?_⟩) (HS0.out) ?_
                rotate_left 1
                · intro w5 hSw
                  go_simp; all_goals (with_reducible rfl)
                try simp only [Act.put, List.setIfInBounds_toArray, List.set_cons_zero, List.set_cons_succ]
                refine wpAnyH_ready (rs := [21]) (by kernel_rfl) (by simp) ?_
                refine (AllReadyH.cons (o := { dst := some 82, op := Go.Op.buildSlice 22 2 #[(0, Go.Operand.tmp 71), (1, Go.Operand.tmp 81)], type := 22, pos := "ref.go:59", after := #[{ on := 10, ground := Go.Ground.data }, { on := 20, ground := Go.Ground.data }], guard := none }) rfl (fun K hK => ?_) AllReadyH.nil)
                go_simp
                refine hK.out _ _ (HS2.out) (fun _ => ?_)
                clear hK K
                try simp only [Act.put, List.setIfInBounds_toArray, List.set_cons_zero, List.set_cons_succ]
                refine wpAnyH_ready (rs := [22]) (by kernel_rfl) (by simp) ?_
                refine (AllReadyH.cons (o := { dst := some 83, op := Go.Op.call { callee := Go.Callee.builtin Go.Builtin.append, args := #[Go.Operand.tmp 61, Go.Operand.tmp 82], argTypes := #[22, 22] }, type := 22, pos := "ref.go:59", after := #[{ on := 0, ground := Go.Ground.data }, { on := 21, ground := Go.Ground.data }, { on := 19, ground := Go.Ground.chain }], guard := none }) rfl (fun K hK => ?_) AllReadyH.nil)
                refine held_app (by rfl) (.tmp 61) (.tmp 82) 22 rfl _ _ (.slice a3 L3 c3) rfl rfl (Hrun.out) ?_
                refine hK.out _ _ (HS3.out) (fun _ => ?_)
                clear hK K
                try simp only [Act.put, List.setIfInBounds_toArray, List.set_cons_zero, List.set_cons_succ]
                refine wpAnyH_take (i := 23) (oi := { dst := some 5, op := Go.Op.assign (Go.Operand.tmp 83), type := 22, pos := "ref.go:59", after := #[{ on := 22, ground := Go.Ground.data }, { on := 22, ground := Go.Ground.chain }, { on := 0, ground := Go.Ground.phase }, { on := 1, ground := Go.Ground.phase }, { on := 2, ground := Go.Ground.phase }, { on := 3, ground := Go.Ground.phase }, { on := 4, ground := Go.Ground.phase }, { on := 5, ground := Go.Ground.phase }, { on := 6, ground := Go.Ground.phase }, { on := 7, ground := Go.Ground.phase }, { on := 8, ground := Go.Ground.phase }, { on := 9, ground := Go.Ground.phase }, { on := 10, ground := Go.Ground.phase }, { on := 11, ground := Go.Ground.phase }, { on := 12, ground := Go.Ground.phase }, { on := 13, ground := Go.Ground.phase }, { on := 14, ground := Go.Ground.phase }, { on := 15, ground := Go.Ground.phase }, { on := 16, ground := Go.Ground.phase }, { on := 17, ground := Go.Ground.phase }, { on := 18, ground := Go.Ground.phase }, { on := 19, ground := Go.Ground.phase }, { on := 20, ground := Go.Ground.phase }, { on := 21, ground := Go.Ground.phase }, { on := 22, ground := Go.Ground.phase }], guard := none }) (v := ?_) rfl (by kernel_rfl) (by kernel_rfl) (by kernel_rfl) (fun _ _ _ h => h) (Or.inl ⟨by rfl, ?_⟩) (HS3.out) ?_
                rotate_left 1
                · intro w5 hSw
                  go_simp; all_goals (with_reducible rfl)
                try simp only [Act.put, List.setIfInBounds_toArray, List.set_cons_zero, List.set_cons_succ]
                refine wpAnyH_done (by kernel_rfl) ?_ _
                go_wp2_with fail
                go_roundw
                case rel => exact ⟨k + 1, mk2 ++ [zx, zy], (px, py), .slice a3 L3 c3, Hlt.out, by go_num, rfl, HOW3.out, HEND.out.1, HEND.out.2.1, HEND.out.2.2, Htot.out, Hlst.out, Hpin.out, Hlen2.out⟩
                case measure => have := Hlt.out; simp [intOf]; omega
              · have e1 : ((k : Int) == 1) = false := by simp; omega
                have hpre : preE kind m k = [] := by simp [preE, hk00, hk11]
                clear hk00 hkd hk11
                rw [hpre, List.nil_append] at ht
                have Ht9 := Lib.hid ht
                clear ht hpre
                go_upto_region 16 with (fail)
                obtain ⟨mk2, hmk2⟩ : ∃ z, z = mj := ⟨_, rfl⟩
                obtain ⟨W1, hW1⟩ : ∃ z, z = wr := ⟨_, rfl⟩
                obtain ⟨v5, hv5⟩ : ∃ z, z = v2 := ⟨_, rfl⟩
                have HO1 : Hid (Own32 W1 base v5 mk2) := by rw [hW1, hv5, hmk2]; exact HO.out
                have HWB : Hid (Whole W1 b6 42 #[.int .i64 qx, .int .i64 qy]) := by rw [hW1]; exact HWj.out
                have HB1 : Hid (Below base w W1) := by rw [hW1]; exact HBj.out
                have Hv6 : Hid (v5.ownBlock ≠ some b6) := by rw [hv5]; exact HVj.out
                have Htot : Hid ((mk2 ++ [zx, zy]) ++ remE kind l0 (k + 1) (px, py) = T0) := by show _ = _; rw [← Ht9.out, hmk2]; simp
                have Hl2 : Hid (mk2.length ≤ 5001 + 3 * k) := by show _ ≤ _; have := Hlj.out; rw [hmk2]; omega
                rw [← hW1, ← hv5]
                clear hmk2 hW1 hv5
                obtain ⟨b1, o1, rfl, hb1, p0, p1⟩ := (HPt.out.below HB1.out).at k hkl
                rw [hpk] at p0 p1
                simp only at p0 p1
                have q0 : W1.cell? ⟨b6, 0, none⟩ = some (.int .i64 qx) := HWB.out.cell 0
                have q1 : W1.cell? ⟨b6, 1, none⟩ = some (.int .i64 qy) := HWB.out.cell 1
                have HS0 : Hid (W1.drew.cell? ⟨b1, o1 + k * 2, none⟩ = some (.int .i64 px) ∧ W1.drew.cell? ⟨b1, o1 + k * 2 + 1, none⟩ = some (.int .i64 py) ∧ W1.drew.cell? ⟨b6, 0, none⟩ = some (.int .i64 qx) ∧ W1.drew.cell? ⟨b6, 1, none⟩ = some (.int .i64 qy)) := ⟨p0, p1, q0, q1⟩
                have hBd : base ≤ W1.drew.heap.size := by have h8 := HB1.out.size; have h9 := Hbase.out; show base ≤ W1.heap.size; omega
                have hb1l : b1 < W1.drew.heap.size := Nat.lt_of_lt_of_le hb1 hBd
                have hal : Below W1.drew.heap.size W1.drew (W1.drew.alloc (.cells #[.int .u32 (zx : Int), .int .u32 (zy : Int)] 44)) := (Below.refl _ _).alloc (Nat.le_refl _) _
                have HS2 : Hid ((W1.drew.alloc (.cells #[.int .u32 (zx : Int), .int .u32 (zy : Int)] 44)).cell? ⟨b1, o1 + k * 2, none⟩ = some (.int .i64 px) ∧ (W1.drew.alloc (.cells #[.int .u32 (zx : Int), .int .u32 (zy : Int)] 44)).cell? ⟨b1, o1 + k * 2 + 1, none⟩ = some (.int .i64 py) ∧ (W1.drew.alloc (.cells #[.int .u32 (zx : Int), .int .u32 (zy : Int)] 44)).cell? ⟨b6, 0, none⟩ = some (.int .i64 qx) ∧ (W1.drew.alloc (.cells #[.int .u32 (zx : Int), .int .u32 (zy : Int)] 44)).cell? ⟨b6, 1, none⟩ = some (.int .i64 qy)) := ⟨(hal.cell (p := ⟨b1, o1 + k * 2, none⟩) hb1l).trans p0, (hal.cell (p := ⟨b1, o1 + k * 2 + 1, none⟩) hb1l).trans p1, (hal.cell (p := ⟨b6, 0, none⟩) HWB.out.lt).trans q0, (hal.cell (p := ⟨b6, 1, none⟩) HWB.out.lt).trans q1⟩
                have hOd : Own32 W1.drew base v5 mk2 := HO1.out
                obtain ⟨v3, w3, hrun, hG⟩ := app_two base v5 mk2 zx zy 2 hOd (by have := Hl2.out; omega) hBd
                obtain ⟨a3, c3, rfl, _, _, _, _⟩ := hG.own.nums
                obtain ⟨L3, hL3⟩ : ∃ L, (mk2 ++ [zx, zy] : List Nat).length = L := ⟨_, rfl⟩
                rw [hL3] at hrun hG
                have hlowv : ∀ b, v5.ownBlock = some b → base ≤ b := fun b hb => (hOd.lt b hb).1
                have hbb : b1 < base := hb1
                have HS3 : Hid (w3.cell? ⟨b1, o1 + k * 2, none⟩ = some (.int .i64 px) ∧ w3.cell? ⟨b1, o1 + k * 2 + 1, none⟩ = some (.int .i64 py) ∧ w3.cell? ⟨b6, 0, none⟩ = some (.int .i64 qx) ∧ w3.cell? ⟨b6, 1, none⟩ = some (.int .i64 qy)) := by
                  have e1 : ∀ j, w3.cell? ⟨b1, j, none⟩ = W1.drew.cell? ⟨b1, j, none⟩ := fun j => hG.only.cell (p := ⟨b1, j, none⟩) hb1l (fun e => by have := hlowv b1 e; omega)
                  have e2 : ∀ j, w3.cell? ⟨b6, j, none⟩ = W1.drew.cell? ⟨b6, j, none⟩ := fun j => hG.only.cell (p := ⟨b6, j, none⟩) HWB.out.lt (fun e => Hv6.out e)
                  exact ⟨(e1 _).trans p0, (e1 _).trans p1, (e2 _).trans q0, (e2 _).trans q1⟩
                have Hrun := Lib.hid hrun
                have hst : ∃ z, z = (w3.setCell ⟨b6, 0, none⟩ (.int .i64 px)).setCell ⟨b6, 1, none⟩ (.int .i64 py) := ⟨_, rfl⟩
                have hWd : Whole W1.drew b6 42 #[.int .i64 qx, .int .i64 qy] := HWB.out
                have hW3 : Whole w3 b6 42 #[.int .i64 qx, .int .i64 qy] := hWd.only hG.only (fun e => Hv6.out e)
                have hB3 : Below base w w3 := (show Below base w W1.drew from ⟨HB1.out.os, HB1.out.tape, HB1.out.output, HB1.out.size, HB1.out.block⟩).trans (hG.below hOd hBd)
                have hv3 : (Value.slice a3 L3 c3).ownBlock ≠ some b6 := fun e => by
                  rcases hG.at_ with e1 | ⟨i, e1, hi⟩
                  · rw [e1] at e; exact Hv6.out e
                  · rw [e1] at e; injection e with e; have := hWd.lt; omega
                have hoS : Only (fun b => b = b6) w3 ((w3.setCell ⟨b6, 0, none⟩ (.int .i64 px)).setCell ⟨b6, 1, none⟩ (.int .i64 py)) := Only.setCell (S := fun b => b = b6) (Only.setCell (S := fun b => b = b6) (Only.refl _ _) (p := ⟨b6, 0, none⟩) (fun _ => rfl) _) (p := ⟨b6, 1, none⟩) (fun _ => rfl) _
                have HOW3 := Lib.hid (hG.own.only hoS (fun b hb e => hv3 (by rw [hb, e])))
                have HEND : Hid (Whole ((w3.setCell ⟨b6, 0, none⟩ (.int .i64 px)).setCell ⟨b6, 1, none⟩ (.int .i64 py)) b6 42 #[.int .i64 px, .int .i64 py] ∧ (Value.slice a3 L3 c3).ownBlock ≠ some b6 ∧ Below base w ((w3.setCell ⟨b6, 0, none⟩ (.int .i64 px)).setCell ⟨b6, 1, none⟩ (.int .i64 py))) :=
                  ⟨by simpa using (hW3.set 0 (.int .i64 px)).set 1 (.int .i64 py), hv3, (hB3.setCell (p := ⟨b6, 0, none⟩) hl6 _).setCell (p := ⟨b6, 1, none⟩) hl6 _⟩
                have k0 : w3.cell? ⟨b6, 0, none⟩ = some (.int .i64 qx) := hW3.cell 0
                have k1 : w3.cell? ⟨b6, 1, none⟩ = some (.int .i64 qy) := hW3.cell 1
                have g1 : w3.frozen? ⟨b6, 0, none⟩ = false := hW3.frozen 0
                have g2 : w3.frozen? ⟨b6, 1, none⟩ = false := hW3.frozen 1
                obtain ⟨e90, e91, e92, e93⟩ := HS3.out
                clear hrun hG hst hWd hW3 hB3 hv3 hoS hOd hlowv hbb hal hL3
                have Hlen2 : Hid ((mk2 ++ [zx, zy]).length ≤ 5000 + 3 * (k + 1)) := by show _ ≤ _; have := Hl2.out; simp; omega
                refine wp_region_held (S := fun W => W.cell? ⟨b1, o1 + k * 2, none⟩ = some (.int .i64 px) ∧ W.cell? ⟨b1, o1 + k * 2 + 1, none⟩ = some (.int .i64 py) ∧ W.cell? ⟨b6, 0, none⟩ = some (.int .i64 qx) ∧ W.cell? ⟨b6, 1, none⟩ = some (.int .i64 qy)) (by kernel_rfl) ?_
                refine wpAnyH_take (i := 0) (oi := { dst := some 61, op := Go.Op.move (Go.Operand.tmp 5), type := 22, pos := "ref.go:59", after := #[], guard := none }) (v := ?_) rfl (by kernel_rfl) (by kernel_rfl) (by kernel_rfl) (fun _ _ _ h => h) (Or.inl ⟨by rfl, ?_⟩) (HS0.out) ?_
                rotate_left 1
                · intro w5 hSw
                  go_simp; all_goals (with_reducible rfl)
                try simp only [Act.put, List.setIfInBounds_toArray, List.set_cons_zero, List.set_cons_succ]
                refine wpAnyH_take (i := 1) (oi := { dst := some 62, op := Go.Op.move (Go.Operand.tmp 8), type := 43, pos := "ref.go:59", after := #[], guard := none }) (v := ?_) rfl (by kernel_rfl) (by kernel_rfl) (by kernel_rfl) (fun _ _ _ h => h) (Or.inl ⟨by rfl, ?_⟩) (HS0.out) ?_
                rotate_left 1
                · intro w5 hSw
                  go_simp; all_goals (with_reducible rfl)
                try simp only [Act.put, List.setIfInBounds_toArray, List.set_cons_zero, List.set_cons_succ]
                refine wpAnyH_take (i := 2) (oi := { dst := some 63, op := Go.Op.move (Go.Operand.tmp 9), type := 3, pos := "ref.go:59", after := #[], guard := none }) (v := ?_) rfl (by kernel_rfl) (by kernel_rfl) (by kernel_rfl) (fun _ _ _ h => h) (Or.inl ⟨by rfl, ?_⟩) (HS0.out) ?_
                rotate_left 1
                · intro w5 hSw
                  go_simp; all_goals (with_reducible rfl)
                try simp only [Act.put, List.setIfInBounds_toArray, List.set_cons_zero, List.set_cons_succ]
                refine wpAnyH_take (i := 3) (oi := { dst := some 64, op := Go.Op.indexAddr 43 (Go.Operand.tmp 62) (Go.Operand.tmp 63), type := 0, pos := "ref.go:59", after := #[{ on := 1, ground := Go.Ground.data }, { on := 2, ground := Go.Ground.data }], guard := none }) (v := ?_) rfl (by kernel_rfl) (by kernel_rfl) (by kernel_rfl) (fun _ _ _ h => h) (Or.inl ⟨by rfl, ?_⟩) (HS0.out) ?_
                rotate_left 1
                · intro w5 hSw
                  go_simp; all_goals (with_reducible rfl)
                try simp only [Act.put, List.setIfInBounds_toArray, List.set_cons_zero, List.set_cons_succ]
                refine wpAnyH_take (i := 4) (oi := { dst := some 65, op := Go.Op.fieldAddr 42 (Go.Operand.tmp 64) 0, type := 0, pos := "ref.go:59", after := #[{ on := 3, ground := Go.Ground.data }], guard := none }) (v := ?_) rfl (by kernel_rfl) (by kernel_rfl) (by kernel_rfl) (fun _ _ _ h => h) (Or.inl ⟨by rfl, ?_⟩) (HS0.out) ?_
                rotate_left 1
                · intro w5 hSw
                  go_simp; all_goals (with_reducible rfl)
                try simp only [Act.put, List.setIfInBounds_toArray, List.set_cons_zero, List.set_cons_succ]
                refine wpAnyH_take (i := 5) (oi := { dst := some 66, op := Go.Op.load 3 (Go.Operand.tmp 65), type := 3, pos := "ref.go:59", after := #[{ on := 4, ground := Go.Ground.data }], guard := none }) (v := ?_) rfl (by kernel_rfl) (by kernel_rfl) (by kernel_rfl) (fun _ _ _ h => h) (Or.inl ⟨by rfl, ?_⟩) (HS0.out) ?_
                rotate_left 1
                · intro w5 hSw
                  obtain ⟨d0, d1, d2, d3⟩ := hSw
                  go_simp; all_goals (with_reducible rfl)
                try simp only [Act.put, List.setIfInBounds_toArray, List.set_cons_zero, List.set_cons_succ]
                refine wpAnyH_take (i := 6) (oi := { dst := some 67, op := Go.Op.fieldAddr 42 (Go.Operand.tmp 6) 0, type := 0, pos := "ref.go:59", after := #[], guard := none }) (v := ?_) rfl (by kernel_rfl) (by kernel_rfl) (by kernel_rfl) (fun _ _ _ h => h) (Or.inl ⟨by rfl, ?_⟩) (HS0.out) ?_
                rotate_left 1
                · intro w5 hSw
                  go_simp; all_goals (with_reducible rfl)
                try simp only [Act.put, List.setIfInBounds_toArray, List.set_cons_zero, List.set_cons_succ]
                refine wpAnyH_take (i := 7) (oi := { dst := some 68, op := Go.Op.load 3 (Go.Operand.tmp 67), type := 3, pos := "ref.go:59", after := #[{ on := 6, ground := Go.Ground.data }], guard := none }) (v := ?_) rfl (by kernel_rfl) (by kernel_rfl) (by kernel_rfl) (fun _ _ _ h => h) (Or.inl ⟨by rfl, ?_⟩) (HS0.out) ?_
                rotate_left 1
                · intro w5 hSw
                  obtain ⟨d0, d1, d2, d3⟩ := hSw
                  go_simp; all_goals (with_reducible rfl)
                try simp only [Act.put, List.setIfInBounds_toArray, List.set_cons_zero, List.set_cons_succ]
                refine wpAnyH_take (i := 8) (oi := { dst := some 69, op := Go.Op.binOp Go.BinOp.sub 3 (Go.Operand.tmp 66) (Go.Operand.tmp 68) 3, type := 3, pos := "ref.go:59", after := #[{ on := 5, ground := Go.Ground.data }, { on := 7, ground := Go.Ground.data }], guard := none }) (v := ?_) rfl (by kernel_rfl) (by kernel_rfl) (by kernel_rfl) (fun _ _ _ h => h) (Or.inl ⟨by rfl, ?_⟩) (HS0.out) ?_
                rotate_left 1
                · intro w5 hSw
                  go_simp; all_goals (with_reducible rfl)
                try simp only [Act.put, List.setIfInBounds_toArray, List.set_cons_zero, List.set_cons_succ]
                refine wpAnyH_take (i := 11) (oi := { dst := some 72, op := Go.Op.move (Go.Operand.tmp 8), type := 43, pos := "ref.go:59", after := #[], guard := none }) (v := ?_) rfl (by kernel_rfl) (by kernel_rfl) (by kernel_rfl) (fun _ _ _ h => h) (Or.inl ⟨by rfl, ?_⟩) (HS0.out) ?_
                rotate_left 1
                · intro w5 hSw
                  go_simp; all_goals (with_reducible rfl)
                try simp only [Act.put, List.setIfInBounds_toArray, List.set_cons_zero, List.set_cons_succ]
                refine wpAnyH_take (i := 12) (oi := { dst := some 73, op := Go.Op.move (Go.Operand.tmp 9), type := 3, pos := "ref.go:59", after := #[], guard := none }) (v := ?_) rfl (by kernel_rfl) (by kernel_rfl) (by kernel_rfl) (fun _ _ _ h => h) (Or.inl ⟨by rfl, ?_⟩) (HS0.out) ?_
                rotate_left 1
                · intro w5 hSw
                  go_simp; all_goals (with_reducible rfl)
                try simp only [Act.put, List.setIfInBounds_toArray, List.set_cons_zero, List.set_cons_succ]
                refine wpAnyH_take (i := 13) (oi := { dst := some 74, op := Go.Op.indexAddr 43 (Go.Operand.tmp 72) (Go.Operand.tmp 73), type := 0, pos := "ref.go:59", after := #[{ on := 11, ground := Go.Ground.data }, { on := 12, ground := Go.Ground.data }], guard := none }) (v := ?_) rfl (by kernel_rfl) (by kernel_rfl) (by kernel_rfl) (fun _ _ _ h => h) (Or.inl ⟨by rfl, ?_⟩) (HS0.out) ?_
                rotate_left 1
                · intro w5 hSw
                  go_simp; all_goals (with_reducible rfl)
                try simp only [Act.put, List.setIfInBounds_toArray, List.set_cons_zero, List.set_cons_succ]
                refine wpAnyH_take (i := 14) (oi := { dst := some 75, op := Go.Op.fieldAddr 42 (Go.Operand.tmp 74) 1, type := 0, pos := "ref.go:59", after := #[{ on := 13, ground := Go.Ground.data }], guard := none }) (v := ?_) rfl (by kernel_rfl) (by kernel_rfl) (by kernel_rfl) (fun _ _ _ h => h) (Or.inl ⟨by rfl, ?_⟩) (HS0.out) ?_
                rotate_left 1
                · intro w5 hSw
                  go_simp; all_goals (with_reducible rfl)
                try simp only [Act.put, List.setIfInBounds_toArray, List.set_cons_zero, List.set_cons_succ]
                refine wpAnyH_take (i := 15) (oi := { dst := some 76, op := Go.Op.load 3 (Go.Operand.tmp 75), type := 3, pos := "ref.go:59", after := #[{ on := 14, ground := Go.Ground.data }], guard := none }) (v := ?_) rfl (by kernel_rfl) (by kernel_rfl) (by kernel_rfl) (fun _ _ _ h => h) (Or.inl ⟨by rfl, ?_⟩) (HS0.out) ?_
                rotate_left 1
                · intro w5 hSw
                  obtain ⟨d0, d1, d2, d3⟩ := hSw
                  go_simp; all_goals (with_reducible rfl)
                try simp only [Act.put, List.setIfInBounds_toArray, List.set_cons_zero, List.set_cons_succ]
                refine wpAnyH_take (i := 16) (oi := { dst := some 77, op := Go.Op.fieldAddr 42 (Go.Operand.tmp 6) 1, type := 0, pos := "ref.go:59", after := #[], guard := none }) (v := ?_) rfl (by kernel_rfl) (by kernel_rfl) (by kernel_rfl) (fun _ _ _ h => h) (Or.inl ⟨by rfl, ?_⟩) (HS0.out) ?_
                rotate_left 1
                · intro w5 hSw
                  go_simp; all_goals (with_reducible rfl)
                try simp only [Act.put, List.setIfInBounds_toArray, List.set_cons_zero, List.set_cons_succ]
                refine wpAnyH_take (i := 17) (oi := { dst := some 78, op := Go.Op.load 3 (Go.Operand.tmp 77), type := 3, pos := "ref.go:59", after := #[{ on := 16, ground := Go.Ground.data }], guard := none }) (v := ?_) rfl (by kernel_rfl) (by kernel_rfl) (by kernel_rfl) (fun _ _ _ h => h) (Or.inl ⟨by rfl, ?_⟩) (HS0.out) ?_
                rotate_left 1
                · intro w5 hSw
                  obtain ⟨d0, d1, d2, d3⟩ := hSw
                  go_simp; all_goals (with_reducible rfl)
                try simp only [Act.put, List.setIfInBounds_toArray, List.set_cons_zero, List.set_cons_succ]
                refine wpAnyH_take (i := 18) (oi := { dst := some 79, op := Go.Op.binOp Go.BinOp.sub 3 (Go.Operand.tmp 76) (Go.Operand.tmp 78) 3, type := 3, pos := "ref.go:59", after := #[{ on := 15, ground := Go.Ground.data }, { on := 17, ground := Go.Ground.data }], guard := none }) (v := ?_) rfl (by kernel_rfl) (by kernel_rfl) (by kernel_rfl) (fun _ _ _ h => h) (Or.inl ⟨by rfl, ?_⟩) (HS0.out) ?_
                rotate_left 1
                · intro w5 hSw
                  go_simp; all_goals (with_reducible rfl)
                try simp only [Act.put, List.setIfInBounds_toArray, List.set_cons_zero, List.set_cons_succ]
                refine wpAnyH_ready (rs := [9]) (by kernel_rfl) (by simp) ?_
                refine (AllReadyH.cons (o := { dst := some 70, op := Go.Op.call { callee := Go.Callee.value (Go.Operand.func 27), args := #[Go.Operand.tmp 69], argTypes := #[3] }, type := 59, pos := "ref.go:59", after := #[{ on := 8, ground := Go.Ground.data }], guard := none }) rfl (fun K hK => ?_) AllReadyH.nil)
                go_simp
                refine (HZx.out _).mono ?_; rintro e Y ⟨rfl, rfl⟩
                go_wp2_with fail
                refine hK.out _ _ (HS0.out) (fun _ => ?_)
                clear hK K
                try simp only [Act.put, List.setIfInBounds_toArray, List.set_cons_zero, List.set_cons_succ]
                refine wpAnyH_take (i := 10) (oi := { dst := some 71, op := Go.Op.convert 59 44 (Go.Operand.tmp 70), type := 44, pos := "ref.go:59", after := #[{ on := 9, ground := Go.Ground.data }], guard := none }) (v := ?_) rfl (by kernel_rfl) (by kernel_rfl) (by kernel_rfl) (fun _ _ _ h => h) (Or.inl ⟨by rfl, ?_⟩) (HS0.out) ?_
                rotate_left 1
                · intro w5 hSw
                  go_simp; all_goals (with_reducible rfl)
                try simp only [Act.put, List.setIfInBounds_toArray, List.set_cons_zero, List.set_cons_succ]
                refine wpAnyH_ready (rs := [19]) (by kernel_rfl) (by simp) ?_
                refine (AllReadyH.cons (o := { dst := some 80, op := Go.Op.call { callee := Go.Callee.value (Go.Operand.func 27), args := #[Go.Operand.tmp 79], argTypes := #[3] }, type := 59, pos := "ref.go:59", after := #[{ on := 18, ground := Go.Ground.data }, { on := 9, ground := Go.Ground.chain }], guard := none }) rfl (fun K hK => ?_) AllReadyH.nil)
                go_simp
                refine (HZy.out _).mono ?_; rintro e Y ⟨rfl, rfl⟩
                go_wp2_with fail
                refine hK.out _ _ (HS0.out) (fun _ => ?_)
                clear hK K
                try simp only [Act.put, List.setIfInBounds_toArray, List.set_cons_zero, List.set_cons_succ]
                refine wpAnyH_take (i := 20) (oi := { dst := some 81, op := Go.Op.convert 59 44 (Go.Operand.tmp 80), type := 44, pos := "ref.go:59", after := #[{ on := 19, ground := Go.Ground.data }], guard := none }) (v := ?_) rfl (by kernel_rfl) (by kernel_rfl) (by kernel_rfl) (fun _ _ _ h => h) (Or.inl ⟨by rfl, ?_⟩) (HS0.out) ?_
                rotate_left 1
                · intro w5 hSw
                  go_simp; all_goals (with_reducible rfl)
                try simp only [Act.put, List.setIfInBounds_toArray, List.set_cons_zero, List.set_cons_succ]
                refine wpAnyH_ready (rs := [21]) (by kernel_rfl) (by simp) ?_
                refine (AllReadyH.cons (o := { dst := some 82, op := Go.Op.buildSlice 22 2 #[(0, Go.Operand.tmp 71), (1, Go.Operand.tmp 81)], type := 22, pos := "ref.go:59", after := #[{ on := 10, ground := Go.Ground.data }, { on := 20, ground := Go.Ground.data }], guard := none }) rfl (fun K hK => ?_) AllReadyH.nil)
                go_simp
                refine hK.out _ _ (HS2.out) (fun _ => ?_)
                clear hK K
                try simp only [Act.put, List.setIfInBounds_toArray, List.set_cons_zero, List.set_cons_succ]
                refine wpAnyH_ready (rs := [22]) (by kernel_rfl) (by simp) ?_
                refine (AllReadyH.cons (o := { dst := some 83, op := Go.Op.call { callee := Go.Callee.builtin Go.Builtin.append, args := #[Go.Operand.tmp 61, Go.Operand.tmp 82], argTypes := #[22, 22] }, type := 22, pos := "ref.go:59", after := #[{ on := 0, ground := Go.Ground.data }, { on := 21, ground := Go.Ground.data }, { on := 19, ground := Go.Ground.chain }], guard := none }) rfl (fun K hK => ?_) AllReadyH.nil)
                refine held_app (by rfl) (.tmp 61) (.tmp 82) 22 rfl _ _ (.slice a3 L3 c3) rfl rfl (Hrun.out) ?_
                refine hK.out _ _ (HS3.out) (fun _ => ?_)
                clear hK K
                try simp only [Act.put, List.setIfInBounds_toArray, List.set_cons_zero, List.set_cons_succ]
                refine wpAnyH_take (i := 23) (oi := { dst := some 5, op := Go.Op.assign (Go.Operand.tmp 83), type := 22, pos := "ref.go:59", after := #[{ on := 22, ground := Go.Ground.data }, { on := 22, ground := Go.Ground.chain }, { on := 0, ground := Go.Ground.phase }, { on := 1, ground := Go.Ground.phase }, { on := 2, ground := Go.Ground.phase }, { on := 3, ground := Go.Ground.phase }, { on := 4, ground := Go.Ground.phase }, { on := 5, ground := Go.Ground.phase }, { on := 6, ground := Go.Ground.phase }, { on := 7, ground := Go.Ground.phase }, { on := 8, ground := Go.Ground.phase }, { on := 9, ground := Go.Ground.phase }, { on := 10, ground := Go.Ground.phase }, { on := 11, ground := Go.Ground.phase }, { on := 12, ground := Go.Ground.phase }, { on := 13, ground := Go.Ground.phase }, { on := 14, ground := Go.Ground.phase }, { on := 15, ground := Go.Ground.phase }, { on := 16, ground := Go.Ground.phase }, { on := 17, ground := Go.Ground.phase }, { on := 18, ground := Go.Ground.phase }, { on := 19, ground := Go.Ground.phase }, { on := 20, ground := Go.Ground.phase }, { on := 21, ground := Go.Ground.phase }, { on := 22, ground := Go.Ground.phase }], guard := none }) (v := ?_) rfl (by kernel_rfl) (by kernel_rfl) (by kernel_rfl) (fun _ _ _ h => h) (Or.inl ⟨by rfl, ?_⟩) (HS3.out) ?_
                rotate_left 1
                · intro w5 hSw
                  go_simp; all_goals (with_reducible rfl)
                try simp only [Act.put, List.setIfInBounds_toArray, List.set_cons_zero, List.set_cons_succ]
                refine wpAnyH_done (by kernel_rfl) ?_ _
                go_wp2_with fail
                go_roundw
                case rel => exact ⟨k + 1, mk2 ++ [zx, zy], (px, py), .slice a3 L3 c3, Hlt.out, by go_num, rfl, HOW3.out, HEND.out.1, HEND.out.2.1, HEND.out.2.2, Htot.out, Hlst.out, Hpin.out, Hlen2.out⟩
                case measure => have := Hlt.out; simp [intOf]; omega
        · have hkm : k = m := by omega
          have ht := HTj.out
          have he := HEj.out
          rw [hkm, Hm.out, remE_end (by have := Hq1.out; have := Hm.out; omega) HKk.out.2.1, List.append_nil] at ht
          rw [hkm, Hm.out, List.drop_length] at he
          have hqE : qj = E0 := he
          have hmT : mj = T0 := ht
          have hlj : mj.length ≤ 9000 := by have := Hlj.out; have := Hq1.out; omega
          have hBr : base ≤ wr.heap.size := by have := HBj.out.size; have := Hbase.out; omega
          have hTot2 : (mj ++ (if kind = 3 then [15] else [])) ++ encP kind qj (ll.drop (i + 1)) = T := by
            rw [hqE, hmT, HT0.out, HE0.out, ← Ht.out, encN_body]
            simp
          have hIn2 : inP qj := Hqj.out
          have HTot2 := Lib.hid hTot2
          clear ht he hqE hmT hTot2 hkm
          by_cases hk3 : kind = 3
          · have d3 : (K == 3) = true := by have := HKk.out.1; simp; omega
            rw [if_pos hk3] at HTot2
            have hown : wr.ownsRow base 44 1 v2 mj.length (u32s mj) := HO.out
            clear hk3
            go_wp2_with (at_builtin; refine app_one rfl (.tmp 90) (.tmp 91) 22 rfl base 44 i0 _ 4 Try.underlying22 hi0 hz0 hz1 hz2 rfl v2 _ _ rfl hown (.int .u32 15) 1 rfl rfl (by unfold maxLen; omega) (by omega) hBr ?_)
            intro v5 W1 h2 h3 h5
            have hG5 : Gone32 wr base v2 (mj ++ [15]) v5 W1 := Gone32.grown h2 (by simp) (by simp [u32s]) h3 h5
            have HO1 := Lib.hid hG5.own
            have HWB := Lib.hid (HWj.out.only hG5.only (fun e => HVj.out e))
            have HB1 := Lib.hid (HBj.out.trans (hG5.below HO.out hBr))
            have Hv6 := Lib.hid (show v5.ownBlock ≠ some b6 from fun e => by
              rcases hG5.at_ with e1 | ⟨j, e1, hj⟩
              · rw [e1] at e; exact HVj.out e
              · rw [e1] at e; injection e with e; have := HWj.out.lt; omega)
            clear h2 h3 h5 hG5 hown
            go_wp2_with fail
            go_roundw
            case rel => exact ⟨i + 1, mj ++ [15], qj, v5, Hlt1.out, by go_num, rfl, HO1.out, HWB.out, Hv6.out, HB1.out, HTot2.out, hIn2⟩
            case measure => have := Hlt1.out; simp [intOf]; omega
          · have d3 : (K == 3) = false := by have := HKk.out.1; simp; omega
            rw [if_neg hk3, List.append_nil] at HTot2
            clear hk3
            go_wp2_with fail
            go_roundw
            case rel => exact ⟨i + 1, mj, qj, v2, Hlt1.out, by go_num, rfl, HO.out, HWj.out, HVj.out, HBj.out, HTot2.out, hIn2⟩
            case measure => have := Hlt1.out; simp [intOf]; omega
    · have hiL : i = L := by omega
      have ht := HTot.out
      rw [List.drop_eq_nil_of_le (by have := HL.out; omega)] at ht
      have hmT : mk = T := by simpa [encP] using ht
      subst hiL hmT
      clear ht
      go_wp2_with fail
      go_ret
      exact ⟨_, rfl, HO.out, HBw.out⟩
end Go.Proofs.Ytohgdlhijgjdkaa
