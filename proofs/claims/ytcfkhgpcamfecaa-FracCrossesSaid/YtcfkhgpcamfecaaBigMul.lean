/- The reference's big numbers: Mul. -/
import Derived.Test.YtcfkhgpcamfecaaBigAdd
import Derived.Deep.OwnRows
namespace Go.Proofs.Ytcfkhgpcamfecaa
open Go.RowKit Big
set_option linter.unusedVariables false
set_option maxRecDepth 100000

theorem boxes3_of {W : World} {g : Nat} {s1 s2 : Value} {b1 b2 : Bool} (hA : Whole W g 29 #[.bool b1, s1]) (hB : Whole W (g + 1) 29 #[.bool b2, s2]) :
    W.cell? ⟨g, 1, none⟩ = some s1 ∧ W.cell? ⟨g + 1, 1, none⟩ = some s2 := ⟨hA.cell 1, hB.cell 1⟩
theorem u64s_set (l : List Nat) (i x : Nat) : (u64s l).toArray.setIfInBounds i (.int .u64 (x : Int)) = (u64s (l.set i x)).toArray := by simp [u64s, List.map_set]
theorem u64s_cell {W : World} {g : Nat} {t : TypeId} {l : List Nat} (h : Whole W g t (u64s l).toArray) (i : Nat) (hi : i < l.length) : W.cell? ⟨g, i, none⟩ = some (.int .u64 ((l.getD i 0 : Nat) : Int)) := by
  rw [h.cell]; simp [u64s, hi]

theorem whole_put0 {w : World} {G : Nat} {t : TypeId} {m : List Nat} (h : Whole w G t (u64s m).toArray) (i x : Nat) (v : Int) (hv : v = (x : Int)) : Whole (w.setCell ⟨G, i, none⟩ (.int .u64 v)) G t (u64s (m.set i x)).toArray := by
  subst hv
  have := h.set i (.int .u64 (x : Int))
  rwa [u64s_set] at this
theorem whole_put {w : World} {G : Nat} {t : TypeId} {m : List Nat} (h : Whole w G t (u64s m).toArray) (n i x : Nat) (v : Int) (hv : v = (x : Int)) : Whole ((w.drewN n).setCell ⟨G, i, none⟩ (.int .u64 v)) G t (u64s (m.set i x)).toArray :=
  whole_put0 (w := w.drewN n) h i x v hv
theorem makes (n : Nat) (hn : n ≤ 1000000) (W : World) :
    (Instr.makeSlice 27 (.int .i64 (n : Int)) (.int .i64 (n : Int))).run Try.prog W = .ok (.slice (some ⟨W.heap.size, 0, none⟩) n n) (W.alloc (.cells (u64s (List.replicate n 0)).toArray 22)) := by
  have h := run_make_row' (P := Try.prog) 27 22 (.int .u64 0) 8 Try.underlying27 u64info rfl .i64 .i64 n (by omega) (by omega) W
  have e : madeCells #[Value.int .u64 0] n = (u64s (List.replicate n 0)).toArray := by
    apply Array.ext
    · simp [madeCells, u64s]
    · intro i h1 h2
      simp [madeCells, u64s, Nat.mod_one]
  rw [e] at h
  exact h

set_option maxHeartbeats 8000000 in
theorem mul_words (n1 n2 : Bool) (a : Option Addr) (c : Nat) (la : List Nat) (a' : Option Addr) (c' : Nat) (lb : List Nat) (w : World)
    (ha : Wd w w.heap.size a c la) (hb : Wd w w.heap.size a' c' lb) (hla : la.length ≤ 1000) (hlb : lb.length ≤ 1000) :
    Calls Try.prog 13 #[.agg #[.bool n1, .slice a la.length c], .agg #[.bool n2, .slice a' lb.length c']] w (BigPost w (sv n1 la * sv n2 lb) (la.length + lb.length)) := by
  have HA := Lib.hid ha.cellOf
  have HB := Lib.hid hb.cellOf
  obtain ⟨L1, hL1⟩ : ∃ L1, L1 = la.length := ⟨_, rfl⟩
  obtain ⟨L2, hL2⟩ : ∃ L2, L2 = lb.length := ⟨_, rfl⟩
  rw [← hL1] at hla HA ⊢
  rw [← hL2] at hlb HB ⊢
  have H1 := Lib.hid hL1
  have H2 := Lib.hid hL2
  have hsum : Hid (IntKind.i64.wrap ((L1 : Int) + (L2 : Int)) = ((L1 + L2 : Nat) : Int)) := by
    show _ = _
    rw [IntWalk.i64_in _ ⟨by omega, by omega⟩]; simp
  obtain ⟨hA, hB, hR, hb3, hs3⟩ := three_new w n1 n2 (.slice a L1 c) (.slice a' L2 c')
  have a1 := hA.cell 1
  have b1 := hB.cell 1
  simp only [List.getElem?_toArray, List.getElem?_cons_zero, List.getElem?_cons_succ] at a1 b1
  obtain ⟨w3, hw3⟩ : ∃ w3, w3 = (((w.alloc (.cells #[.bool n1, .slice a L1 c] 29)).alloc (.cells #[.bool n2, .slice a' L2 c'] 29)).alloc (.cells #[.bool false, .slice none 0 0] 29)) := ⟨_, rfl⟩
  have Hw3 := Lib.hid hw3
  have Hs3 := Lib.hid hs3
  have HhA := Lib.hid hA
  have HhB := Lib.hid hB
  have HhR := Lib.hid hR
  have Hb3 := Lib.hid hb3
  clear hw3 hs3 ha hb hL1 hL2 hA hB hR hb3
  obtain ⟨w4, hw4⟩ : ∃ w4, w4 = w3.alloc (.cells (u64s (List.replicate (L1 + L2) 0)).toArray 22) := ⟨_, rfl⟩
  have hmk := fun W : World => makes (L1 + L2) (by omega) W
  rw [Int.natCast_add] at hmk
  go_enter Try.func13, Try.ntmps13
  go_wp2_with fail
  rw [← Hw3.out] at a1 b1 HhA HhB HhR Hb3 Hs3 ⊢
  clear Hw3
  rw [← hw4]
  have hWm0 : Whole w4 w3.heap.size 22 (u64s (List.replicate (L1 + L2) 0)).toArray := by rw [hw4]; exact Whole.new _ _ _
  have hb40 : Below w3.heap.size w3 w4 := by rw [hw4]; exact (Below.refl _ _).alloc (Nat.le_refl _) _
  clear hw4 hmk hsum
  have HA3 : Hid (∀ W, Below w3.heap.size w3 W → ∀ i, i < L1 → ∃ b off, a = some ⟨b, off, none⟩ ∧ W.cell? ⟨b, off + i, none⟩ = some (.int .u64 ((la.getD i 0 : Nat) : Int)) ∧ la.getD i 0 < 65536) := fun W hW i hi => by
    obtain ⟨b, off, e, hb, h, hl⟩ := HA.out i hi
    exact ⟨b, off, e, by rw [hW.cell (p := ⟨b, off + i, none⟩) (by have := Hs3.out; show b < _; omega), Hb3.out.cell (p := ⟨b, off + i, none⟩) hb]; exact h, hl⟩
  have HB3 : Hid (∀ W, Below w3.heap.size w3 W → ∀ i, i < L2 → ∃ b off, a' = some ⟨b, off, none⟩ ∧ W.cell? ⟨b, off + i, none⟩ = some (.int .u64 ((lb.getD i 0 : Nat) : Int)) ∧ lb.getD i 0 < 65536) := fun W hW i hi => by
    obtain ⟨b, off, e, hb, h, hl⟩ := HB.out i hi
    exact ⟨b, off, e, by rw [hW.cell (p := ⟨b, off + i, none⟩) (by have := Hs3.out; show b < _; omega), Hb3.out.cell (p := ⟨b, off + i, none⟩) hb]; exact h, hl⟩
  have HA1 : Hid (∀ W, Below w3.heap.size w3 W → W.cell? ⟨w.heap.size, 1, none⟩ = some (.slice a L1 c)) := fun W hW => (HhA.out.below hW HhA.out.lt).cell 1
  have HB1 : Hid (∀ W, Below w3.heap.size w3 W → W.cell? ⟨w.heap.size + 1, 1, none⟩ = some (.slice a' L2 c')) := fun W hW => (HhB.out.below hW HhB.out.lt).cell 1
  have HA0 : Hid (∀ W, Below w3.heap.size w3 W → W.cell? ⟨w.heap.size, 0, none⟩ = some (.bool n1)) := fun W hW => (HhA.out.below hW HhA.out.lt).cell 0
  have HB0 : Hid (∀ W, Below w3.heap.size w3 W → W.cell? ⟨w.heap.size + 1, 0, none⟩ = some (.bool n2)) := fun W hW => (HhB.out.below hW HhB.out.lt).cell 0
  have Hstart : Hid (MulInv la lb 0 (List.replicate (L1 + L2) 0)) := by have := MulInv.start la lb; rw [← H1.out, ← H2.out] at this; exact this
  clear a1 b1 HA HB
  rw [Hs3.out] at hWm0 hb40 HA3 HB3 HA1 HB1 HA0 HB0
  obtain ⟨G, hG⟩ : ∃ G, G = w.heap.size + 3 := ⟨_, rfl⟩
  rw [← hG] at hWm0 hb40 HA3 HB3 HA1 HB1 HA0 HB0 Hs3 ⊢
  have HG := Lib.hid hG
  clear hG
  go_loopw [6] (fun i W => ∃ (k : Nat) (m : List Nat), k ≤ L1 ∧ i = .int .i64 (k : Int) ∧ Hid (MulInv la lb k m) ∧ Whole W G 22 (u64s m).toArray ∧ Below G w3 W) (fun i _ => L1 - (intOf i).toNat)
  case atStart => exact ⟨0, _, Nat.zero_le _, rfl, Hstart, hWm0, hb40⟩
  case round =>
    obtain ⟨k, m, hk, rfl, hinv, hWm, hb⟩ := hrel
    obtain ⟨wo, hwo⟩ : ∃ wo : World, wo = wr := ⟨_, rfl⟩
    rw [← hwo] at hWm hb ⊢
    clear hwo
    have a1 := HA1.out wo hb
    have b1 := HB1.out wo hb
    by_cases hlt : k < L1
    · have hin := Lib.hid hinv.out.enter
      clear hWm0 hb40 Hstart hinv
      go_wp2_with fail
      go_loopw [7, 8] (fun cc j W => ∃ (q C : Nat) (m : List Nat), q ≤ L2 ∧ j = .int .i64 (q : Int) ∧ cc = .int .u64 (C : Int) ∧ Hid (MulIn la lb k q C m) ∧ Whole W G 22 (u64s m).toArray ∧ Below G w3 W) (fun _ j _ => L2 - (intOf j).toNat)
      case atStart => exact ⟨0, 0, m, Nat.zero_le _, rfl, rfl, hin, hWm, hb⟩
      case round =>
        obtain ⟨q, C, m2, hq, rfl, rfl, hin2, hWm2, hb2⟩ := hrel
        clear a1 b1 hWm hb hin
        have a1 := HA1.out _ hb2
        have b1 := HB1.out _ hb2
        have hC := hin2.out.carry
        have hlen2 := hin2.out.len
        rw [← H1.out, ← H2.out] at hlen2
        by_cases hlq : q < L2
        · obtain ⟨ab, aoff, rfl, hc1, hxl⟩ := HA3.out _ hb2 k hlt
          obtain ⟨bb, boff, rfl, hc2, hyl⟩ := HB3.out _ hb2 q hlq
          have hc3 := u64s_cell hWm2 (k + q) (by omega)
          have hdl := hin2.out.dig.get (k + q)
          obtain ⟨x, hx⟩ : ∃ x, x = la.getD k 0 := ⟨_, rfl⟩
          obtain ⟨y, hy⟩ : ∃ y, y = lb.getD q 0 := ⟨_, rfl⟩
          obtain ⟨d, hd⟩ : ∃ d, d = m2.getD (k + q) 0 := ⟨_, rfl⟩
          rw [← hx] at hc1 hxl
          rw [← hy] at hc2 hyl
          rw [← hd] at hc3 hdl
          have Hst := Lib.hid (hin2.out.step (by rw [← H1.out]; exact hlt) (by rw [← H2.out]; exact hlq) hx hy hd hxl hyl)
          have hbd := mul_bound C d x y hC hdl hxl hyl
          obtain ⟨P, hP⟩ : ∃ P, P = x * y := ⟨_, rfl⟩
          rw [← hP] at hbd Hst
          have hm2 : IntKind.u64.wrap ((x : Int) * (y : Int)) = (P : Int) := by rw [← Int.natCast_mul, ← hP]; exact IntWalk.u64_in _ ⟨by omega, by omega⟩
          have hm1 : IntKind.u64.wrap ((C : Int) + (d : Int)) = (C : Int) + (d : Int) := IntWalk.u64_in _ ⟨by omega, by omega⟩
          obtain ⟨Z, hZ⟩ : ∃ Z, Z = C + d + P := ⟨_, rfl⟩
          have hm3 : IntKind.u64.wrap ((C : Int) + (d : Int) + (P : Int)) = (Z : Int) := by rw [show (C : Int) + (d : Int) + (P : Int) = (Z : Int) by omega]; exact IntWalk.u64_in _ ⟨by omega, by omega⟩
          rw [← hZ] at hbd Hst
          have hZl := hbd.1
          have hi1 : IntKind.i64.wrap ((k : Int) + (q : Int)) = (k : Int) + (q : Int) := IntWalk.i64_in _ ⟨by omega, by omega⟩
          have hi2 : ((k : Int) + (q : Int)).toNat = k + q := by omega
          have hi3 : (0 : Int) ≤ (k : Int) + (q : Int) := by omega
          have hi4 : (k : Int) + (q : Int) < ((L1 + L2 : Nat) : Int) := by omega
          have fm := hWm2.frozen (k + q)
          have hset := u64s_set m2 (k + q) (Z % 65536)
          have Hset := Lib.hid hset
          have hgl : Hid (G ≤ G) := Nat.le_refl _
          clear hx hy hd hP hZ hbd hin2 hset hlen2
          go_wp2_with fail
          go_quiet (fail)
          clear hm1 hm2 hm3
          go_wp2_with fail
          go_roundw
          case rel =>
            exact ⟨q + 1, Z / 65536, m2.set (k + q) (Z % 65536), hlq, by go_num, by simp, Hst.out, whole_put hWm2 _ _ _ _ (by simp), Below.setCell (Below.drawn hb2 _) (p := ⟨G, k + q, none⟩) (Nat.le_refl _) _⟩
          case measure => simp [intOf] <;> omega
        · obtain rfl : q = L2 := by omega
          have hlv := hin2.out
          rw [H2.out] at hlv
          have Hlv := Lib.hid (hlv.leave (by rw [← H1.out]; exact hlt))
          rw [← H2.out] at Hlv
          have hi1 : IntKind.i64.wrap ((k : Int) + (q : Int)) = (k : Int) + (q : Int) := IntWalk.i64_in _ ⟨by omega, by omega⟩
          have hi2 : ((k : Int) + (q : Int)).toNat = k + q := by omega
          have hi3 : (0 : Int) ≤ (k : Int) + (q : Int) := by omega
          have hi4 : (k : Int) + (q : Int) < ((L1 + q : Nat) : Int) := by omega
          have fm := hWm2.frozen (k + q)
          have c3 := u64s_cell hWm2 (k + q) (by omega)
          clear hlv hin2 hlen2
          go_wp2_with fail
          go_roundw
          case rel =>
            exact ⟨k + 1, m2.set (k + q) C, hlt, by go_num, Hlv.out, whole_put0 hWm2 _ _ _ rfl, Below.setCell hb2 (p := ⟨G, k + q, none⟩) (Nat.le_refl _) _⟩
          case measure => simp [intOf] <;> omega
    · obtain rfl : k = L1 := by omega
      have a0 := HA0.out wo hb
      have b0 := HB0.out wo hb
      have hlen := hinv.out.len
      have hval := hinv.out.last (by rw [← H1.out]; omega)
      rw [← H1.out, ← H2.out] at hlen
      have hWd : Wd wo wo.heap.size (some ⟨G, 0, none⟩) (k + L2) m := ⟨Nums.of_block hWm, hinv.out.dig, by omega, by omega, fun e => by cases e⟩
      have hmd := made_any (n1 != n2) _ _ (k + L2) m wo hWd (by omega)
      rw [hlen, sv_mul n1 n2 la lb m hval] at hmd
      have Hmd := Lib.hid hmd
      have hR := HhR.out.below hb (by have := HG.out; omega)
      have Hbw := Lib.hid (show Below w.heap.size w wo from Hb3.out.trans (hb.mono (by have := HG.out; omega)))
      clear hmd hWd hlen hval hinv hWm hb
      go_wp2_with fail
      refine Hmd.out.mono ?_
      rintro e W2 ⟨v, rfl, ⟨n', a2, c2, l', rfl, hrest⟩, hb2⟩
      have hR2 := hR.below hb2 hR.lt
      have r0 := hR2.cell 0
      have r1 := hR2.cell 1
      have f0 := hR2.frozen 0
      have f1 := hR2.frozen 1
      simp only [List.getElem?_toArray, List.getElem?_cons_zero, List.getElem?_cons_succ] at r0 r1
      have HI := Lib.hid (show IsBig W2 W2.heap.size (.agg #[.bool n', .slice a2 l'.length c2]) _ _ from ⟨n', a2, c2, l', rfl, hrest⟩)
      have hbW := below_then Hbw.out hb2 Hbw.out.size
      clear hrest
      go_wp2_with fail
      obtain ⟨k1, k2⟩ := big_put hR2 HI.out
      exact bodyPost_ret (results_cell_row rfl _ _ (w.heap.size + 2) 29 _ (0, 0) _ rfl k2 Try.underlying29 rfl (by kernel_rfl)) rfl ⟨_, rfl, k1, (hbW.setCell (by simp; omega) _).setCell (by simp; omega) _⟩
end Go.Proofs.Ytcfkhgpcamfecaa
