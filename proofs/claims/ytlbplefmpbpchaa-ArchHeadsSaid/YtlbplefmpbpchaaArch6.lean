/- Layer 13: the reader's numbers. -/
import Derived.Test.YtlbplefmpbpchaaArch3
import Derived.Test.YtlbplefmpbpchaaArchMath
namespace Go.Proofs.Ytlbplefmpbpchaa
open Go.RowKit
set_option linter.unusedVariables false
set_option maxRecDepth 100000

/-- A reader at block g stands ahead of the bytes l. -/
structure RdA (w : World) (g b p c : Nat) (l : List Nat) : Prop where
  whole : Whole w g 43 #[.slice (some ⟨b, p, none⟩) l.length c]
  cell : ∀ i, i < l.length → w.cell? ⟨b, p + i, none⟩ = some (.int .u8 ((l.getD i 0 : Nat) : Int))
  bl : b < w.heap.size
  ne : g ≠ b
  lt : ∀ x ∈ l, x < 256
  len : l.length ≤ c
  most : l.length ≤ 100000000 ∧ c ≤ maxLen
theorem RdA.only {w w' : World} {g b p c : Nat} {l : List Nat} {S : Nat → Prop} (h : RdA w g b p c l) (ho : Only S w w') (hg : ¬ S g) (hb : ¬ S b) : RdA w' g b p c l :=
  ⟨h.whole.only ho hg, fun i hi => (ho.cell (p := ⟨b, p + i, none⟩) h.bl hb).trans (h.cell i hi), Nat.lt_of_lt_of_le h.bl ho.size, h.ne, h.lt, h.len, h.most⟩
theorem RdA.alloc {w : World} {g b p c : Nat} {l : List Nat} (h : RdA w g b p c l) (o : Obj) : RdA (w.alloc o) g b p c l :=
  h.only ((Only.refl (fun _ => False) w).alloc o) id id
theorem RdA.far {w : World} {g b p c : Nat} {l : List Nat} (h : RdA w g b p c l) {q : Addr} (hq : q.block ≠ g ∧ q.block ≠ b) (v : Value) : RdA (w.setCell q v) g b p c l :=
  ⟨h.whole.far (fun e => hq.1 e.symm) _, fun i hi => by rw [World.cell?_setCell_far _ _ _ _ hq.2]; exact h.cell i hi, by simpa [World.setCell] using h.bl, h.ne, h.lt, h.len, h.most⟩
theorem or_low {v x i : Nat} (hv : v < 256 ^ i) (hx : x < 256) (hi : i < 8) :
    bits .or .u64 (v : Int) (IntKind.u64.wrap ((x : Int) * 2 ^ (8 * i))) = ((v + x * 256 ^ i : Nat) : Int) := by
  have hp : (256 : Nat) ^ i * 256 ≤ 18446744073709551616 := by
    have : (256 : Nat) ^ (i + 1) ≤ 256 ^ 8 := Nat.pow_le_pow_right (by decide) (by omega)
    rw [Nat.pow_succ] at this
    have h4 : (256 : Nat) ^ 8 = 18446744073709551616 := by decide
    omega
  have hxm : x * 256 ^ i ≤ 255 * 256 ^ i := Nat.mul_le_mul_right _ (by omega)
  have e1 : (x : Int) * 2 ^ (8 * i) = ((x * 256 ^ i : Nat) : Int) := by
    rw [Int.natCast_mul, Int.natCast_pow, Int.pow_mul]; rfl
  rw [e1, IntWalk.u64_in _ ⟨by omega, by omega⟩, u64_or_nat v _ (by omega) (by omega)]
  congr 1
  have := or_add (b := x) hv
  rw [Nat.shiftLeft_eq, ← pow_256] at this
  exact this
set_option maxHeartbeats 4000000 in
theorem number_any (g b p c n : Nat) (l : List Nat) (w : World) (h : RdA w g b p c l) (hn : n ≤ 8) (hnl : n ≤ l.length) :
    Calls Try.prog 25 #[.pointer (some ⟨g, 0, none⟩), .int .i64 (n : Int)] w fun e w' => e = .returned (.int .u64 (lowV (l.take n) : Int)) ∧ (∃ p' c', RdA w' g b p' c' (l.drop n)) ∧ Only (fun k => k = g) w w' := by
  obtain ⟨L, hL⟩ : ∃ L, L = l.length := ⟨_, rfl⟩
  have hq := h.whole.cell 0
  have hqf := h.whole.frozen 0
  rw [← hL] at hq hnl
  have hLc : L ≤ c := by rw [hL]; exact h.len
  have hL8 : L ≤ 100000000 := by rw [hL]; exact h.most.1
  have hcm : c ≤ maxLen := h.most.2
  have H := Lib.hid h
  have HL := Lib.hid hL
  clear h hL
  obtain ⟨V, hV⟩ : ∃ V, V = lowV (l.take n) := ⟨_, rfl⟩
  rw [← hV]
  have HV := Lib.hid hV
  clear hV
  go_enter Try.func25, Try.ntmps25
  go_wp2_with fail
  obtain ⟨w0, rfl⟩ : ∃ w0, w0 = w := ⟨_, rfl⟩
  go_loopw [5, 6, 8] (fun x5 x6 x8 X => ∃ j v : Nat, j ≤ n ∧ x8 = .int .i64 (j : Int) ∧ x5 = .int .u64 (v : Int) ∧ Hid (v = lowV (l.take j)) ∧ w0 = X) (fun x5 x6 x8 _ => n - (intOf x8).toNat)
  case atStart => exact ⟨0, 0, Nat.zero_le _, rfl, rfl, by show _ = _; rw [List.take_zero]; rfl, rfl⟩
  case round =>
    obtain ⟨j, v, hj, rfl, rfl, hF, rfl⟩ := hrel
    by_cases h0 : j < n
    · have hjl : j < l.length := by rw [← HL.out]; omega
      obtain ⟨x, hx⟩ : ∃ x, x = l.getD j 0 := ⟨_, rfl⟩
      have hcell := H.out.cell j hjl
      rw [← hx] at hcell
      have hx256 : x < 256 := by rw [hx]; exact getD_lt H.out.lt j
      have htl : (l.take j).length = j := by rw [List.length_take]; omega
      have hv256 : Hid (v < 256 ^ j) := by
        have := lowV_lt (l.take j) (fun y hy => H.out.lt y (List.mem_of_mem_take hy))
        rw [htl, ← hF.out] at this
        exact this
      have hF2 : Hid (v + x * 256 ^ j = lowV (l.take (j + 1))) := by
        show _ = _
        have : l.take (j + 1) = l.take j ++ [x] := by
          rw [List.take_add_one, List.getElem?_eq_getElem hjl, hx, List.getD_eq_getElem?_getD, List.getElem?_eq_getElem hjl]; rfl
        rw [this, lowV_snoc, htl, hF.out]
      have horl := or_low hv256.out hx256 (show j < 8 by omega)
      obtain ⟨v2, hv2⟩ : ∃ v2, v2 = v + x * 256 ^ j := ⟨_, rfl⟩
      rw [← hv2] at hF2 horl
      clear hv2 hx hF
      go_wp2_with fail
      exact ⟨⟨j + 1, v2, by omega, congrArg (Value.int .i64) (by omega), rfl, hF2, trivial⟩, by simp [intOf]; omega⟩
    · obtain rfl : j = n := by omega
      have hvV : Hid (v = V) := by show _ = _; rw [hF.out, HV.out]
      clear hF
      have hO : Hid (∀ x, Only (fun k => k = g) w0 (w0.setCell ⟨g, 0, none⟩ x)) := fun x => (Only.refl (fun k => k = g) w0).setCell (p := ⟨g, 0, none⟩) (fun _ => rfl) x
      by_cases hcj : c = j
      · subst hcj
        have hld : l.drop c = [] := List.drop_eq_nil_of_le (by rw [← HL.out]; exact hLc)
        have hR : Hid (RdA (w0.setCell ⟨g, 0, none⟩ (.slice (some ⟨b, p, none⟩) 0 0)) g b p 0 (l.drop c)) := by
          rw [hld]
          exact ⟨H.out.whole.set 0 _, fun i hi => absurd hi (by simp), by simpa [World.setCell] using H.out.bl, H.out.ne, fun x hx => absurd hx (by simp), Nat.le_refl _, by simp, by omega⟩
        clear hld
        go_wp2_with fail
        go_ret
        exact ⟨by rw [← hvV.out]; rfl, ⟨p, 0, hR.out⟩, hO.out _⟩
      · have hR : Hid (RdA (w0.setCell ⟨g, 0, none⟩ (.slice (some ⟨b, p + j, none⟩) (L - j) (c - j))) g b (p + j) (c - j) (l.drop j)) := by
          have e1 : L - j = (l.drop j).length := by rw [List.length_drop, HL.out]
          rw [e1]
          refine ⟨H.out.whole.set 0 _, fun i hi => ?_, by simpa [World.setCell] using H.out.bl, H.out.ne, fun x hx => H.out.lt x (List.mem_of_mem_drop hx), by rw [← e1]; omega, by rw [← e1]; omega, by omega⟩
          rw [World.cell?_setCell_far _ _ _ _ H.out.ne, getD_drop, show p + j + i = p + (j + i) by omega]
          exact H.out.cell (j + i) (by rw [List.length_drop] at hi; omega)
        go_wp2_with fail
        go_ret
        exact ⟨by rw [← hvV.out]; rfl, ⟨p + j, c - j, hR.out⟩, hO.out _⟩
/-- What a reader at block g reads: n bytes, as the value v. -/
def Rds (g b n : Nat) (l : List Nat) (v : Value) (w : World) (e : Ending) (w' : World) : Prop :=
  e = .returned v ∧ (∃ p' c', RdA w' g b p' c' (l.drop n)) ∧ Only (fun k => k = g) w w'
set_option maxHeartbeats 4000000 in
theorem small_any (g b p c : Nat) (l : List Nat) (w : World) (h : RdA w g b p c l) (hnl : 1 ≤ l.length) :
    Calls Try.prog 26 #[.pointer (some ⟨g, 0, none⟩)] w (Rds g b 1 l (.int .i64 ((l.getD 0 0 : Nat) : Int)) w) := by
  have HN := Lib.hid (number_any g b p c 1 l w h (by omega) hnl)
  have hv : lowV (l.take 1) = l.getD 0 0 := by
    rw [show l.take 1 = [l.getD 0 0] from by have := drop_head (l := l) (k := 0) hnl; rw [List.drop_zero] at this; rw [this]; simp]
    rfl
  rw [hv] at HN
  have hlt : l.getD 0 0 < 256 := getD_lt h.lt 0
  obtain ⟨x, hx⟩ : ∃ x, x = l.getD 0 0 := ⟨_, rfl⟩
  rw [← hx] at HN hlt ⊢
  clear hv hx h
  go_enter Try.func26, Try.ntmps26
  go_wp2_with fail
  refine HN.out.mono ?_
  rintro e X ⟨rfl, h1, h2⟩
  have H1 := Lib.hid h1
  have H2 := Lib.hid h2
  clear h1 h2
  go_wp2_with fail
  go_ret
  exact ⟨rfl, H1.out, H2.out⟩
/-- A number of 32 bits, signed. -/
def sgn32 (v : Nat) : Int := if 2147483648 ≤ v then (v : Int) - 4294967296 else (v : Int)
set_option maxHeartbeats 4000000 in
theorem degrees_any (g b p c : Nat) (l : List Nat) (w : World) (h : RdA w g b p c l) (hnl : 4 ≤ l.length) :
    Calls Try.prog 30 #[.pointer (some ⟨g, 0, none⟩)] w (Rds g b 4 l (.int .i64 (sgn32 (lowV (l.take 4)))) w) := by
  have HN := Lib.hid (number_any g b p c 4 l w h (by omega) hnl)
  have hlt := lowV_lt (l.take 4) (fun x hx => h.lt x (List.mem_of_mem_take hx))
  have h2 : (l.take 4).length ≤ 4 := by rw [List.length_take]; omega
  have h3 : 256 ^ (l.take 4).length ≤ 256 ^ 4 := Nat.pow_le_pow_right (by decide) h2
  have h4 : (256 : Nat) ^ 4 = 4294967296 := by decide
  obtain ⟨V, hV⟩ : ∃ V, V = lowV (l.take 4) := ⟨_, rfl⟩
  rw [← hV] at HN hlt ⊢
  have hVb : V < 4294967296 := by omega
  have hw : Hid (IntKind.i32.wrap (V : Int) = sgn32 V) := by
    show _ = _
    unfold sgn32
    by_cases hb : 2147483648 ≤ V
    · rw [if_pos hb, IntKind.wrap_i32]; omega
    · rw [if_neg hb, IntKind.wrap_i32]; omega
  have hs : -2147483648 ≤ sgn32 V ∧ sgn32 V < 2147483648 := by unfold sgn32; split <;> omega
  obtain ⟨S, hS⟩ : ∃ S, S = sgn32 V := ⟨_, rfl⟩
  rw [← hS] at hw hs ⊢
  obtain ⟨hs1, hs2⟩ := hs
  clear hV hlt h2 h3 h4 h hS
  go_enter Try.func30, Try.ntmps30
  go_wp2_with fail
  refine HN.out.mono ?_
  rintro e X ⟨rfl, h1, h2⟩
  have H1 := Lib.hid h1
  have H2 := Lib.hid h2
  clear h1 h2
  have hw2 := hw.out
  go_wp2_with fail
  go_ret
  exact ⟨rfl, H1.out, H2.out⟩
set_option maxHeartbeats 4000000 in
theorem part_any (g b p c : Nat) (l : List Nat) (w : World) (h : RdA w g b p c l) (hnl : 16 ≤ l.length) :
    Calls Try.prog 24 #[.pointer (some ⟨g, 0, none⟩)] w (Rds g b 16 l (.agg #[.int .u64 (lowV (l.take 8) : Int), .int .u64 (lowV ((l.drop 8).take 8) : Int)]) w) := by
  have HO0 := Lib.hid ((Only.refl (fun k => k = g) w).alloc (.cells #[.int .u64 0, .int .u64 0] 24))
  have HN1 := Lib.hid (number_any g b p c 8 l _ (h.alloc (.cells #[.int .u64 0, .int .u64 0] 24)) (by omega) (by omega))
  have Hc0 : Hid (Whole (w.alloc (.cells #[.int .u64 0, .int .u64 0] 24)) w.heap.size 24 #[.int .u64 0, .int .u64 0]) := Whole.new w _ _
  have hgs : w.heap.size ≠ g := by have := h.whole.lt; omega
  have hb2 : w.heap.size ≠ g ∧ w.heap.size ≠ b := ⟨hgs, by have := h.bl; omega⟩
  have hd8 : 8 ≤ (l.drop 8).length := by rw [List.length_drop]; omega
  obtain ⟨V1, hV1⟩ : ∃ V, V = lowV (l.take 8) := ⟨_, rfl⟩
  obtain ⟨V2, hV2⟩ : ∃ V, V = lowV ((l.drop 8).take 8) := ⟨_, rfl⟩
  rw [← hV1] at HN1 ⊢
  rw [← hV2]
  have HV2 := Lib.hid hV2
  clear hV1 hV2 h
  go_enter Try.func24, Try.ntmps24
  go_wp2_with fail
  refine HN1.out.mono ?_
  rintro e X ⟨rfl, ⟨p1, c1, h1⟩, h2⟩
  have HN2 := Lib.hid (number_any g b p1 c1 8 (l.drop 8) X h1 (by omega) hd8)
  rw [← HV2.out] at HN2
  have HO1 := Lib.hid (HO0.out.trans h2 (fun _ _ h => h))
  have Hc1 := Lib.hid (Hc0.out.only h2 hgs)
  clear h1 h2 HN1 HO0 Hc0
  go_wp2_with fail
  refine HN2.out.mono ?_
  rintro e Y ⟨rfl, ⟨p2, c2, h1⟩, h2⟩
  rw [List.drop_drop] at h1
  have HR := Lib.hid h1
  have HO2 := Lib.hid (HO1.out.trans h2 (fun _ _ h => h))
  have Hc2 := Hc1.out.only h2 hgs
  have q0 := Hc2.cell 0
  have q1 := Hc2.cell 1
  have f0 := Hc2.frozen 0
  have f1 := Hc2.frozen 1
  clear h1 h2 HN2 HO1 Hc1
  go_wp2_with fail
  have hW : Whole ((Y.setCell ⟨w.heap.size, 0, none⟩ (.int .u64 (V1 : Int))).setCell ⟨w.heap.size, 1, none⟩ (.int .u64 (V2 : Int))) w.heap.size 24 #[.int .u64 (V1 : Int), .int .u64 (V2 : Int)] := (Hc2.set 0 _).set 1 _
  have hf : ∀ W, Only (fun k => k = g) w W → Only (fun k => k = g) w (W.setCell ⟨w.heap.size, 0, none⟩ (.int .u64 (V1 : Int))) := fun W h => h.setCell (fun hlt => absurd hlt (Nat.lt_irrefl _)) _
  have hf2 : ∀ W, Only (fun k => k = g) w W → Only (fun k => k = g) w (W.setCell ⟨w.heap.size, 1, none⟩ (.int .u64 (V2 : Int))) := fun W h => h.setCell (fun hlt => absurd hlt (Nat.lt_irrefl _)) _
  exact bodyPost_ret (results_cell_row rfl _ _ w.heap.size 24 _ (0, 0) _ rfl hW Try.underlying24 rfl (by kernel_rfl)) rfl ⟨rfl, ⟨p2, c2, (HR.out.far hb2 _).far hb2 _⟩, hf2 _ (hf _ HO2.out)⟩
set_option maxHeartbeats 4000000 in
theorem point_any (g b p c : Nat) (l : List Nat) (w : World) (h : RdA w g b p c l) (hnl : 8 ≤ l.length) :
    Calls Try.prog 27 #[.pointer (some ⟨g, 0, none⟩)] w (Rds g b 8 l (.agg #[.int .i64 (sgn32 (lowV (l.take 4))), .int .i64 (sgn32 (lowV ((l.drop 4).take 4)))]) w) := by
  have HO0 := Lib.hid ((Only.refl (fun k => k = g) w).alloc (.cells #[.int .i64 0, .int .i64 0] 27))
  have HN1 := Lib.hid (degrees_any g b p c l _ (h.alloc (.cells #[.int .i64 0, .int .i64 0] 27)) (by omega))
  have Hc0 : Hid (Whole (w.alloc (.cells #[.int .i64 0, .int .i64 0] 27)) w.heap.size 27 #[.int .i64 0, .int .i64 0]) := Whole.new w _ _
  have hgs : w.heap.size ≠ g := by have := h.whole.lt; omega
  have hb2 : w.heap.size ≠ g ∧ w.heap.size ≠ b := ⟨hgs, by have := h.bl; omega⟩
  have hd8 : 4 ≤ (l.drop 4).length := by rw [List.length_drop]; omega
  obtain ⟨V1, hV1⟩ : ∃ V, V = sgn32 (lowV (l.take 4)) := ⟨_, rfl⟩
  obtain ⟨V2, hV2⟩ : ∃ V, V = sgn32 (lowV ((l.drop 4).take 4)) := ⟨_, rfl⟩
  rw [← hV1] at HN1 ⊢
  rw [← hV2]
  have HV2 := Lib.hid hV2
  clear hV1 hV2 h
  go_enter Try.func27, Try.ntmps27
  go_wp2_with fail
  refine HN1.out.mono ?_
  rintro e X ⟨rfl, ⟨p1, c1, h1⟩, h2⟩
  have HN2 := Lib.hid (degrees_any g b p1 c1 (l.drop 4) X h1 hd8)
  rw [← HV2.out] at HN2
  have HO1 := Lib.hid (HO0.out.trans h2 (fun _ _ h => h))
  have Hc1 := Lib.hid (Hc0.out.only h2 hgs)
  clear h1 h2 HN1 HO0 Hc0
  go_wp2_with fail
  refine HN2.out.mono ?_
  rintro e Y ⟨rfl, ⟨p2, c2, h1⟩, h2⟩
  rw [List.drop_drop] at h1
  have HR := Lib.hid h1
  have HO2 := Lib.hid (HO1.out.trans h2 (fun _ _ h => h))
  have Hc2 := Hc1.out.only h2 hgs
  have q0 := Hc2.cell 0
  have q1 := Hc2.cell 1
  have f0 := Hc2.frozen 0
  have f1 := Hc2.frozen 1
  clear h1 h2 HN2 HO1 Hc1
  go_wp2_with fail
  have hW : Whole ((Y.setCell ⟨w.heap.size, 0, none⟩ (.int .i64 V1)).setCell ⟨w.heap.size, 1, none⟩ (.int .i64 V2)) w.heap.size 27 #[.int .i64 V1, .int .i64 V2] := (Hc2.set 0 _).set 1 _
  have hf : ∀ W, Only (fun k => k = g) w W → Only (fun k => k = g) w (W.setCell ⟨w.heap.size, 0, none⟩ (.int .i64 V1)) := fun W h => h.setCell (fun hlt => absurd hlt (Nat.lt_irrefl _)) _
  have hf2 : ∀ W, Only (fun k => k = g) w W → Only (fun k => k = g) w (W.setCell ⟨w.heap.size, 1, none⟩ (.int .i64 V2)) := fun W h => h.setCell (fun hlt => absurd hlt (Nat.lt_irrefl _)) _
  exact bodyPost_ret (results_cell_row rfl _ _ w.heap.size 27 _ (0, 0) _ rfl hW Try.underlying27 rfl (by kernel_rfl)) rfl ⟨rfl, ⟨p2, c2, (HR.out.far hb2 _).far hb2 _⟩, hf2 _ (hf _ HO2.out)⟩
end Go.Proofs.Ytlbplefmpbpchaa

