/- Inf7 -/
import Derived.Test.YtngnhkghpnamoaaInf5
namespace Go.Proofs.Ytngnhkghpnamoaa
open Go.RowKit Huff Bit
set_option linter.unusedVariables false
set_option maxRecDepth 100000

section
variable {X : Cx} {F : Option Addr × Option Addr} {out : List Nat} {p : Nat} {w : World}
theorem Own64.int {w : World} {base : Nat} {v : Value} {l : List Nat} (h : Own64 w base v l) {k : Nat} (hk : v.ownBlock = some k) : base ≤ k ∧ ∃ cs fz, w.heap[k]? = some (Obj.cells cs 3 fz) := by
  refine ⟨(h.lt k hk).1, ?_⟩
  obtain ⟨hl, (⟨rfl, _⟩ | ⟨k', cap, cur, rfl, q1, q2, q3⟩)⟩ := h
  · cases hk
  · injection hk with hk
    subst hk
    exact ⟨_, _, q2⟩
/-- Blocks of another type have turned, none of them older than the decoder. -/
theorem Dec.other {S : Nat → Prop} {W W' : World} {q : Nat} (h : Dec X F out q W) (ho : Only S W W') (hS : ∀ k, S k → X.n ≤ k ∧ ∃ cs e fz, W.heap[k]? = some (Obj.cells cs e fz) ∧ e ≠ 5) (hX : X.Ok) : Dec X F out q W' := by
  obtain ⟨v, h1, h2⟩ := h.dec
  have hd := hX.dn
  have hr := hX.rn
  refine ⟨⟨v, h1.only ho (fun e => by have := (hS _ e).1; omega), h2.only ho (fun b hb e => ?_)⟩, h.rd.only ho (fun e => by have := (hS _ e).1; omega), h.nums.onlyIf ho h.size (fun b u x hc hb e => by have := (hS _ e).1; omega), Nat.le_trans h.size ho.size, h.at_⟩
  obtain ⟨_, cs, t, fz, hk, ht⟩ := hS b e
  obtain ⟨hl, (⟨rfl, _⟩ | ⟨k', cap, cur, rfl, q1, q2, q3⟩)⟩ := h2
  · cases hb
  · injection hb with hb
    subst hb
    rw [q2] at hk
    injection hk with hk
    injection hk with e1 e2 e3
    exact ht e2.symm
/-- A row of the call's own has grown. -/
theorem Dec.grow {S : Nat → Prop} {W W' : World} {q : Nat} (h : Dec X F out q W) (ho : Only S W W') (hS : ∀ k, S k → X.n ≤ k ∧ ∃ cs fz, W.heap[k]? = some (Obj.cells cs 3 fz)) (hX : X.Ok) : Dec X F out q W' :=
  h.other ho (fun k hk => by obtain ⟨e1, cs, fz, e2⟩ := hS k hk; exact ⟨e1, cs, _, fz, e2, by decide⟩) hX
theorem CodeK.other {S : Nat → Prop} {g : Nat} {l : List Nat} {W W' : World} (h : CodeK g l W) (ho : Only S W W') (hS : ∀ k, S k → ∃ cs e fz, W.heap[k]? = some (Obj.cells cs e fz) ∧ e ≠ 118 ∧ e ≠ 120 ∧ e ≠ 3) : CodeK g l W' := by
  obtain ⟨⟨gw, v, h1, h2, h3, h4⟩, hl⟩ := h
  have no : ∀ k cs e fz, W.heap[k]? = some (Obj.cells cs e fz) → (e = 118 ∨ e = 120 ∨ e = 3) → ¬ S k := by
    intro k cs e fz hk he hs
    obtain ⟨cs', e', fz', hk', n1, n2, n3⟩ := hS k hs
    rw [hk] at hk'
    injection hk' with hk'
    injection hk' with _ q2
    subst q2
    rcases he with he | he | he
    · exact n1 he
    · exact n2 he
    · exact n3 he
  refine ⟨⟨gw, v, h1, h2.only ho (no _ _ _ _ h2 (.inl rfl)), h3.only ho (no _ _ _ _ h3 (.inr (.inl rfl))), ⟨fun j hj => (h4.own j hj).only ho (fun b hb hs => ?_), h4.apart⟩⟩, hl⟩
  obtain ⟨_, cs, fz, hk⟩ := (h4.own j hj).int hb
  exact no _ _ _ _ hk (.inr (.inr rfl)) hs
theorem DK.grow {S : Nat → Prop} {B : Nat} {w W W' : World} (h : DK B w W) (ho : Only S W W') (hS : ∀ k, S k → w.heap.size ≤ k) (hB : B ≤ w.heap.size) : DK B w W' := by
  have hs := h.below.size
  refine ⟨h.below.trans (ho.below (fun b hb e => by have := hS b e; omega) (by omega)), fun k cs e fz hk h1 h2 h3 => ?_⟩
  have hk2 := (Array.getElem?_eq_some_iff.1 hk).1
  rw [← h.same k cs e fz hk h1 h2 h3]
  exact ho.block k (by omega) (fun e => by have := hS k e; omega)
/-- How long a slice is. -/
def lenV : Value → Nat
  | .slice _ n _ => n
  | _ => 0
theorem run_times {c l : List Nat} {q : Nat} {x : (Nat × Nat) × Nat} (h : X.run (Inf.runP c l) q = .ok x) : 1 ≤ x.1.2 ∧ x.1.2 ≤ 138 := by
  unfold Inf.runP at h
  cases hR1 : X.run (Inf.symP c) q with
  | error E => rw [run_err hR1] at h; cases h
  | ok y =>
    obtain ⟨s, q1⟩ := y
    rw [run_ok hR1] at h
    split at h
    · cases hR2 : X.run (Inf.need (decide (0 < l.length))) q1 with
      | error E => rw [run_err hR2] at h; cases h
      | ok y =>
        obtain ⟨s2, q2⟩ := y
        rw [run_ok hR2] at h
        cases hR3 : X.run (Inf.bitsP 2) q2 with
        | error E => rw [run_err hR3] at h; cases h
        | ok y =>
          obtain ⟨s3, q3⟩ := y
          rw [run_ok hR3] at h
          have h2 := run_bits_lt hR3
          injection h with h
          rw [← h]
          exact ⟨by show 1 ≤ 3 + s3; omega, by show 3 + s3 ≤ 138; simp only at h2; omega⟩
    · split at h
      · cases hR3 : X.run (Inf.bitsP 3) q1 with
        | error E => rw [run_err hR3] at h; cases h
        | ok y =>
          obtain ⟨s3, q3⟩ := y
          rw [run_ok hR3] at h
          have h2 := run_bits_lt hR3
          injection h with h
          rw [← h]
          exact ⟨by show 1 ≤ 3 + s3; omega, by show 3 + s3 ≤ 138; simp only at h2; omega⟩
      · split at h
        · cases hR3 : X.run (Inf.bitsP 7) q1 with
          | error E => rw [run_err hR3] at h; cases h
          | ok y =>
            obtain ⟨s3, q3⟩ := y
            rw [run_ok hR3] at h
            have h2 := run_bits_lt hR3
            injection h with h
            rw [← h]
            exact ⟨by show 1 ≤ 11 + s3; omega, by show 11 + s3 ≤ 138; simp only at h2; omega⟩
        · injection h with h
          rw [← h]
          exact ⟨Nat.le_refl 1, by show 1 ≤ 138; omega⟩
def LPost (X : Cx) (w : World) (R : Except Nat (List Nat × Nat)) (F : Option Addr × Option Addr) (out : List Nat) (e : Ending) (w' : World) : Prop :=
  match R with
  | .ok a => ∃ v, e = .returned v ∧ Own64 w' w.heap.size v a.1 ∧ Dec X F out a.2 w' ∧ DK X.B w w'
  | .error n => e = .panicked (pan n) ∧ Below X.B w w'
set_option maxHeartbeats 8000000 in
theorem dlengths_any (hX : X.Ok) (h : Dec X F out p w) (g n : Nat) (c : List Nat) (hC : CodeK g c w) (hn : n ≤ 399) :
    Calls Try.prog 95 #[.pointer (some ⟨X.d, 0, none⟩), .pointer (some ⟨g, 0, none⟩), .int .i64 (n : Int)] w (LPost X w (X.run (Inf.lensP c n 400 []) p) F out) := by
  obtain ⟨i1, hi1, hy0, hy1, hy2⟩ := info_parts i64info
  obtain ⟨R, hR⟩ : ∃ R, X.run (Inf.lensP c n 400 []) p = R := ⟨_, rfl⟩
  rw [hR]
  have HR := Lib.hid hR
  have HX := Lib.hid hX
  have HD := Lib.hid h
  have HC := Lib.hid hC
  have Hle := Lib.hid (h.le hX)
  have Hnn := Lib.hid h.size
  have Hdy := Lib.hid idemand_yes
  have Hdn := Lib.hid idemand_no
  have H400 : Hid (n - 0 < 400) := by show _ < _; omega
  clear hR hX h hC
  go_enter Try.func95, Try.ntmps95
  go_wp2_with fail
  go_loopw [7] (fun v W => ∃ (f q m cc : Nat) (a : Option Addr) (l : List Nat), v = .slice a m cc ∧ Hid (m = l.length) ∧ m ≤ n ∧ Hid (Own64 W w.heap.size (.slice a m cc) l) ∧ Hid (Dec X F out q W) ∧ Hid (DK X.B w W) ∧ Hid (n - m < f) ∧ Hid (X.run (Inf.lensP c n f l) q = R)) (fun v _ => n - lenV v)
  case atStart => exact ⟨400, p, 0, 0, none, [], rfl, rfl, Nat.zero_le _, Own64.nil_ _ _, HD, DK.refl _ _, H400, HR⟩
  case round =>
    obtain ⟨f0, q, m, cc, a, l, rfl, HM, hmn, HO, HDq, HK, HF, HE⟩ := hrel
    clear HR HD H400
    obtain ⟨f, rfl⟩ : ∃ f, f0 = f + 1 := ⟨f0 - 1, by have := HF.out; omega⟩
    have hE := HE.out
    unfold Inf.lensP at hE
    rw [← HM.out] at hE
    by_cases hlt : m < n
    · rw [if_neg (by omega)] at hE
      have Hrun := drun_any HX.out HDq.out g w.heap.size c l (.slice a m cc) (HC.out.dk HK.out) HO.out (by have := HM.out; omega)
      clear HE
      cases hR1 : X.run (Inf.runP c l) q with
      | error E =>
        rw [run_err hR1] at hE
        subst hE
        rw [hR1] at Hrun
        have HB := Lib.hid Hrun
        clear Hrun hR1
        go_wp2_with fail
        refine HB.out.mono ?_
        rintro e W ⟨rfl, hB⟩
        have HB := Lib.hid (HK.out.below.trans hB)
        clear hB
        go_wp2_with fail
        exact ⟨rfl, rfl, HB.out⟩
      | ok x =>
        obtain ⟨⟨sz, t⟩, q1⟩ := x
        have ht := run_times hR1
        simp only at ht
        rw [run_ok hR1] at hE
        simp only at hE
        rw [hR1] at Hrun
        have HB := Lib.hid Hrun
        clear Hrun hR1
        have w1 : IntKind.i64.wrap ((m : Int) + (t : Int)) = (m : Int) + (t : Int) := IntWalk.i64_in _ ⟨by omega, by omega⟩
        by_cases hmt : m + t ≤ n
        · have d1 : decide ((m : Int) + (t : Int) ≤ (n : Int)) = true := decide_eq_true (by omega)
          rw [run_ok (run_need (decide_eq_true hmt))] at hE
          have HE := Lib.hid hE
          clear hE
          go_wp2_with fail
          refine HB.out.mono ?_
          rintro e W1 ⟨rfl, hD1, hK1⟩
          have HD1 := Lib.hid hD1
          have HK1 := Lib.hid (HK.out.trans hK1)
          have HO1 := Lib.hid (HO.out.dk hK1)
          clear hD1 hK1 HB
          go_wp2_with fail
          refine (Hdy.out _).mono ?_
          rintro e W9 ⟨rfl, rfl⟩
          go_wp2_with fail
          go_loopw [7, 29] (fun v y W => ∃ (k m2 cc2 : Nat) (a2 : Option Addr), k ≤ t ∧ y = .int .i64 (k : Int) ∧ v = .slice a2 m2 cc2 ∧ m2 = m + k ∧ Hid (Own64 W w.heap.size (.slice a2 m2 cc2) (l ++ List.replicate k sz)) ∧ Hid (Dec X F out q1 W) ∧ Hid (DK X.B w W)) (fun _ y _ => t - (intOf y).toNat)
          case atStart => exact ⟨0, m, cc, a, Nat.zero_le _, rfl, rfl, rfl, by show Own64 _ _ _ (l ++ []); rw [List.append_nil]; exact HO1.out, HD1, HK1⟩
          case round =>
            obtain ⟨k, m2, cc2, a2, hk, rfl, rfl, hm2, HO2, HD2, HK2⟩ := hrel
            clear HO1 HD1 HK1 d1 w1
            have HM3 := Lib.hid hm2
            have hm4 : m2 ≤ 800 := by omega
            have hm5 : k < t → m2 + 1 ≤ n := by omega
            clear hm2
            by_cases hkt : k < t
            · have Hl1 : Hid (m2 + 1 ≤ maxLen) := by unfold Hid maxLen; omega
              have Hl2 : Hid ((m2 + 1) * 8 ≤ 140737488355328) := by unfold Hid; omega
              have Hbw : Hid (w.heap.size ≤ wr.heap.size) := HK2.out.below.size
              have HM2 : Hid (m2 = (l ++ List.replicate k sz).length) := by show _ = _; rw [List.length_append, List.length_replicate, ← HM.out]; exact HM3.out
              have Hown : Hid (wr.ownsRow w.heap.size 3 1 (.slice a2 m2 cc2) m2 (i64s (l ++ List.replicate k sz))) := by have h3 := HO2.out; unfold Own64 at h3; rw [← HM2.out] at h3; exact h3
              go_wp2_with (at_builtin; refine app_one rfl (.tmp 31) (.tmp 33) 57 rfl w.heap.size 3 i1 _ 8 Try.underlying57 hi1 hy0 hy1 hy2 rfl _ _ _ rfl Hown.out (.int .i64 (sz : Int)) 1 rfl rfl Hl1.out Hl2.out Hbw.out ?_)
              intro v' w1 hown hg hat
              have hG : Gone64 wr w.heap.size (.slice a2 m2 cc2) (l ++ List.replicate (k + 1) sz) v' w1 := Gone64.grown hown (by rw [HM2.out]; simp; omega) (by simp [i64s, List.replicate_succ']) hg hat
              obtain ⟨a3, cc3, rfl⟩ : ∃ a c, v' = .slice a (m2 + 1) c := by
                obtain ⟨r, cap, e, _, _⟩ := hown.form (by omega)
                exact ⟨_, _, e⟩
              have HD3 := Lib.hid (HD2.out.grow hG.only (fun k hk => by obtain ⟨e1, e2⟩ := HO2.out.int hk; exact ⟨Nat.le_trans Hnn.out e1, e2⟩) HX.out)
              have HK3 := Lib.hid (HK2.out.grow hG.only (fun k hk => (HO2.out.int hk).1) Hle.out)
              have HO3 := Lib.hid hG.own
              clear hown hg hat hG Hown
              go_wp2_with fail
              go_roundw
              case rel => exact ⟨k + 1, m2 + 1, cc3, a3, by omega, by go_num, rfl, by have := HM3.out; omega, HO3, HD3, HK3⟩
              case measure => simp [intOf]; omega
            · obtain rfl : k = t := by omega
              go_wp2_with fail
              go_roundw
              case rel => exact ⟨f, q1, m2, cc2, a2, _, rfl, by show _ = _; rw [List.length_append, List.length_replicate, ← HM.out]; exact HM3.out, by have := HM3.out; omega, HO2, HD2, HK2, by show _ < _; have := HF.out; have := HM3.out; omega, HE⟩
              case measure => simp [lenV]; have := HM3.out; omega
        · have d1 : decide ((m : Int) + (t : Int) ≤ (n : Int)) = false := decide_eq_false (by omega)
          rw [run_err (run_need_no (decide_eq_false hmt))] at hE
          subst hE
          go_wp2_with fail
          refine HB.out.mono ?_
          rintro e W1 ⟨rfl, hD1, hK1⟩
          have HK1 := Lib.hid (HK.out.trans hK1)
          clear hD1 hK1 HB
          go_wp2_with fail
          refine (Hdn.out _).mono ?_
          rintro e W9 ⟨rfl, rfl⟩
          go_wp2_with fail
          exact ⟨rfl, rfl, HK1.out.below⟩
    · rw [if_pos (by omega)] at hE
      have hE2 : Except.ok (l, q) = R := hE
      subst hE2
      clear hE HE
      go_wp2_with fail
      go_ret
      exact ⟨_, rfl, HO.out, HDq.out, HK.out⟩
end
end Go.Proofs.Ytngnhkghpnamoaa

namespace Go.Proofs.Ytngnhkghpnamoaa
open Go.RowKit Huff Bit
set_option linter.unusedVariables false
set_option maxRecDepth 100000

def OrdPost (w : World) (e : Ending) (w' : World) : Prop := ∃ g, e = .returned (.slice (some ⟨g, 0, none⟩) 19 19) ∧ Whole w' g 3 (i64s Inf.order).toArray ∧ w.heap.size ≤ g ∧ Below w.heap.size w w'
theorem order_any (w : World) : Calls Try.prog 101 #[] w (OrdPost w) := by
  go_enter Try.func101, Try.ntmps101
  go_wp2_with fail
  go_ret
  exact ⟨w.heap.size, rfl, Whole.new w _ _, Nat.le_refl _, (Below.refl _ _).alloc (Nat.le_refl _) _⟩
section
variable {X : Cx} {F : Option Addr × Option Addr} {out : List Nat} {p : Nat} {w : World}
theorem Whole.nums64 {g : Nat} {l : List Nat} (h : Whole w g 3 (i64s l).toArray) : Nums .i64 w w.heap.size (some ⟨g, 0, none⟩) l := fun hl =>
  ⟨g, 0, rfl, h.lt, fun i hi => by
    rw [Nat.zero_add, h.cell, List.getElem?_toArray]
    simp [i64s, hi]⟩
theorem order_lt : ∀ i, i < 19 → Inf.order.getD i 99 < 19 := by decide
theorem order_drop {N k : Nat} (hk : k < N) (hN : N ≤ 19) : (Inf.order.take N).drop k = Inf.order.getD k 99 :: (Inf.order.take N).drop (k + 1) := by
  have hl : (Inf.order.take N).length = N := by rw [List.length_take]; exact Nat.min_eq_left hN
  rw [List.drop_eq_getElem_cons (by omega)]
  congr 1
  rw [List.getElem_take, List.getD_eq_getElem?_getD, List.getElem?_eq_getElem (show k < Inf.order.length by show k < 19; omega)]
  rfl
theorem setCell_only {W : World} {g : Nat} {i : Nat} {u : Value} : Only (fun b => b = g) W (W.setCell ⟨g, i, none⟩ u) := Only.setCell (S := fun b => b = g) (Only.refl _ _) (p := ⟨g, i, none⟩) (fun _ => rfl) u
def CPost (X : Cx) (w : World) (R : Except Nat (List Nat × Nat)) (F : Option Addr × Option Addr) (out : List Nat) (e : Ending) (w' : World) : Prop :=
  match R with
  | .ok a => ∃ g, e = .returned (.pointer (some ⟨g, 0, none⟩)) ∧ CodeK g a.1 w' ∧ Dec X F out a.2 w' ∧ DK X.B w w'
  | .error n => e = .panicked (pan n) ∧ Below X.B w w'
set_option maxHeartbeats 8000000 in
theorem dlc_any (hX : X.Ok) (h : Dec X F out p w) :
    Calls Try.prog 96 #[.pointer (some ⟨X.d, 0, none⟩)] w (CPost X w (X.run Inf.lengthCodeP p) F out) := by
  obtain ⟨i1, hi1, hy0, hy1, hy2⟩ := info_parts i64info
  obtain ⟨R, hR⟩ : ∃ R, X.run Inf.lengthCodeP p = R := ⟨_, rfl⟩
  rw [hR]
  have HX := Lib.hid hX
  have Hle := Lib.hid (h.le hX)
  have Hnn := Lib.hid h.size
  have hmk := fun (W : World) => run_make (P := Try.prog) W 57 3 i1 _ Try.underlying57 hi1 hy0 .i64 .i64 19 19 (by omega) (Int.le_refl _) (by rw [hy2]; omega) (by omega)
  obtain ⟨A1, hA1⟩ : ∃ A, A = i64s (List.replicate 19 0) := ⟨_, rfl⟩
  have hm1 : ∀ W, (Instr.makeSlice 57 (.int .i64 19) (.int .i64 19)).run Try.prog W = .ok (.slice (some ⟨W.heap.size, 0, none⟩) 19 19) (W.alloc (.cells A1.toArray 3)) := fun W => by
    have := hmk W
    rw [hy1, show (Value.int .i64 0).cells = #[.int .i64 0] from rfl, Nat.mul_one, show ((19 : Int)).toNat = 19 from rfl, imade, ← hA1] at this
    exact this
  have Hord := Lib.hid order_any
  obtain ⟨g, hg⟩ : ∃ g, g = w.heap.size := ⟨_, rfl⟩
  obtain ⟨X1, hX1⟩ : ∃ X, X = w.alloc (.cells A1.toArray 3) := ⟨_, rfl⟩
  have hW0 : Whole X1 g 3 (i64s (List.replicate 19 0)).toArray := by rw [hX1, hg, ← hA1]; exact Whole.new w _ _
  have hB0 : Below w.heap.size w X1 := by rw [hX1]; exact (Below.refl _ _).alloc (Nat.le_refl _) _
  have HD1 := Lib.hid (h.below hX hB0)
  have HK1 : Hid (DK X.B w X1) := DK.of_below hB0 (h.le hX)
  have HW1 := Lib.hid hW0
  have Hg : Hid (w.heap.size ≤ g) := by show _ ≤ _; omega
  have Hb := dbits_any hX (h.below hX hB0) 4 (by omega)
  unfold Inf.lengthCodeP at hR
  clear hmk hA1 h hX hW0 hB0
  cases hR1 : X.run (Inf.bitsP 4) p with
  | error E =>
    rw [run_err hR1] at hR
    subst hR
    rw [hR1] at Hb
    have HB := Lib.hid Hb
    clear Hb hR1
    go_enter Try.func96, Try.ntmps96
    go_wp2_with fail
    rw [← hX1]
    refine HB.out.mono ?_
    rintro e W ⟨rfl, hB⟩
    have HB := Lib.hid (HK1.out.below.trans hB)
    clear hB
    go_wp2_with fail
    exact ⟨rfl, rfl, HB.out⟩
  | ok x =>
    obtain ⟨V, q1⟩ := x
    rw [run_ok hR1] at hR
    have hv := run_bits_lt hR1
    simp only at hv
    rw [hR1] at Hb
    have HB := Lib.hid Hb
    obtain ⟨N, hN⟩ : ∃ N, V + 4 = N := ⟨_, rfl⟩
    rw [hN] at hR
    have w1 : IntKind.i64.wrap ((V : Int) + 4) = (N : Int) := by rw [IntWalk.i64_in _ ⟨by omega, by omega⟩]; omega
    have hN19 : N ≤ 19 := by omega
    have n0 : (0 : Int) ≤ (N : Int) := by omega
    have n1 : (N : Int) ≤ 19 := by omega
    have HR := Lib.hid hR
    clear Hb hR1 hv hR
    go_enter Try.func96, Try.ntmps96
    go_wp2_with fail
    rw [← hX1]
    subst hg
    refine HB.out.mono ?_
    rintro e W2 ⟨rfl, hD2, hK2⟩
    have HD2 := Lib.hid hD2
    have HK2 := Lib.hid (HK1.out.trans hK2)
    have HW2 := Lib.hid (HW1.out.dk hK2 (by decide) (by decide) (by decide))
    clear hD2 hK2 hm1 HB HW1 HK1 HD1
    go_wp2_with fail
    refine (Hord.out _).mono ?_
    rintro e W3 ⟨og, rfl, hO, hog, hB3⟩
    have HO3 := Lib.hid hO
    have HD3 := Lib.hid (HD2.out.below HX.out hB3)
    have HK3 := Lib.hid (HK2.out.trans (DK.of_below hB3 (HD2.out.le HX.out)))
    have HW3 := Lib.hid (HW2.out.below hB3 HW2.out.lt)
    have Hgo : Hid (w.heap.size ≠ og) := by show _ ≠ _; have := HW2.out.lt; omega
    clear hO hog hB3 HW2 HK2 HD2
    go_wp2_with fail
    go_loopw [15] (fun y W => ∃ (k q : Nat) (lens : List Nat), k ≤ N ∧ y = .int .i64 (k : Int) ∧ lens.length = 19 ∧ Hid (Whole W w.heap.size 3 (i64s lens).toArray) ∧ Hid (Whole W og 3 (i64s Inf.order).toArray) ∧ Hid (Dec X F out q W) ∧ Hid (DK X.B w W) ∧
      Hid (X.run (Inf.bnd (Inf.clenP ((Inf.order.take N).drop k) lens) fun l => Inf.bnd (Inf.need (Inf.codeB l false)) fun _ => Inf.ret l) q = R)) (fun y _ => N - (intOf y).toNat)
    case atStart => exact ⟨0, q1, List.replicate 19 0, Nat.zero_le _, rfl, by simp, HW3, HO3, HD3, HK3, HR⟩
    case round =>
      obtain ⟨k, q, lens, hk, rfl, hll, HW, HO, HD, HK, HE⟩ := hrel
      clear HR HD3 HK3 HW3 HO3
      have hE := HE.out
      by_cases hlt : k < N
      · rw [order_drop hlt hN19] at hE
        unfold Inf.clenP at hE
        rw [bnd_assoc] at hE
        have hs := order_lt k (by omega)
        have p0 : wr.cell? ⟨og, 0 + k, none⟩ = some (.int .i64 ((Inf.order.getD k 99 : Nat) : Int)) := by
          rw [Nat.zero_add, HO.out.cell, List.getElem?_toArray]
          have : k < Inf.order.length := by show k < 19; omega
          simp [i64s, this]
        have p0' : wr.cell? ⟨og, k, none⟩ = some (.int .i64 ((Inf.order.getD k 99 : Nat) : Int)) := by rw [Nat.zero_add] at p0; exact p0
        generalize Inf.order.getD k 99 = s at *
        have k0 : (0 : Int) ≤ (k : Int) := by omega
        have k1 : (k : Int) < (N : Int) := by omega
        have s0 : (0 : Int) ≤ (s : Int) := by omega
        have s1 : (s : Int) < 19 := by omega
        have Hb := dbits_any HX.out HD.out 3 (by omega)
        clear HE
        cases hR1 : X.run (Inf.bitsP 3) q with
        | error E =>
          rw [run_err hR1] at hE
          subst hE
          rw [hR1] at Hb
          have HB := Lib.hid Hb
          clear Hb hR1
          go_wp2_with fail
          refine HB.out.mono ?_
          rintro e W ⟨rfl, hB⟩
          have HB := Lib.hid (HK.out.below.trans hB)
          clear hB
          go_wp2_with fail
          exact ⟨rfl, rfl, HB.out⟩
        | ok x =>
          obtain ⟨V3, q2⟩ := x
          rw [run_ok hR1] at hE
          rw [hR1] at Hb
          have HB := Lib.hid Hb
          have HE := Lib.hid hE
          clear Hb hR1 hE
          go_wp2_with fail
          refine HB.out.mono ?_
          rintro e W4 ⟨rfl, hD4, hK4⟩
          have HW4 := Lib.hid (HW.out.dk hK4 (by decide) (by decide) (by decide))
          have HO4 := Lib.hid ((HO.out.dk hK4 (by decide) (by decide) (by decide)).far (p := ⟨w.heap.size, s, none⟩) (fun e => Hgo.out e.symm) (.int .i64 (V3 : Int)))
          have HW5 := Lib.hid (HW4.out.seti s V3)
          have HD5 : Hid (Dec X F out q2 (W4.setCell ⟨w.heap.size, s, none⟩ (.int .i64 (V3 : Int)))) := hD4.grow setCell_only (fun b hb => by subst hb; exact ⟨Nat.le_trans Hnn.out Hg.out, _, _, HW4.out⟩) HX.out
          have HK5 : Hid (DK X.B w (W4.setCell ⟨w.heap.size, s, none⟩ (.int .i64 (V3 : Int)))) := (HK.out.trans hK4).grow setCell_only (fun b hb => by subst hb; exact Hg.out) Hle.out
          have g0 : W4.cell? ⟨w.heap.size, s, none⟩ = some (.int .i64 (lens.getD s 0 : Nat)) := by
            rw [HW4.out.cell, List.getElem?_toArray]
            have : s < lens.length := by omega
            simp [i64s, this]
          have f0 := HW4.out.frozen s
          clear hD4 hK4 HB
          go_wp2_with fail
          go_roundw
          case rel => exact ⟨k + 1, q2, lens.set s V3, by omega, by go_num, by rw [List.length_set]; exact hll, HW5, HO4, HD5, HK5, HE⟩
          case measure => simp [intOf]; omega
      · obtain rfl : k = N := by omega
        have hd : (Inf.order.take k).drop k = [] := by
          apply List.drop_eq_nil_of_le
          rw [List.length_take]
          exact Nat.min_le_left _ _
        rw [hd] at hE
        have hE1 : X.run (Inf.bnd (Inf.need (Inf.codeB lens false)) fun _ => Inf.ret lens) q = R := hE
        have HN1 := HW.out.nums64
        clear hE HE hlt hd
        cases hcb : Inf.codeB lens false with
        | true =>
          rw [hcb, run_ok (run_need rfl)] at hE1
          have hE2 : Except.ok (lens, q) = R := hE1
          subst hE2
          have HC := Lib.hid (icode_yes (some ⟨w.heap.size, 0, none⟩) 19 lens false wr HN1 (by omega) hcb)
          rw [hll] at HC
          clear hE1 HN1 hcb
          go_wp2_with fail
          refine HC.out.mono ?_
          rintro e W9 ⟨gc, rfl, h1, h2⟩
          have H1 := Lib.hid h1
          have HD9 := Lib.hid (HD.out.below HX.out h2)
          have HK9 := Lib.hid (HK.out.trans (DK.of_below h2 (HD.out.le HX.out)))
          clear h1 h2 HC
          go_wp2_with fail
          go_ret
          exact ⟨gc, rfl, H1.out, HD9.out, HK9.out⟩
        | false =>
          rw [hcb, run_err (run_need_no rfl)] at hE1
          subst hE1
          have HC := Lib.hid (icode_no (some ⟨w.heap.size, 0, none⟩) 19 lens false wr HN1 (by omega) hcb)
          rw [hll] at HC
          clear HN1 hcb
          go_wp2_with fail
          refine HC.out.mono ?_
          rintro e W9 ⟨rfl, rfl⟩
          go_wp2_with fail
          exact ⟨rfl, rfl, HK.out.below⟩
end
end Go.Proofs.Ytngnhkghpnamoaa
