/- Layer 4: the decoder's calls: lengths. -/
import Derived.Test.YtfbfflgffibjbaaInf5
namespace Go.Proofs.Ytfbfflgffibjbaa
open Go.RowKit Huff Bit
set_option linter.unusedVariables false
set_option maxRecDepth 100000

section
variable {X : Cx} {F : Option Addr × Option Addr} {out : List Nat} {p : Nat} {w : World}
theorem Own64.int {w : World} {base : Nat} {v : Value} {l : List Nat} (h : Own64 w base v l) {k : Nat} (hk : v.ownBlock = some k) : base ≤ k ∧ ∃ cs fz, w.heap[k]? = some (Obj.cells cs 3 fz) := by
  refine ⟨(h.lt k hk).1, ?_⟩
  obtain ⟨hl, (⟨rfl, _⟩ | ⟨k', cap, cur, rfl, q1, q2, q3⟩)⟩ := h
  · cases hk
  · injection hk with hk
    subst hk
    exact ⟨_, _, q2⟩
/-- Blocks of another type have turned, none of them older than the decoder. -/
theorem Dec.other {S : Nat → Prop} {W W' : World} {q : Nat} (h : Dec X F out q W) (ho : Only S W W') (hS : ∀ k, S k → X.n ≤ k ∧ ∃ cs e fz, W.heap[k]? = some (Obj.cells cs e fz) ∧ e ≠ 5) (hX : X.Ok) : Dec X F out q W' := by
  obtain ⟨v, h1, h2⟩ := h.dec
  have hd := hX.dn
  have hr := hX.rn
  refine ⟨⟨v, h1.only ho (fun e => by have := (hS _ e).1; omega), h2.only ho (fun b hb e => ?_)⟩, h.rd.only ho (fun e => by have := (hS _ e).1; omega), h.nums.onlyIf ho h.size (fun b u x hc hb e => by have := (hS _ e).1; omega), Nat.le_trans h.size ho.size, h.at_⟩
  obtain ⟨_, cs, t, fz, hk, ht⟩ := hS b e
  obtain ⟨hl, (⟨rfl, _⟩ | ⟨k', cap, cur, rfl, q1, q2, q3⟩)⟩ := h2
  · cases hb
  · injection hb with hb
    subst hb
    rw [q2] at hk
    injection hk with hk
    injection hk with e1 e2 e3
    exact ht e2.symm
/-- A row of the call's own has grown. -/
theorem Dec.grow {S : Nat → Prop} {W W' : World} {q : Nat} (h : Dec X F out q W) (ho : Only S W W') (hS : ∀ k, S k → X.n ≤ k ∧ ∃ cs fz, W.heap[k]? = some (Obj.cells cs 3 fz)) (hX : X.Ok) : Dec X F out q W' :=
  h.other ho (fun k hk => by obtain ⟨e1, cs, fz, e2⟩ := hS k hk; exact ⟨e1, cs, _, fz, e2, by decide⟩) hX
theorem CodeK.other {S : Nat → Prop} {g : Nat} {l : List Nat} {W W' : World} (h : CodeK g l W) (ho : Only S W W') (hS : ∀ k, S k → ∃ cs e fz, W.heap[k]? = some (Obj.cells cs e fz) ∧ e ≠ 78 ∧ e ≠ 84 ∧ e ≠ 3) : CodeK g l W' := by
  obtain ⟨⟨gw, v, h1, h2, h3, h4⟩, hl⟩ := h
  have no : ∀ k cs e fz, W.heap[k]? = some (Obj.cells cs e fz) → (e = 78 ∨ e = 84 ∨ e = 3) → ¬ S k := by
    intro k cs e fz hk he hs
    obtain ⟨cs', e', fz', hk', n1, n2, n3⟩ := hS k hs
    rw [hk] at hk'
    injection hk' with hk'
    injection hk' with _ q2
    subst q2
    rcases he with he | he | he
    · exact n1 he
    · exact n2 he
    · exact n3 he
  refine ⟨⟨gw, v, h1, h2.only ho (no _ _ _ _ h2 (.inl rfl)), h3.only ho (no _ _ _ _ h3 (.inr (.inl rfl))), ⟨fun j hj => (h4.own j hj).only ho (fun b hb hs => ?_), h4.apart⟩⟩, hl⟩
  obtain ⟨_, cs, fz, hk⟩ := (h4.own j hj).int hb
  exact no _ _ _ _ hk (.inr (.inr rfl)) hs
theorem DK.grow {S : Nat → Prop} {B : Nat} {w W W' : World} (h : DK B w W) (ho : Only S W W') (hS : ∀ k, S k → w.heap.size ≤ k) (hB : B ≤ w.heap.size) : DK B w W' := by
  have hs := h.below.size
  refine ⟨h.below.trans (ho.below (fun b hb e => by have := hS b e; omega) (by omega)), fun k cs e fz hk h1 h2 h3 => ?_⟩
  have hk2 := (Array.getElem?_eq_some_iff.1 hk).1
  rw [← h.same k cs e fz hk h1 h2 h3]
  exact ho.block k (by omega) (fun e => by have := hS k e; omega)
/-- How long a slice is. -/
def lenV : Value → Nat
  | .slice _ n _ => n
  | _ => 0
theorem run_times {c l : List Nat} {q : Nat} {x : (Nat × Nat) × Nat} (h : X.run (Inf.runP c l) q = .ok x) : 1 ≤ x.1.2 ∧ x.1.2 ≤ 138 := by
  unfold Inf.runP at h
  cases hR1 : X.run (Inf.symP c) q with
  | error E => rw [run_err hR1] at h; cases h
  | ok y =>
    obtain ⟨s, q1⟩ := y
    rw [run_ok hR1] at h
    split at h
    · cases hR2 : X.run (Inf.need (decide (0 < l.length))) q1 with
      | error E => rw [run_err hR2] at h; cases h
      | ok y =>
        obtain ⟨s2, q2⟩ := y
        rw [run_ok hR2] at h
        cases hR3 : X.run (Inf.bitsP 2) q2 with
        | error E => rw [run_err hR3] at h; cases h
        | ok y =>
          obtain ⟨s3, q3⟩ := y
          rw [run_ok hR3] at h
          have h2 := run_bits_lt hR3
          injection h with h
          rw [← h]
          exact ⟨by show 1 ≤ 3 + s3; omega, by show 3 + s3 ≤ 138; simp only at h2; omega⟩
    · split at h
      · cases hR3 : X.run (Inf.bitsP 3) q1 with
        | error E => rw [run_err hR3] at h; cases h
        | ok y =>
          obtain ⟨s3, q3⟩ := y
          rw [run_ok hR3] at h
          have h2 := run_bits_lt hR3
          injection h with h
          rw [← h]
          exact ⟨by show 1 ≤ 3 + s3; omega, by show 3 + s3 ≤ 138; simp only at h2; omega⟩
      · split at h
        · cases hR3 : X.run (Inf.bitsP 7) q1 with
          | error E => rw [run_err hR3] at h; cases h
          | ok y =>
            obtain ⟨s3, q3⟩ := y
            rw [run_ok hR3] at h
            have h2 := run_bits_lt hR3
            injection h with h
            rw [← h]
            exact ⟨by show 1 ≤ 11 + s3; omega, by show 11 + s3 ≤ 138; simp only at h2; omega⟩
        · injection h with h
          rw [← h]
          exact ⟨Nat.le_refl 1, by show 1 ≤ 138; omega⟩
def LPost (X : Cx) (w : World) (R : Except Nat (List Nat × Nat)) (F : Option Addr × Option Addr) (out : List Nat) (e : Ending) (w' : World) : Prop :=
  match R with
  | .ok a => ∃ v, e = .returned v ∧ Own64 w' w.heap.size v a.1 ∧ Dec X F out a.2 w' ∧ DK X.B w w'
  | .error n => e = .panicked (pan n) ∧ Below X.B w w'
set_option maxHeartbeats 8000000 in
theorem dlengths_any (hX : X.Ok) (h : Dec X F out p w) (g n : Nat) (c : List Nat) (hC : CodeK g c w) (hn : n ≤ 399) :
    Calls Try.prog 37 #[.pointer (some ⟨X.d, 0, none⟩), .pointer (some ⟨g, 0, none⟩), .int .i64 (n : Int)] w (LPost X w (X.run (Inf.lensP c n 400 []) p) F out) := by
  obtain ⟨i1, hi1, hy0, hy1, hy2⟩ := info_parts i64info
  obtain ⟨R, hR⟩ : ∃ R, X.run (Inf.lensP c n 400 []) p = R := ⟨_, rfl⟩
  rw [hR]
  have HR := Lib.hid hR
  have HX := Lib.hid hX
  have HD := Lib.hid h
  have HC := Lib.hid hC
  have Hle := Lib.hid (h.le hX)
  have Hnn := Lib.hid h.size
  have Hdy := Lib.hid idemand_yes
  have Hdn := Lib.hid idemand_no
  have H400 : Hid (n - 0 < 400) := by show _ < _; omega
  clear hR hX h hC
  go_enter Try.func37, Try.ntmps37
  go_wp2_with fail
  go_loopw [7] (fun v W => ∃ (f q m cc : Nat) (a : Option Addr) (l : List Nat), v = .slice a m cc ∧ Hid (m = l.length) ∧ m ≤ n ∧ Hid (Own64 W w.heap.size (.slice a m cc) l) ∧ Hid (Dec X F out q W) ∧ Hid (DK X.B w W) ∧ Hid (n - m < f) ∧ Hid (X.run (Inf.lensP c n f l) q = R)) (fun v _ => n - lenV v)
  case atStart => exact ⟨400, p, 0, 0, none, [], rfl, rfl, Nat.zero_le _, Own64.nil_ _ _, HD, DK.refl _ _, H400, HR⟩
  case round =>
    obtain ⟨f0, q, m, cc, a, l, rfl, HM, hmn, HO, HDq, HK, HF, HE⟩ := hrel
    clear HR HD H400
    obtain ⟨f, rfl⟩ : ∃ f, f0 = f + 1 := ⟨f0 - 1, by have := HF.out; omega⟩
    have hE := HE.out
    unfold Inf.lensP at hE
    rw [← HM.out] at hE
    by_cases hlt : m < n
    · rw [if_neg (by omega)] at hE
      have Hrun := drun_any HX.out HDq.out g w.heap.size c l (.slice a m cc) (HC.out.dk HK.out) HO.out (by have := HM.out; omega)
      clear HE
      cases hR1 : X.run (Inf.runP c l) q with
      | error E =>
        rw [run_err hR1] at hE
        subst hE
        rw [hR1] at Hrun
        have HB := Lib.hid Hrun
        clear Hrun hR1
        go_wp2_with fail
        refine HB.out.mono ?_
        rintro e W ⟨rfl, hB⟩
        have HB := Lib.hid (HK.out.below.trans hB)
        clear hB
        go_wp2_with fail
        exact ⟨rfl, rfl, HB.out⟩
      | ok x =>
        obtain ⟨⟨sz, t⟩, q1⟩ := x
        have ht := run_times hR1
        simp only at ht
        rw [run_ok hR1] at hE
        simp only at hE
        rw [hR1] at Hrun
        have HB := Lib.hid Hrun
        clear Hrun hR1
        have w1 : IntKind.i64.wrap ((m : Int) + (t : Int)) = (m : Int) + (t : Int) := IntWalk.i64_in _ ⟨by omega, by omega⟩
        by_cases hmt : m + t ≤ n
        · have d1 : decide ((m : Int) + (t : Int) ≤ (n : Int)) = true := decide_eq_true (by omega)
          rw [run_ok (run_need (decide_eq_true hmt))] at hE
          have HE := Lib.hid hE
          clear hE
          go_wp2_with fail
          refine HB.out.mono ?_
          rintro e W1 ⟨rfl, hD1, hK1⟩
          have HD1 := Lib.hid hD1
          have HK1 := Lib.hid (HK.out.trans hK1)
          have HO1 := Lib.hid (HO.out.dk hK1)
          clear hD1 hK1 HB
          go_wp2_with fail
          refine (Hdy.out _).mono ?_
          rintro e W9 ⟨rfl, rfl⟩
          go_wp2_with fail
          go_loopw [7, 29] (fun v y W => ∃ (k m2 cc2 : Nat) (a2 : Option Addr), k ≤ t ∧ y = .int .i64 (k : Int) ∧ v = .slice a2 m2 cc2 ∧ m2 = m + k ∧ Hid (Own64 W w.heap.size (.slice a2 m2 cc2) (l ++ List.replicate k sz)) ∧ Hid (Dec X F out q1 W) ∧ Hid (DK X.B w W)) (fun _ y _ => t - (intOf y).toNat)
          case atStart => exact ⟨0, m, cc, a, Nat.zero_le _, rfl, rfl, rfl, by show Own64 _ _ _ (l ++ []); rw [List.append_nil]; exact HO1.out, HD1, HK1⟩
          case round =>
            obtain ⟨k, m2, cc2, a2, hk, rfl, rfl, hm2, HO2, HD2, HK2⟩ := hrel
            clear HO1 HD1 HK1 d1 w1
            have HM3 := Lib.hid hm2
            have hm4 : m2 ≤ 800 := by omega
            have hm5 : k < t → m2 + 1 ≤ n := by omega
            clear hm2
            by_cases hkt : k < t
            · have Hl1 : Hid (m2 + 1 ≤ maxLen) := by unfold Hid maxLen; omega
              have Hl2 : Hid ((m2 + 1) * 8 ≤ 140737488355328) := by unfold Hid; omega
              have Hbw : Hid (w.heap.size ≤ wr.heap.size) := HK2.out.below.size
              have HM2 : Hid (m2 = (l ++ List.replicate k sz).length) := by show _ = _; rw [List.length_append, List.length_replicate, ← HM.out]; exact HM3.out
              have Hown : Hid (wr.ownsRow w.heap.size 3 1 (.slice a2 m2 cc2) m2 (i64s (l ++ List.replicate k sz))) := by have h3 := HO2.out; unfold Own64 at h3; rw [← HM2.out] at h3; exact h3
              go_wp2_with (at_builtin; refine app_one rfl (.tmp 31) (.tmp 33) 31 rfl w.heap.size 3 i1 _ 8 Try.underlying31 hi1 hy0 hy1 hy2 rfl _ _ _ rfl Hown.out (.int .i64 (sz : Int)) 1 rfl rfl Hl1.out Hl2.out Hbw.out ?_)
              intro v' w1 hown hg hat
              have hG : Gone64 wr w.heap.size (.slice a2 m2 cc2) (l ++ List.replicate (k + 1) sz) v' w1 := Gone64.grown hown (by rw [HM2.out]; simp; omega) (by simp [i64s, List.replicate_succ']) hg hat
              obtain ⟨a3, cc3, rfl⟩ : ∃ a c, v' = .slice a (m2 + 1) c := by
                obtain ⟨r, cap, e, _, _⟩ := hown.form (by omega)
                exact ⟨_, _, e⟩
              have HD3 := Lib.hid (HD2.out.grow hG.only (fun k hk => by obtain ⟨e1, e2⟩ := HO2.out.int hk; exact ⟨Nat.le_trans Hnn.out e1, e2⟩) HX.out)
              have HK3 := Lib.hid (HK2.out.grow hG.only (fun k hk => (HO2.out.int hk).1) Hle.out)
              have HO3 := Lib.hid hG.own
              clear hown hg hat hG Hown
              go_wp2_with fail
              go_roundw
              case rel => exact ⟨k + 1, m2 + 1, cc3, a3, by omega, by go_num, rfl, by have := HM3.out; omega, HO3, HD3, HK3⟩
              case measure => simp [intOf]; omega
            · obtain rfl : k = t := by omega
              go_wp2_with fail
              go_roundw
              case rel => exact ⟨f, q1, m2, cc2, a2, _, rfl, by show _ = _; rw [List.length_append, List.length_replicate, ← HM.out]; exact HM3.out, by have := HM3.out; omega, HO2, HD2, HK2, by show _ < _; have := HF.out; have := HM3.out; omega, HE⟩
              case measure => simp [lenV]; have := HM3.out; omega
        · have d1 : decide ((m : Int) + (t : Int) ≤ (n : Int)) = false := decide_eq_false (by omega)
          rw [run_err (run_need_no (decide_eq_false hmt))] at hE
          subst hE
          go_wp2_with fail
          refine HB.out.mono ?_
          rintro e W1 ⟨rfl, hD1, hK1⟩
          have HK1 := Lib.hid (HK.out.trans hK1)
          clear hD1 hK1 HB
          go_wp2_with fail
          refine (Hdn.out _).mono ?_
          rintro e W9 ⟨rfl, rfl⟩
          go_wp2_with fail
          exact ⟨rfl, rfl, HK1.out.below⟩
    · rw [if_pos (by omega)] at hE
      have hE2 : Except.ok (l, q) = R := hE
      subst hE2
      clear hE HE
      go_wp2_with fail
      go_ret
      exact ⟨_, rfl, HO.out, HDq.out, HK.out⟩
end
end Go.Proofs.Ytfbfflgffibjbaa
