/- Layer 4: the decoder's calls: block. -/
import Derived.Test.YtfbfflgffibjbaaInf9
namespace Go.Proofs.Ytfbfflgffibjbaa
open Go.RowKit Huff Bit
set_option linter.unusedVariables false
set_option maxRecDepth 100000

section
variable {X : Cx} {F : Option Addr × Option Addr} {out : List Nat} {p : Nat} {w : World}
def BPost (X : Cx) (w : World) (R : Except Nat ((Nat × List Nat) × Nat)) (e : Ending) (w' : World) : Prop :=
  match R with
  | .ok a => e = .returned (.bool (a.1.1 == 1)) ∧ (∃ F, Dec X F a.1.2 a.2 w' ∧ Fix F w') ∧ DK X.B w w'
  | .error n => e = .panicked (pan n) ∧ Below X.B w w'
set_option maxHeartbeats 8000000 in
theorem dblock_any (hX : X.Ok) (h : Dec X F out p w) (hF : Fix F w) :
    Calls Try.prog 19 #[.pointer (some ⟨X.d, 0, none⟩)] w (BPost X w (X.run (Inf.blockP X.most out) p)) := by
  obtain ⟨R, hR⟩ : ∃ R, X.run (Inf.blockP X.most out) p = R := ⟨_, rfl⟩
  rw [hR]
  have HX := Lib.hid hX
  have HF := Lib.hid hF
  have Hb := dbits_any hX h 1 (by omega)
  unfold Inf.blockP at hR
  clear h hX hF
  cases hR1 : X.run (Inf.bitsP 1) p with
  | error E =>
    rw [run_err hR1] at hR
    subst hR
    rw [hR1] at Hb
    have HB := Lib.hid Hb
    clear Hb hR1
    go_enter Try.func19, Try.ntmps19
    go_wp2_with fail
    refine HB.out.mono ?_
    rintro e W ⟨rfl, hB⟩
    have HB := Lib.hid hB
    clear hB
    go_wp2_with fail
    exact ⟨rfl, rfl, HB.out⟩
  | ok x =>
    obtain ⟨la, q1⟩ := x
    rw [run_ok hR1] at hR
    have hla := run_bits_lt hR1
    simp only at hla
    rw [hR1] at Hb
    have HB := Lib.hid Hb
    have e1 : Hid (((la : Int) == 1) = (la == 1)) := by
      show _ = _
      rcases (show la = 0 ∨ la = 1 by omega) with rfl | rfl <;> rfl
    have HR := Lib.hid hR
    clear Hb hR1 hla hR
    go_enter Try.func19, Try.ntmps19
    go_wp2_with fail
    refine HB.out.mono ?_
    rintro e W1 ⟨rfl, hD1, hK1⟩
    have HD1 := Lib.hid hD1
    have HK1 := Lib.hid hK1
    have HF1 := Lib.hid (HF.out.dk hK1)
    have Hb := dbits_any HX.out hD1 2 (by omega)
    have hR := HR.out
    clear hD1 hK1 HB HF HR
    cases hR1 : X.run (Inf.bitsP 2) q1 with
    | error E =>
      rw [run_err hR1] at hR
      subst hR
      rw [hR1] at Hb
      have HB := Lib.hid Hb
      clear Hb hR1
      go_wp2_with fail
      refine HB.out.mono ?_
      rintro e W ⟨rfl, hB⟩
      have HB := Lib.hid (HK1.out.below.trans hB)
      clear hB
      go_wp2_with fail
      exact ⟨rfl, rfl, HB.out⟩
    | ok x =>
      obtain ⟨k, q2⟩ := x
      rw [run_ok hR1] at hR
      have hk4 := run_bits_lt hR1
      simp only at hk4
      rw [hR1] at Hb
      have HB := Lib.hid Hb
      unfold Inf.kindP at hR
      clear Hb hR1
      by_cases k0 : k = 0
      · subst k0
        rw [if_pos rfl] at hR
        have HR := Lib.hid hR
        clear hR hk4
        go_wp2_with fail
        refine HB.out.mono ?_
        rintro e W2 ⟨rfl, hD2, hK2⟩
        have HK2 := Lib.hid (HK1.out.trans hK2)
        have HF2 := Lib.hid (HF1.out.dk hK2)
        have Hst := dstored_any HX.out hD2
        have hR := HR.out
        clear hD2 hK2 HB HF1 HR
        cases hR1 : X.run (Inf.storedP X.most out) q2 with
        | error E =>
          rw [run_err hR1] at hR
          subst hR
          rw [hR1] at Hst
          have HB := Lib.hid Hst
          clear Hst hR1
          go_wp2_with fail
          refine HB.out.mono ?_
          rintro e W ⟨rfl, hB⟩
          have HB := Lib.hid (HK2.out.below.trans hB)
          clear hB
          go_wp2_with fail
          exact ⟨rfl, rfl, HB.out⟩
        | ok x =>
          obtain ⟨o, q3⟩ := x
          rw [run_ok hR1] at hR
          have hE : Except.ok ((la, o), q3) = R := hR
          subst hE
          rw [hR1] at Hst
          have HB := Lib.hid Hst
          clear Hst hR1 hR
          go_wp2_with fail
          refine HB.out.mono ?_
          rintro e W3 ⟨rfl, hD3, hK3⟩
          have HD3 := Lib.hid hD3
          have HK3 := Lib.hid (HK2.out.trans hK3)
          have HF3 := Lib.hid (HF2.out.dk hK3)
          clear hD3 hK3 HB HF2
          go_wp2_with fail
          go_ret
          exact ⟨congrArg (fun b => Ending.returned (.bool b)) e1.out, ⟨_, HD3.out, HF3.out⟩, HK3.out⟩
      · rw [if_neg k0] at hR
        have d0 : ((k : Int) == 0) = false := by simp; omega
        by_cases k1 : k = 1
        · subst k1
          rw [if_pos rfl] at hR
          have HR := Lib.hid hR
          clear hR hk4 k0
          go_wp2_with fail
          refine HB.out.mono ?_
          rintro e W2 ⟨rfl, hD2, hK2⟩
          have HK2 := Lib.hid (HK1.out.trans hK2)
          have Hfx := Lib.hid (dfixed_any HX.out hD2 (HF1.out.dk hK2))
          clear hD2 hK2 HB HF1
          go_wp2_with fail
          refine Hfx.out.mono ?_
          rintro e W3 ⟨gl, gf, rfl, hc1, hc2, hD3, hK3⟩
          have HK3 := Lib.hid (HK2.out.trans hK3)
          have HC1 := Lib.hid hc1
          have HC2 := Lib.hid hc2
          have Hsy := dsymbols_any HX.out hD3 gl gf Inf.fixLits Inf.fixFars hc1 hc2
          have hR := HR.out
          clear hD3 hK3 hc1 hc2 Hfx HR HK2
          cases hR1 : X.run (Inf.symsP Inf.fixLits Inf.fixFars X.most Inf.fuel out) q2 with
          | error E =>
            rw [run_err hR1] at hR
            subst hR
            rw [hR1] at Hsy
            have HB := Lib.hid Hsy
            clear Hsy hR1
            go_wp2_with fail
            refine HB.out.mono ?_
            rintro e W ⟨rfl, hB⟩
            have HB := Lib.hid (HK3.out.below.trans hB)
            clear hB
            go_wp2_with fail
            exact ⟨rfl, rfl, HB.out⟩
          | ok x =>
            obtain ⟨o, q3⟩ := x
            rw [run_ok hR1] at hR
            have hE : Except.ok ((la, o), q3) = R := hR
            subst hE
            rw [hR1] at Hsy
            have HB := Lib.hid Hsy
            clear Hsy hR1 hR
            go_wp2_with fail
            refine HB.out.mono ?_
            rintro e W4 ⟨rfl, hD4, hK4⟩
            have HD4 := Lib.hid hD4
            have HK4 := Lib.hid (HK3.out.trans hK4)
            have HF4 : Hid (Fix (some ⟨gl, 0, none⟩, some ⟨gf, 0, none⟩) W4) := .inr ⟨gl, gf, rfl, HC1.out.dk hK4, HC2.out.dk hK4⟩
            clear hD4 hK4 HB
            go_wp2_with fail
            go_ret
            exact ⟨congrArg (fun b => Ending.returned (.bool b)) e1.out, ⟨_, HD4.out, HF4.out⟩, HK4.out⟩
        · rw [if_neg k1] at hR
          have d1 : ((k : Int) == 1) = false := by simp; omega
          by_cases k2 : k = 2
          · subst k2
            rw [if_pos rfl, bnd_assoc] at hR
            have HR := Lib.hid hR
            clear hR hk4 k0 k1
            go_wp2_with fail
            refine HB.out.mono ?_
            rintro e W2 ⟨rfl, hD2, hK2⟩
            have HK2 := Lib.hid (HK1.out.trans hK2)
            have HF2 := Lib.hid (HF1.out.dk hK2)
            have Hdy := ddyn_any HX.out hD2
            have hR := HR.out
            clear hD2 hK2 HB HF1 HR
            cases hR1 : X.run Inf.dynP q2 with
            | error E =>
              rw [run_err hR1] at hR
              subst hR
              rw [hR1] at Hdy
              have HB := Lib.hid Hdy
              clear Hdy hR1
              go_wp2_with fail
              refine HB.out.mono ?_
              rintro e W ⟨rfl, hB⟩
              have HB := Lib.hid (HK2.out.below.trans hB)
              clear hB
              go_wp2_with fail
              exact ⟨rfl, rfl, HB.out⟩
            | ok x =>
              obtain ⟨⟨l1, l2⟩, q3⟩ := x
              rw [run_ok hR1] at hR
              rw [hR1] at Hdy
              have HB := Lib.hid Hdy
              have HR := Lib.hid hR
              clear Hdy hR1 hR
              go_wp2_with fail
              refine HB.out.mono ?_
              rintro e W3 ⟨gl, gf, rfl, hc1, hc2, hD3, hK3⟩
              have HK3 := Lib.hid (HK2.out.trans hK3)
              have HF3 := Lib.hid (HF2.out.dk hK3)
              have Hsy := dsymbols_any HX.out hD3 gl gf l1 l2 hc1 hc2
              have hR := HR.out
              clear hD3 hK3 hc1 hc2 HR HK2 HF2 HB
              cases hR1 : X.run (Inf.symsP l1 l2 X.most Inf.fuel out) q3 with
              | error E =>
                rw [run_err hR1] at hR
                subst hR
                rw [hR1] at Hsy
                have HB := Lib.hid Hsy
                clear Hsy hR1
                go_wp2_with fail
                refine HB.out.mono ?_
                rintro e W ⟨rfl, hB⟩
                have HB := Lib.hid (HK3.out.below.trans hB)
                clear hB
                go_wp2_with fail
                exact ⟨rfl, rfl, HB.out⟩
              | ok x =>
                obtain ⟨o, q4⟩ := x
                rw [run_ok hR1] at hR
                have hE : Except.ok ((la, o), q4) = R := hR
                subst hE
                rw [hR1] at Hsy
                have HB := Lib.hid Hsy
                clear Hsy hR1 hR
                go_wp2_with fail
                refine HB.out.mono ?_
                rintro e W4 ⟨rfl, hD4, hK4⟩
                have HD4 := Lib.hid hD4
                have HK4 := Lib.hid (HK3.out.trans hK4)
                have HF4 := Lib.hid (HF3.out.dk hK4)
                clear hD4 hK4 HB HF3
                go_wp2_with fail
                go_ret
                exact ⟨congrArg (fun b => Ending.returned (.bool b)) e1.out, ⟨_, HD4.out, HF4.out⟩, HK4.out⟩
          · rw [if_neg k2] at hR
            have hE : Except.error 3 = R := hR
            subst hE
            have d2 : ((k : Int) == 2) = false := by simp; omega
            clear hR hk4 k0 k1 k2
            go_wp2_with fail
            refine HB.out.mono ?_
            rintro e W2 ⟨rfl, hD2, hK2⟩
            have HK2 := Lib.hid (HK1.out.trans hK2)
            clear hD2 hK2 HB
            go_wp2_with fail
            exact ⟨rfl, rfl, HK2.out.below⟩
end
end Go.Proofs.Ytfbfflgffibjbaa
