/- Walks over layer 12: the law of getting. -/
import Derived.Test.YtaafcmgkmdbefaaDirGet2
import Derived.Test.YtaafcmgkmdbefaaDirRefGet
import Derived.Test.YtaafcmgkmdbefaaDirLaw
namespace Go.Proofs.Ytaafcmgkmdbefaa
open Go.RowKit Var
set_option linter.unusedVariables false
set_option maxRecDepth 100000

set_option maxHeartbeats 4000000 in
theorem dirGets_walk (l : List Nat) (a0 : Option Addr) (c0 : Nat) (w : World) (hld : ∀ x ∈ l, x < 256) (hlc : l.length ≤ c0) (hcm : c0 ≤ maxLen) (hN : Nums .u8 w w.heap.size a0 l) :
    Calls Try.prog 4 #[.slice a0 l.length c0] w fun e w' => e = .returned (.bool true) ∧ Below w.heap.size w w' := by
  have Hl := Lib.hid live12_any
  clear hlc hcm
  by_cases h1 : 500 < l.length
  · clear hN hld
    go_enter Try.func4, Try.ntmps4
    go_wp2_with fail
    refine (Hl.out _).mono ?_
    rintro e X ⟨rfl, hX⟩
    have HX := Lib.hid hX
    clear hX
    go_wp2_with fail
    go_ret
    exact ⟨rfl, HX.out⟩
  · obtain ⟨⟨Z, E⟩, hR⟩ : ∃ R, getE l = R := ⟨_, rfl⟩
    have HG := Lib.hid (get_any a0 c0 l w hN hld (by omega) _ hR)
    have HRG : Hid (∀ W, Below w.heap.size w W → Calls Try.prog 15 #[.slice a0 l.length c0] W (GetPost W (Z, E))) := fun W hb =>
      refGet_any a0 c0 l W ((hN.below hb).more hb.size) hld (by omega) _ hR
    obtain ⟨L, hL⟩ : ∃ L, L = l.length := ⟨_, rfl⟩
    have HR := Lib.hid hR
    have HL := Lib.hid hL
    have Hld := Lib.hid hld
    rw [← hL] at HG HRG h1 ⊢
    clear hN hld hR hL
    unfold GetPost at HG HRG
    have hEE : ((E : Int) != (E : Int)) = false := by simp
    go_enter Try.func4, Try.ntmps4
    go_wp2_with fail
    refine HG.out.mono ?_
    rintro e W1 ⟨v, rfl, hv, hb⟩
    have HV1 := Lib.hid hv
    have HB1 := Lib.hid hb
    clear hv hb HG
    go_wp2_with fail
    refine (HRG.out _ HB1.out).mono ?_
    rintro e W2 ⟨u, rfl, hu, hb⟩
    have HV2 := Lib.hid ((HV1.out.below hb).more hb.size)
    have HU2 := Lib.hid hu
    have HB2 := Lib.hid (below_then HB1.out hb HB1.out.size)
    clear hu hb HRG HV1 HB1
    go_wp2_with fail
    refine (same_one _ _ _ _ HV2.out HU2.out).mono ?_
    rintro e W3 ⟨rfl, hb⟩
    have HV3 := Lib.hid ((HV2.out.below hb).more hb.size)
    have HB3 := Lib.hid (below_then HB2.out hb HB2.out.size)
    clear hb HV2 HU2 HB2
    go_wp2_with fail
    refine (code12_any _ _).mono ?_
    rintro e Y ⟨rfl, rfl⟩
    by_cases hE : E = 0
    · have z1 : ((E : Int) != 0) = false := by rw [hE]; rfl
      obtain ⟨hr, hlen⟩ := put_get Hld.out (show getE l = (Z, 0) by rw [← hE]; exact HR.out)
      have hl4 := putE_least Z
      have hgp := get_put hr
      have hplt := putE_lt Z
      obtain ⟨P, hP⟩ : ∃ P, putE Z = P := ⟨_, rfl⟩
      have HPut := Lib.hid (dput_yes v Z W3 HV3.out hr (by have := HL.out; omega) P hP)
      rw [hP] at hlen hl4 hgp hplt
      have Hgp := Lib.hid hgp
      have Hplt := Lib.hid hplt
      have hle : decide ((P.length : Int) ≤ (L : Int)) = true := decide_eq_true (by have := HL.out; omega)
      have hle2 : decide (P.length ≤ L) = true := decide_eq_true (by have := HL.out; omega)
      have HPl : Hid (P.length ≤ 500) := by show _ ≤ _; have := HL.out; omega
      clear hr hl4 hgp hplt hP hlen hE
      go_wp2_with fail
      refine HPut.out.mono ?_
      rintro e W4 ⟨b4, rfl, h4, hb⟩
      have HV4 := Lib.hid ((HV3.out.below hb).more hb.size)
      have HB4 := Lib.hid (below_then HB3.out hb HB3.out.size)
      obtain ⟨a4, c4, rfl, _, _, _, hN4⟩ := h4.nums
      have HG4 := Lib.hid (get_any a4 c4 P W4 hN4 Hplt.out (by have := HPl.out; omega) _ Hgp.out)
      unfold GetPost at HG4
      clear hb h4 hN4 HPut HV3 HB3
      go_wp2_with fail
      refine HG4.out.mono ?_
      rintro e W5 ⟨k, rfl, hk, hb⟩
      have HV5 := Lib.hid ((HV4.out.below hb).more hb.size)
      have HK5 := Lib.hid hk
      have HB5 := Lib.hid (below_then HB4.out hb HB4.out.size)
      clear hk hb HG4 HV4 HB4
      go_wp2_with fail
      refine (code12_any _ _).mono ?_
      rintro e Y ⟨rfl, rfl⟩
      go_wp2_with fail
      refine (code12_any _ _).mono ?_
      rintro e Y ⟨rfl, rfl⟩
      go_wp2_with fail
      refine (same_one _ _ _ _ HK5.out HV5.out).mono ?_
      rintro e W6 ⟨rfl, hb⟩
      have HB6 := Lib.hid (below_then HB5.out hb HB5.out.size)
      clear hb
      go_wp2_with fail
      refine (Hl.out _).mono ?_
      rintro e X ⟨rfl, hb⟩
      have HB7 := Lib.hid (below_then HB6.out hb HB6.out.size)
      clear hb
      go_wp2_with fail
      go_ret
      exact ⟨rfl, HB7.out⟩
    · have z1 : ((E : Int) != 0) = true := by simp [bne]; omega
      clear hE
      go_wp2_with fail
      refine (Hl.out _).mono ?_
      rintro e X ⟨rfl, hb⟩
      have HB7 := Lib.hid (below_then HB3.out hb HB3.out.size)
      clear hb
      go_wp2_with fail
      go_ret
      exact ⟨rfl, HB7.out⟩
end Go.Proofs.Ytaafcmgkmdbefaa
