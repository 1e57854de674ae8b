/- Layer 5: DeflateData, the law's walk. -/
import Derived.Test.YtmheafadahdbfaaRefDataF
import Derived.Test.YtmheafadahdbfaaRefDataS
import Derived.Test.YtmheafadahdbfaaSto3
namespace Go.Proofs.Ytmheafadahdbfaa
open Go.RowKit Bit
set_option linter.unusedVariables false
set_option maxRecDepth 100000

set_option maxHeartbeats 8000000 in
theorem deflateData_walk (l : List Nat) (a0 : Option Addr) (c0 : Nat) (st : Bool) (w : World)
    (hld : ∀ x ∈ l, x < 256) (hlc : l.length ≤ c0) (hcm : c0 ≤ maxLen) (hN : Nums .u8 w w.heap.size a0 l) :
    Calls Try.prog 3 #[.slice a0 l.length c0, .bool st] w fun e w' => e = .returned (.bool true) ∧ Below w.heap.size w w' := by
  have HL := Lib.hid live_any
  have Hcode := Lib.hid code_any
  have hb : Bytes255 l := bytes255_of fun x hx => by have := hld x hx; omega
  obtain ⟨L, hL⟩ : ∃ L, L = l.length := ⟨_, rfl⟩
  have hm : maxLen ≤ 9223372036854775807 := by decide
  by_cases hbig : 400 < L
  · have d1 : decide (400 < (L : Int)) = true := decide_eq_true (by omega)
    have hL2 : L ≤ 9223372036854775807 := by omega
    rw [← hL]
    clear hN hlc hcm hld hL hbig hm
    go_enter Try.func3, Try.ntmps3
    go_wp2_with fail
    refine (HL.out _).mono ?_
    rintro e Y ⟨rfl, hB⟩
    have HB := Lib.hid hB
    clear hB
    go_wp2_with fail
    go_ret
    exact ⟨rfl, HB.out⟩
  · have d1 : decide (400 < (L : Int)) = false := decide_eq_false (by omega)
    have hL400 : L ≤ 400 := by omega
    have hT : ∃ T : List Nat, (∀ x ∈ T, x < 256) ∧ Calls Try.prog 10 #[.slice a0 l.length c0, .bool st] w (DataPost w T) ∧ (∀ X, Below w.heap.size w X → Calls Try.prog 12 #[.slice a0 l.length c0, .bool st] X (RDPost X T)) := by
      cases st
      · refine ⟨fixedB hb, fun x hx => bytesTo_lt _ _ x hx, data_fixed a0 c0 l w hb (by omega) hN, fun X hX => refData_fixed a0 c0 l X hb (by omega) ((hN.below hX).more hX.size)⟩
      · have h1 := data_stored a0 c0 l w (by omega) hlc hcm hld hN
        rw [storedE_no (by omega)] at h1
        exact ⟨blockB 1 l, blockB_lt (by omega) (by omega) hld, h1, fun X hX => refData_stored a0 c0 l X (by omega) hlc hcm ((hN.below hX).more hX.size)⟩
    obtain ⟨T, hT1, hT2, hT3⟩ := hT
    have HD := Lib.hid hT2
    have HR := Lib.hid hT3
    have HTl := Lib.hid hT1
    rw [← hL] at HD HR
    rw [← hL]
    clear hN hlc hcm hld hL hbig hm hT1 hT2 hT3
    go_enter Try.func3, Try.ntmps3
    go_wp2_with fail
    refine HD.out.mono ?_
    rintro e X1 ⟨a1, c1, rfl, hN1, hB1⟩
    have HB1 := Lib.hid hB1
    have hs1 := str_of_nums (P := Try.prog) X1 X1.heap.size 22 9 5 a1 c1 T Try.underlying22 Try.underlying5 Try.underlying9 hN1 HTl.out
    have HX := Lib.hid fun W (h : Below X1.heap.size X1 W) => str_of_nums (P := Try.prog) W X1.heap.size 22 9 5 a1 c1 T Try.underlying22 Try.underlying5 Try.underlying9 (hN1.below h) HTl.out
    clear hN1 hB1 HD
    obtain ⟨TL, hTL⟩ : ∃ n, n = T.length := ⟨_, rfl⟩
    obtain ⟨S, hS⟩ : ∃ s, strOf T = s := ⟨_, rfl⟩
    have HS := Lib.hid hS
    have HTL := Lib.hid hTL
    rw [← hTL, hS] at hs1 HX
    have hs1d := HX.out X1.drew (below_drawn (Below.refl _ _) 1)
    rw [← hTL]
    clear hTL hS
    go_wp2_with fail
    have HRq : Hid (∀ n, Calls Try.prog 12 #[.slice a0 L c0, .bool st] (X1.drewN n) fun e w' => ∃ a2 c2, e = .returned (.slice a2 TL c2) ∧ Below w.heap.size w w' ∧ (convert 22 9 (.slice a1 TL c1)).run Try.prog w' = .ok (.string S) w' ∧ (convert 22 9 (.slice a2 TL c2)).run Try.prog w' = .ok (.string S) w') := fun n => by
      refine (HR.out _ (below_drawn HB1.out n)).mono ?_
      rintro e X2 ⟨a2, c2, rfl, hN2, hB2⟩
      have hs2 := str_of_nums (P := Try.prog) X2 X2.heap.size 22 9 5 a2 c2 T Try.underlying22 Try.underlying5 Try.underlying9 hN2 HTl.out
      rw [← HTL.out, HS.out] at hs2
      exact ⟨a2, c2, by rw [HTL.out], (below_drawn HB1.out n).trans (hB2.mono HB1.out.size), HX.out _ ((below_drawn (Below.refl _ _) n).trans hB2), hs2⟩
    go_region_with (first
      | (go_at_call 11; refine (Hcode.out _ _).mono ?_; rintro e Y ⟨rfl, rfl⟩)
      | (go_at_call 12; refine (HRq.out _).mono ?_; rintro e X2 ⟨a2, c2, rfl, hB2, hs3, hs2⟩; have HB2 := Lib.hid hB2; clear hB2)
      | (go_at_call 9; refine (HL.out _).mono ?_; rintro e Y ⟨rfl, hB⟩; have HB3 := Lib.hid hB; clear hB))
    all_goals
      go_wp2_with fail
      go_ret
      exact ⟨rfl, HB2.out.trans (HB3.out.mono HB2.out.size)⟩
end Go.Proofs.Ytmheafadahdbfaa
