/- Layer 33: the law ReqWords, walked. -/
import Derived.Test.YtkmdimepbghpcaaDoorReqAcc
import Derived.Test.YtkmdimepbghpcaaDoorReqRQ
import Derived.Test.YtkmdimepbghpcaaDoorReqRTok
namespace Go.Proofs.YtkmdimepbghpcaaDoor
open Go.RowKit Go.Shelf Go.Lib
set_option linter.unusedVariables false
set_option maxRecDepth 100000

set_option maxHeartbeats 8000000 in
theorem reqWords_walk (s : ByteArray) (w : World) (hs : s.size ≤ maxLen) (hM : MaxOk w) :
    Calls Tryd.prog 3 #[.string s] w fun e w' => e = .returned (.bool true) ∧ Below w.heap.size w w' := by
  have HM := Lib.hid hM
  have HL := Lib.hid (live33_any w hM)
  by_cases hlen : 300 < s.size
  · have d : decide (300 < (s.size : Int)) = true := decide_eq_true (by omega)
    clear hM
    go_enter Tryd.func3, Tryd.ntmps3
    go_wp2_with fail
    refine HL.out.mono ?_
    rintro e X ⟨rfl, hb⟩
    have HB := Lib.hid hb
    clear hb HL
    go_wp2_with fail
    exact bodyPost_ret (v := .bool true) (by simp [results, Tryd.results3, go_sem]) rfl ⟨rfl, HB.out⟩
  · have d : decide (300 < (s.size : Int)) = false := decide_eq_false (by omega)
    have HQ := Lib.hid (quality_any s w (by omega) hM)
    have HQ2 := Lib.hid (fun X => rquality_any s X (by omega))
    have HT := Lib.hid (fun X => token_any s X (by omega))
    have HT2 := Lib.hid (fun X => rtoken_any s X (by omega))
    rw [codeQ_refQ] at HQ
    obtain ⟨q, hq⟩ : ∃ q, q = (refQ (bs s)).1 := ⟨_, rfl⟩
    obtain ⟨b, hb⟩ : ∃ q, q = (refQ (bs s)).2 := ⟨_, rfl⟩
    obtain ⟨t, ht⟩ : ∃ q, q = tokD (bs s) := ⟨_, rfl⟩
    rw [← hq, ← hb] at HQ HQ2
    rw [← ht] at HT HT2
    clear hM HL hq hb ht
    go_enter Tryd.func3, Tryd.ntmps3
    go_wp2_with fail
    refine HQ.out.mono ?_
    rintro e X1 ⟨rfl, hb⟩
    have H1 := Lib.hid hb
    clear hb HQ
    go_wp2_with fail
    refine (HQ2.out X1).mono ?_
    rintro e X2 ⟨rfl, hb⟩
    have H2 := Lib.hid (keepBelow hb H1.out)
    clear hb HQ2 H1
    go_wp2_with fail
    refine (HT.out X2).mono ?_
    rintro e X3 ⟨rfl, rfl⟩
    clear HT
    go_wp2_with fail
    refine (HT2.out X2).mono ?_
    rintro e X4 ⟨rfl, hb⟩
    have H4 := Lib.hid (keepBelow hb H2.out)
    clear hb HT2 H2
    have HL := Lib.hid (live33_any X4 (HM.out.below H4.out))
    have et : (t == t) = true := beq_self_eq_true t
    have eb : (b == b) = true := beq_self_eq_true b
    have eq' : (q == q) = true := beq_self_eq_true q
    go_wp2_with fail
    refine HL.out.mono ?_
    rintro e X5 ⟨rfl, hb⟩
    have H5 := Lib.hid (keepBelow hb H4.out)
    clear hb HL H4
    go_wp2_with fail
    exact bodyPost_ret (v := .bool true) (by simp [results, Tryd.results3, go_sem]) rfl ⟨rfl, H5.out⟩
end Go.Proofs.YtkmdimepbghpcaaDoor
