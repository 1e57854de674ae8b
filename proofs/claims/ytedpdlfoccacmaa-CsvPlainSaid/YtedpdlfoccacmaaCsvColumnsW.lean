/- Layer 18: the walk of CsvColumns. -/
import Derived.Test.YtedpdlfoccacmaaCsv10
namespace Go.Proofs.Ytedpdlfoccacmaa
open Go.RowKit
set_option linter.unusedVariables false
set_option maxRecDepth 100000

theorem Tbl.below {w w' : World} {u : Value} {A : List (List ByteArray)} (h : Tbl w u A) (hb : Below w.heap.size w w') : Tbl w' u A := ⟨(h.1.below hb).more hb.size, h.2⟩
set_option maxHeartbeats 8000000 in
theorem csvColumns_walk (u v : Value) (s : ByteArray) (w : World) (hu : ∃ ll, RdTT w w.heap.size u ll ∧ ∀ l ∈ ll, ∀ t ∈ l, t.size ≤ 140737488355328) (hv : ∃ ll, RdTT w w.heap.size v ll ∧ ∀ l ∈ ll, ∀ t ∈ l, t.size ≤ 140737488355328) (hs : s.size ≤ maxLen) :
    Calls Try.prog 4 #[u, v, .string s] w fun e w' => e = .returned (.bool true) ∧ Below w.heap.size w w' := by
  obtain ⟨A, hA⟩ := hu
  obtain ⟨B, hB⟩ := hv
  have hTA : Tbl w u A := hA
  have hTB : Tbl w v B := hB
  have hsm : s.size ≤ 9223372036854775807 := hs
  have HL := Lib.hid live18_any
  have HMa := Lib.hid (much18_any u A w hTA)
  have HMb := Lib.hid (much18_any v B w hTB)
  have HTA := Lib.hid hTA
  have HTB := Lib.hid hTB
  clear hA hB hTA hTB
  go_enter Try.func4, Try.ntmps4
  go_wp2_with fail
  refine HMa.out.mono ?_
  rintro e W ⟨t1, rfl, hm1, rfl⟩
  cases t1 with
  | true =>
    go_wp2_with fail
    refine (HL.out _).mono ?_
    rintro e W ⟨rfl, hb⟩
    have HB := Lib.hid hb
    clear hb
    go_wp2_with fail
    go_ret
    exact ⟨rfl, HB.out⟩
  | false =>
    have HM1 := Lib.hid (hm1 rfl)
    clear hm1
    go_wp2_with fail
    refine HMb.out.mono ?_
    rintro e W ⟨t2, rfl, hm2, rfl⟩
    cases t2 with
    | true =>
      go_wp2_with fail
      refine (HL.out _).mono ?_
      rintro e W ⟨rfl, hb⟩
      have HB := Lib.hid hb
      clear hb
      go_wp2_with fail
      go_ret
      exact ⟨rfl, HB.out⟩
    | false =>
      clear hm2
      by_cases h1 : 100 < s.size
      · have d1 : decide ((100 : Int) < (s.size : Int)) = true := decide_eq_true (by omega)
        go_wp2_with fail
        refine (HL.out _).mono ?_
        rintro e W ⟨rfl, hb⟩
        have HB := Lib.hid hb
        clear hb
        go_wp2_with fail
        go_ret
        exact ⟨rfl, HB.out⟩
      · have d1 : decide ((100 : Int) < (s.size : Int)) = false := decide_eq_false (by omega)
        have HC := Lib.hid (column_any u A s w HTA.out.1 (fun r hr => by have := HM1.out.2.1 r hr; omega))
        have HR := Lib.hid (refColumn_any u A s w HTA.out.1)
        obtain ⟨q, hq⟩ : ∃ q, q = colE A s := ⟨_, rfl⟩
        rw [← hq] at HC HR
        obtain ⟨t, ht⟩ : ∃ t : Bool, decide (A = B) = t := ⟨_, rfl⟩
        have HS1 := Lib.hid (same18_any u v A B w HTA.out.1 HTB.out.1 t ht)
        have HS2 := Lib.hid fun n => refSame_any u v A B (w.drewN n) (HTA.out.1.below ⟨rfl, rfl, rfl, Nat.le_refl _, fun _ _ => rfl⟩) (HTB.out.1.below ⟨rfl, rfl, rfl, Nat.le_refl _, fun _ _ => rfl⟩) t ht
        have HS3 := Lib.hid fun n => same18_any u u A A (w.drewN n) (HTA.out.1.below ⟨rfl, rfl, rfl, Nat.le_refl _, fun _ _ => rfl⟩) (HTA.out.1.below ⟨rfl, rfl, rfl, Nat.le_refl _, fun _ _ => rfl⟩) true (decide_eq_true rfl)
        clear hq ht
        cases q with
        | none =>
          simp only [colV] at HC HR
          cases t with
          | true =>
            go_wp2_with fail
            refine HC.out.mono ?_
            rintro e W ⟨rfl, rfl⟩
            go_wp2_with fail
            refine HR.out.mono ?_
            rintro e W ⟨rfl, rfl⟩
            go_wp2_with fail
            refine HS1.out.mono ?_
            rintro e W ⟨rfl, n1, rfl⟩
            go_wp2_with fail
            refine (HS2.out n1).mono ?_
            rintro e W ⟨rfl, n2, rfl⟩
            go_wp2_with fail
            refine (HS3.out _).mono ?_
            rintro e W ⟨rfl, n3, rfl⟩
            go_wp2_with fail
            refine (HL.out _).mono ?_
            rintro e W ⟨rfl, hb⟩
            have HB : Hid (Below w.heap.size w W) := by first | exact (below_drawnT (below_drawnT (Below.refl w.heap.size w) (n1 + n2)) n3).trans hb | exact (below_drawnT (Below.refl w.heap.size w) (n1 + n2 + n3)).trans hb
            clear hb
            go_wp2_with fail
            go_ret
            exact ⟨rfl, HB.out⟩
          | false =>
            go_wp2_with fail
            refine HC.out.mono ?_
            rintro e W ⟨rfl, rfl⟩
            go_wp2_with fail
            refine HR.out.mono ?_
            rintro e W ⟨rfl, rfl⟩
            go_wp2_with fail
            refine HS1.out.mono ?_
            rintro e W ⟨rfl, n1, rfl⟩
            go_wp2_with fail
            refine (HS2.out n1).mono ?_
            rintro e W ⟨rfl, n2, rfl⟩
            go_wp2_with fail
            refine (HS3.out _).mono ?_
            rintro e W ⟨rfl, n3, rfl⟩
            go_wp2_with fail
            refine (HL.out _).mono ?_
            rintro e W ⟨rfl, hb⟩
            have HB : Hid (Below w.heap.size w W) := by first | exact (below_drawnT (below_drawnT (Below.refl w.heap.size w) (n1 + n2)) n3).trans hb | exact (below_drawnT (Below.refl w.heap.size w) (n1 + n2 + n3)).trans hb
            clear hb
            go_wp2_with fail
            go_ret
            exact ⟨rfl, HB.out⟩
        | some n =>
          simp only [colV] at HC HR
          cases t with
          | true =>
            go_wp2_with fail
            refine HC.out.mono ?_
            rintro e W ⟨rfl, rfl⟩
            go_wp2_with fail
            refine HR.out.mono ?_
            rintro e W ⟨rfl, rfl⟩
            go_wp2_with fail
            refine HS1.out.mono ?_
            rintro e W ⟨rfl, n1, rfl⟩
            go_wp2_with fail
            refine (HS2.out n1).mono ?_
            rintro e W ⟨rfl, n2, rfl⟩
            go_wp2_with fail
            refine (HS3.out _).mono ?_
            rintro e W ⟨rfl, n3, rfl⟩
            go_wp2_with fail
            refine (HL.out _).mono ?_
            rintro e W ⟨rfl, hb⟩
            have HB : Hid (Below w.heap.size w W) := by first | exact (below_drawnT (below_drawnT (Below.refl w.heap.size w) (n1 + n2)) n3).trans hb | exact (below_drawnT (Below.refl w.heap.size w) (n1 + n2 + n3)).trans hb
            clear hb
            go_wp2_with fail
            go_ret
            exact ⟨rfl, HB.out⟩
          | false =>
            go_wp2_with fail
            refine HC.out.mono ?_
            rintro e W ⟨rfl, rfl⟩
            go_wp2_with fail
            refine HR.out.mono ?_
            rintro e W ⟨rfl, rfl⟩
            go_wp2_with fail
            refine HS1.out.mono ?_
            rintro e W ⟨rfl, n1, rfl⟩
            go_wp2_with fail
            refine (HS2.out n1).mono ?_
            rintro e W ⟨rfl, n2, rfl⟩
            go_wp2_with fail
            refine (HS3.out _).mono ?_
            rintro e W ⟨rfl, n3, rfl⟩
            go_wp2_with fail
            refine (HL.out _).mono ?_
            rintro e W ⟨rfl, hb⟩
            have HB : Hid (Below w.heap.size w W) := by first | exact (below_drawnT (below_drawnT (Below.refl w.heap.size w) (n1 + n2)) n3).trans hb | exact (below_drawnT (Below.refl w.heap.size w) (n1 + n2 + n3)).trans hb
            clear hb
            go_wp2_with fail
            go_ret
            exact ⟨rfl, HB.out⟩
end Go.Proofs.Ytedpdlfoccacmaa
