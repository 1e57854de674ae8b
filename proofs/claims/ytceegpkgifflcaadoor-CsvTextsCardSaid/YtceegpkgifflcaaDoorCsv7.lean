/- Layer 18: the reference's Same. -/
import Derived.Test.YtceegpkgifflcaaDoorCsv6
namespace Go.Proofs.YtceegpkgifflcaaDoor
open Go.RowKit
set_option linter.unusedVariables false
set_option maxRecDepth 100000

theorem drewN_two (w : World) (n m : Nat) : (w.drewN n).drewN m = w.drewN (n + m) := World.drewN_drewN ..
theorem str_beq (a b : ByteArray) : (a.toList == b.toList) = decide (a = b) := by
  rw [Lib.toList_data, Lib.toList_data]
  by_cases h : a = b
  · subst h; simp
  · rw [decide_eq_false h]
    refine beq_eq_false_iff_ne.mpr fun e => h ?_
    obtain ⟨⟨x⟩⟩ := a
    obtain ⟨⟨y⟩⟩ := b
    simp at e
    subst e
    rfl
theorem take_next {α : Type} {A B : List α} {k : Nat} (h1 : k < A.length) (h2 : k < B.length) (h : A.take k = B.take k) (h3 : A[k] = B[k]) : A.take (k + 1) = B.take (k + 1) := by
  rw [List.take_succ_eq_append_getElem h1, List.take_succ_eq_append_getElem h2, h, h3]
theorem take_all {α : Type} {A B : List α} (hl : A.length = B.length) (h : A.take A.length = B.take A.length) : A = B := by
  rw [List.take_length] at h
  rw [h, hl, List.take_length]
set_option maxHeartbeats 8000000 in
theorem refSame_any (u v : Value) (A B : List (List ByteArray)) (w : World) (hA : RdTT w w.heap.size u A) (hB : RdTT w w.heap.size v B) (t : Bool) (ht : decide (A = B) = t) :
    Calls Tryd.prog 12 #[u, v] w fun e w' => e = .returned (.bool t) ∧ ∃ n, w' = w.drewN n := by
  obtain ⟨a, c, rfl, a1, a2, hat⟩ := hA.at
  obtain ⟨a', c', rfl, b1, b2, hbt⟩ := hB.at
  have hcm : c ≤ 9223372036854775807 := a2
  have hcm' : c' ≤ 9223372036854775807 := b2
  have HAt := Lib.hid hat
  have HBt := Lib.hid hbt
  clear hat hbt a2 b2 hA hB
  by_cases hl : A.length = B.length
  · obtain ⟨L, hL⟩ : ∃ L, L = A.length := ⟨_, rfl⟩
    have hL' : L = B.length := by omega
    rw [← hL'] at b1 ⊢
    rw [← hL] at a1 ⊢
    have HL := Lib.hid hL
    have HL' := Lib.hid hL'
    have Ht := Lib.hid ht
    have e1 : ((L : Int) != (L : Int)) = false := bne_self_eq_false _
    clear hl hL hL' ht
    go_enter Tryd.func12, Tryd.ntmps12
    go_wp2_with fail
    go_loopw [5] (fun i W => ∃ (k n : Nat), i = .int .i64 (k : Int) ∧ k ≤ L ∧ W = w.drewN n ∧ Hid (A.take k = B.take k)) (fun i _ => L - (intOf i).toNat)
    case atStart => exact ⟨0, 0, rfl, Nat.zero_le _, rfl, rfl⟩
    case round =>
      obtain ⟨k, n, rfl, hk, rfl, hE⟩ := hrel
      by_cases hlt : k < L
      · have d1 : decide ((k : Int) < (L : Int)) = true := decide_eq_true (by omega)
        have k0 : (0 : Int) ≤ (k : Int) := by omega
        have k1 : (k : Int) < (L : Int) := by omega
        have hka : k < A.length := by have := HL.out; omega
        have hkb : k < B.length := by have := HL'.out; omega
        obtain ⟨b, o, u, rfl, l1, l2, ⟨aa, ca, rfl, q1, q2, hra⟩⟩ := HAt.out k hka
        obtain ⟨b', o', u', rfl, m1, m2, ⟨ab, cb, rfl, r1, r2, hrb⟩⟩ := HBt.out k hkb
        obtain ⟨x, hx⟩ : ∃ x, x = A[k] := ⟨_, rfl⟩
        obtain ⟨y, hy⟩ : ∃ y, y = B[k] := ⟨_, rfl⟩
        rw [← hx] at l2 q1 hra
        rw [← hy] at m2 r1 hrb
        have hcx : ca ≤ 9223372036854775807 := q2
        have hcy : cb ≤ 9223372036854775807 := r2
        have HRa := Lib.hid hra
        have HRb := Lib.hid hrb
        have Hx := Lib.hid hx
        have Hy := Lib.hid hy
        have Hka := Lib.hid hka
        have Hkb := Lib.hid hkb
        clear hra hrb hx hy q2 r2
        by_cases hxy : x.length = y.length
        · obtain ⟨M, hM⟩ : ∃ M, M = x.length := ⟨_, rfl⟩
          have hM' : M = y.length := by omega
          rw [← hM] at l2 q1
          rw [← hM'] at m2 r1
          have HM := Lib.hid hM
          have HM' := Lib.hid hM'
          have e2 : ((M : Int) != (M : Int)) = false := bne_self_eq_false _
          clear hxy hM hM'
          go_wp2_with fail
          go_quiet (fail)
          go_wp2_with fail
          go_loopw [6] (fun i W => ∃ (j n' : Nat), i = .int .i64 (j : Int) ∧ j ≤ M ∧ W = w.drewN n' ∧ Hid (x.take j = y.take j)) (fun i _ => M - (intOf i).toNat)
          case atStart => exact ⟨0, _, rfl, Nat.zero_le _, drewN_two _ _ _, rfl⟩
          case round =>
            obtain ⟨j, n', rfl, hj, rfl, hE2⟩ := hrel
            by_cases hjt : j < M
            · have d2 : decide ((j : Int) < (M : Int)) = true := decide_eq_true (by omega)
              have j0 : (0 : Int) ≤ (j : Int) := by omega
              have j1 : (j : Int) < (M : Int) := by omega
              have hja : j < x.length := by have := HM.out; omega
              have hjb : j < y.length := by have := HM'.out; omega
              obtain ⟨bx, ox, rfl, s1, s2⟩ := HRa.out.at j hja
              obtain ⟨by', oy, rfl, t1, t2⟩ := HRb.out.at j hjb
              obtain ⟨X, hX⟩ : ∃ X, X = x[j] := ⟨_, rfl⟩
              obtain ⟨Y, hY⟩ : ∃ Y, Y = y[j] := ⟨_, rfl⟩
              rw [← hX] at s2
              rw [← hY] at t2
              have hbq := str_beq X Y
              by_cases hXY : X = Y
              · rw [decide_eq_true hXY] at hbq
                have HN : Hid (x.take (j + 1) = y.take (j + 1)) := take_next hja hjb hE2.out (by rw [← hX, ← hY]; exact hXY)
                clear hX hY hXY hja hjb
                go_wp2_with fail
                go_quiet (fail)
                go_wp2_with fail
                go_roundw
                case rel => exact ⟨j + 1, _, by go_num, by omega, by first | rfl | exact drewN_two _ _ _, HN.out⟩
                case measure => simp [intOf]; omega
              · rw [decide_eq_false hXY] at hbq
                have hF : t = false := by
                  rw [← Ht.out]
                  exact decide_eq_false fun e => hXY (by rw [hX, hY]; have : x = y := by rw [Hx.out, Hy.out]; simp [e]
                                                         simp [this])
                subst hF
                clear hX hY hXY hja hjb
                go_wp2_with fail
                go_quiet (fail)
                go_wp2_with fail
                go_ret
                exact ⟨rfl, _, drewN_two _ _ _⟩
            · obtain rfl : j = M := by omega
              have d2 : decide ((j : Int) < (j : Int)) = false := decide_eq_false (by omega)
              have hXY : x = y := take_all (by rw [← HM.out, ← HM'.out]) (by rw [← HM.out]; exact hE2.out)
              have HN : Hid (A.take (k + 1) = B.take (k + 1)) := take_next Hka.out Hkb.out hE.out (by rw [← Hx.out, ← Hy.out]; exact hXY)
              clear hXY
              go_wp2_with fail
              go_roundw
              case rel => exact ⟨k + 1, _, by go_num, by omega, rfl, HN.out⟩
              case measure => simp [intOf]; omega
        · have e2 : ((x.length : Int) != (y.length : Int)) = true := bne_iff_ne.mpr (by omega)
          have hF : t = false := by
            rw [← Ht.out]
            exact decide_eq_false fun e => hxy (by rw [Hx.out, Hy.out]; simp [e])
          subst hF
          clear hxy
          go_wp2_with fail
          go_quiet (fail)
          go_wp2_with fail
          go_ret
          exact ⟨rfl, _, drewN_two _ _ _⟩
      · obtain rfl : k = L := by omega
        have d1 : decide ((k : Int) < (k : Int)) = false := decide_eq_false (by omega)
        have hT : t = true := by rw [← Ht.out]; exact decide_eq_true (take_all (by rw [← HL.out, ← HL'.out]) (by rw [← HL.out]; exact hE.out))
        subst hT
        go_wp2_with fail
        go_ret
        exact ⟨rfl, _, rfl⟩
  · have e1 : ((A.length : Int) != (B.length : Int)) = true := bne_iff_ne.mpr (by omega)
    have hF : t = false := by rw [← ht]; exact decide_eq_false fun e => hl (by rw [e])
    subst hF
    clear hl ht
    go_enter Tryd.func12, Tryd.ntmps12
    go_wp2_with fail
    go_ret
    exact ⟨rfl, 0, rfl⟩
end Go.Proofs.YtceegpkgifflcaaDoor
