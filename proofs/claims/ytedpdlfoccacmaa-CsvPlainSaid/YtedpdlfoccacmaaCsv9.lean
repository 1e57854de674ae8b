/- Layer 18: Same, Column, and the reference's Column. -/
import Derived.Test.YtedpdlfoccacmaaCsv8
namespace Go.Proofs.Ytedpdlfoccacmaa
open Go.RowKit
set_option linter.unusedVariables false
set_option maxRecDepth 100000

set_option maxHeartbeats 4000000 in
theorem equal_any (u v : Value) (x y : List ByteArray) (w : World) (hx : RdT w w.heap.size u x) (hy : RdT w w.heap.size v y) (t : Bool) (ht : decide (x = y) = t) :
    Calls Try.prog 21 #[u, v] w fun e w' => e = .returned (.bool t) ∧ ∃ n, w' = w.drewN n := by
  obtain ⟨aa, ca, rfl, q1, q2, hra⟩ := hx
  obtain ⟨ab, cb, rfl, r1, r2, hrb⟩ := hy
  have hcx : ca ≤ 9223372036854775807 := q2
  have hcy : cb ≤ 9223372036854775807 := r2
  have HRa := Lib.hid hra
  have HRb := Lib.hid hrb
  have Ht := Lib.hid ht
  clear hra hrb q2 r2 ht
  by_cases hxy : x.length = y.length
  · obtain ⟨M, hM⟩ : ∃ M, M = x.length := ⟨_, rfl⟩
    have hM' : M = y.length := by omega
    rw [← hM] at q1 ⊢
    rw [← hM'] at r1 ⊢
    have HM := Lib.hid hM
    have HM' := Lib.hid hM'
    have e2 : ((M : Int) != (M : Int)) = false := bne_self_eq_false _
    clear hxy hM hM'
    go_enter Try.func21, Try.ntmps21
    go_wp2_with fail
    go_loopw [13] (fun i W => ∃ (j n' : Nat), i = .int .i64 (j : Int) ∧ j ≤ M ∧ W = w.drewN n' ∧ Hid (x.take j = y.take j)) (fun i _ => M - (intOf i).toNat)
    case atStart => exact ⟨0, 0, rfl, Nat.zero_le _, rfl, rfl⟩
    case round =>
      obtain ⟨j, n', rfl, hj, rfl, hE2⟩ := hrel
      by_cases hjt : j < M
      · have d2 : decide ((j : Int) < (M : Int)) = true := decide_eq_true (by omega)
        have j0 : (0 : Int) ≤ (j : Int) := by omega
        have j1 : (j : Int) < (M : Int) := by omega
        have hja : j < x.length := by have := HM.out; omega
        have hjb : j < y.length := by have := HM'.out; omega
        obtain ⟨bx, ox, rfl, s1, s2⟩ := HRa.out.at j hja
        obtain ⟨by', oy, rfl, t1, t2⟩ := HRb.out.at j hjb
        obtain ⟨X, hX⟩ : ∃ X, X = x[j] := ⟨_, rfl⟩
        obtain ⟨Y, hY⟩ : ∃ Y, Y = y[j] := ⟨_, rfl⟩
        rw [← hX] at s2
        rw [← hY] at t2
        have hbq := str_beq X Y
        by_cases hXY : X = Y
        · rw [decide_eq_true hXY] at hbq
          have HN : Hid (x.take (j + 1) = y.take (j + 1)) := take_next hja hjb hE2.out (by rw [← hX, ← hY]; exact hXY)
          clear hX hY hXY hja hjb
          go_wp2_with fail
          go_quiet (fail)
          go_wp2_with fail
          go_roundw
          case rel => exact ⟨j + 1, _, by go_num, by omega, by first | rfl | exact drewN_two _ _ _, HN.out⟩
          case measure => simp [intOf]; omega
        · rw [decide_eq_false hXY] at hbq
          have hF : t = false := by
            rw [← Ht.out]
            exact decide_eq_false fun e => hXY (by rw [hX, hY]; simp [e])
          subst hF
          clear hX hY hXY hja hjb
          go_wp2_with fail
          go_quiet (fail)
          go_wp2_with fail
          go_ret
          exact ⟨rfl, _, drewN_two _ _ _⟩
      · obtain rfl : j = M := by omega
        have d2 : decide ((j : Int) < (j : Int)) = false := decide_eq_false (by omega)
        have hXY : t = true := by rw [← Ht.out]; exact decide_eq_true (take_all (by rw [← HM.out, ← HM'.out]) (by rw [← HM.out]; exact hE2.out))
        subst hXY
        go_wp2_with fail
        go_ret
        exact ⟨rfl, _, rfl⟩
  · have e2 : ((x.length : Int) != (y.length : Int)) = true := bne_iff_ne.mpr (by omega)
    have hF : t = false := by
      rw [← Ht.out]
      exact decide_eq_false fun e => hxy (by rw [e])
    subst hF
    clear hxy
    go_enter Try.func21, Try.ntmps21
    go_wp2_with fail
    go_ret
    exact ⟨rfl, 0, rfl⟩
theorem RdT.drewN {w : World} {B : Nat} {u : Value} {l : List ByteArray} (h : RdT w B u l) (n : Nat) : RdT (w.drewN n) B u l := h.below ⟨rfl, rfl, rfl, Nat.le_refl _, fun _ _ => rfl⟩
set_option maxHeartbeats 8000000 in
theorem equalFunc_any (u v : Value) (A B : List (List ByteArray)) (w : World) (hA : RdTT w w.heap.size u A) (hB : RdTT w w.heap.size v B) (t : Bool) (ht : decide (A = B) = t) :
    Calls Try.prog 20 #[u, v, .func (.func 21) #[] #[]] w fun e w' => e = .returned (.bool t) ∧ ∃ n, w' = w.drewN n := by
  obtain ⟨a, c, rfl, a1, a2, hat⟩ := hA.at
  obtain ⟨a', c', rfl, b1, b2, hbt⟩ := hB.at
  have hcm : c ≤ 9223372036854775807 := a2
  have hcm' : c' ≤ 9223372036854775807 := b2
  have HAt := Lib.hid hat
  have HBt := Lib.hid hbt
  clear hat hbt a2 b2 hA hB
  by_cases hl : A.length = B.length
  · obtain ⟨L, hL⟩ : ∃ L, L = A.length := ⟨_, rfl⟩
    have hL' : L = B.length := by omega
    rw [← hL'] at b1 ⊢
    rw [← hL] at a1 ⊢
    have HL := Lib.hid hL
    have HL' := Lib.hid hL'
    have Ht := Lib.hid ht
    have e1 : ((L : Int) != (L : Int)) = false := bne_self_eq_false _
    clear hl hL hL' ht
    go_enter Try.func20, Try.ntmps20
    go_wp2_with fail
    go_loopw [17] (fun i W => ∃ (k n : Nat), i = .int .i64 (k : Int) ∧ k ≤ L ∧ W = w.drewN n ∧ Hid (A.take k = B.take k)) (fun i _ => L - (intOf i).toNat)
    case atStart => exact ⟨0, 0, rfl, Nat.zero_le _, rfl, rfl⟩
    case round =>
      obtain ⟨k, n, rfl, hk, rfl, hE⟩ := hrel
      by_cases hlt : k < L
      · have d1 : decide ((k : Int) < (L : Int)) = true := decide_eq_true (by omega)
        have k0 : (0 : Int) ≤ (k : Int) := by omega
        have k1 : (k : Int) < (L : Int) := by omega
        have hka : k < A.length := by have := HL.out; omega
        have hkb : k < B.length := by have := HL'.out; omega
        obtain ⟨b, o, u, rfl, l1, l2, hra⟩ := HAt.out k hka
        obtain ⟨b', o', u', rfl, m1, m2, hrb⟩ := HBt.out k hkb
        have HE := Lib.hid fun (t : Bool) (ht : decide (A[k]'hka = B[k]'hkb) = t) => equal_any u u' (A[k]'hka) (B[k]'hkb) (w.drewN n) (hra.drewN n) (hrb.drewN n) t ht
        clear hra hrb
        by_cases hxy : A[k] = B[k]
        · have HEt := Lib.hid (HE.out true (decide_eq_true hxy))
          have HN : Hid (A.take (k + 1) = B.take (k + 1)) := take_next hka hkb hE.out hxy
          clear HE hxy
          go_wp2_with fail
          refine HEt.out.mono ?_
          rintro e W ⟨rfl, n2, rfl⟩
          go_wp2_with fail
          go_roundw
          case rel => exact ⟨k + 1, _, by go_num, by omega, by first | rfl | exact drewN_two _ _ _, HN.out⟩
          case measure => simp [intOf]; omega
        · have HEt := Lib.hid (HE.out false (decide_eq_false hxy))
          have hF : t = false := by
            rw [← Ht.out]
            exact decide_eq_false fun e => hxy (by simp [e])
          subst hF
          clear HE hxy
          go_wp2_with fail
          refine HEt.out.mono ?_
          rintro e W ⟨rfl, n2, rfl⟩
          go_wp2_with fail
          go_ret
          first | exact ⟨rfl, _, rfl⟩ | exact ⟨rfl, _, drewN_two _ _ _⟩
      · obtain rfl : k = L := by omega
        have d1 : decide ((k : Int) < (k : Int)) = false := decide_eq_false (by omega)
        have hT : t = true := by rw [← Ht.out]; exact decide_eq_true (take_all (by rw [← HL.out, ← HL'.out]) (by rw [← HL.out]; exact hE.out))
        subst hT
        go_wp2_with fail
        go_ret
        exact ⟨rfl, _, rfl⟩
  · have e1 : ((A.length : Int) != (B.length : Int)) = true := bne_iff_ne.mpr (by omega)
    have hF : t = false := by rw [← ht]; exact decide_eq_false fun e => hl (by rw [e])
    subst hF
    clear hl ht
    go_enter Try.func20, Try.ntmps20
    go_wp2_with fail
    go_ret
    exact ⟨rfl, 0, rfl⟩
theorem same18_any (u v : Value) (A B : List (List ByteArray)) (w : World) (hA : RdTT w w.heap.size u A) (hB : RdTT w w.heap.size v B) (t : Bool) (ht : decide (A = B) = t) :
    Calls Try.prog 14 #[u, v] w fun e w' => e = .returned (.bool t) ∧ ∃ n, w' = w.drewN n := by
  have HE := Lib.hid (equalFunc_any u v A B w hA hB t ht)
  clear hA hB ht
  go_enter Try.func14, Try.ntmps14
  go_wp2_with fail
  refine HE.out.mono ?_
  rintro e W ⟨rfl, n, rfl⟩
  go_wp2_with fail
  go_ret
  exact ⟨rfl, _, rfl⟩
/-- The place of the first one that is s. -/
def idxT (l : List ByteArray) (s : ByteArray) (k : Nat) : Option Nat := ((l.drop k).findIdx? fun t => decide (t = s)).map (· + k)
theorem idxT_end (l : List ByteArray) (s : ByteArray) (k : Nat) (h : l.length ≤ k) : idxT l s k = none := by unfold idxT; rw [List.drop_eq_nil_of_le h]; rfl
theorem idxT_here (l : List ByteArray) (s : ByteArray) (k : Nat) (h : k < l.length) (h1 : l[k] = s) : idxT l s k = some k := by
  unfold idxT; rw [List.drop_eq_getElem_cons h, List.findIdx?_cons, h1]; simp
theorem idxT_next (l : List ByteArray) (s : ByteArray) (k : Nat) (h : k < l.length) (h1 : l[k] ≠ s) : idxT l s k = idxT l s (k + 1) := by
  unfold idxT; rw [List.drop_eq_getElem_cons h, List.findIdx?_cons, decide_eq_false h1]
  simp only [Bool.false_eq_true, if_false, Option.map_map]
  congr 1
  funext i
  simp; omega
theorem idxT_lt (l : List ByteArray) (s : ByteArray) (k n : Nat) (h : idxT l s k = some n) : n < l.length := by
  unfold idxT at h
  cases hf : (l.drop k).findIdx? fun t => decide (t = s) with
  | none => rw [hf] at h; cases h
  | some i =>
    rw [hf] at h
    have := List.findIdx?_eq_some_iff_findIdx_eq.1 hf
    simp at h
    have h2 := this.1
    rw [List.length_drop] at h2
    omega
set_option maxHeartbeats 4000000 in
theorem index_any (u : Value) (l : List ByteArray) (s : ByteArray) (w : World) (hx : RdT w w.heap.size u l) :
    Calls Try.prog 19 #[u, .string s] w fun e w' => e = .returned (.int .i64 (optI (idxT l s 0))) ∧ w = w' := by
  obtain ⟨aa, ca, rfl, q1, q2, hra⟩ := hx
  have hcx : ca ≤ 9223372036854775807 := q2
  have HRa := Lib.hid hra
  obtain ⟨M, hM⟩ : ∃ M, M = l.length := ⟨_, rfl⟩
  rw [← hM] at q1 ⊢
  have HM := Lib.hid hM
  obtain ⟨R, hR⟩ : ∃ R, R = idxT l s 0 := ⟨_, rfl⟩
  rw [← hR]
  have HR := Lib.hid hR
  clear hra q2 hM hR
  go_enter Try.func19, Try.ntmps19
  go_wp2_with fail
  go_loop [8] (fun i => ∃ (j : Nat), i = .int .i64 (j : Int) ∧ j ≤ M ∧ Hid (idxT l s j = R)) (fun i => M - (intOf i).toNat)
  case atStart => exact ⟨0, rfl, Nat.zero_le _, HR.out.symm⟩
  case round =>
    obtain ⟨j, rfl, hj, hE2⟩ := hrel
    by_cases hjt : j < M
    · have d2 : decide ((j : Int) < (M : Int)) = true := decide_eq_true (by omega)
      have j0 : (0 : Int) ≤ (j : Int) := by omega
      have j1 : (j : Int) < (M : Int) := by omega
      have hja : j < l.length := by have := HM.out; omega
      obtain ⟨bx, ox, rfl, s1, s2⟩ := HRa.out.at j hja
      obtain ⟨X, hX⟩ : ∃ X, X = l[j] := ⟨_, rfl⟩
      rw [← hX] at s2
      have hbq := str_beq s X
      by_cases hXY : s = X
      · rw [decide_eq_true hXY] at hbq
        have hF : R = some j := by rw [← hE2.out, idxT_here l s j hja (by rw [← hX, hXY])]
        subst hF
        clear hX hXY hja
        go_wp2_with fail
        go_ret
        exact ⟨rfl, rfl⟩
      · rw [decide_eq_false hXY] at hbq
        have HN : Hid (idxT l s (j + 1) = R) := by show _ = _; rw [← hE2.out, idxT_next l s j hja (by rw [← hX]; exact fun h => hXY h.symm)]
        clear hX hXY hja
        go_wp2_with fail
        go_round
        case rel => exact ⟨j + 1, by go_num, by omega, HN.out⟩
        case measure => simp [intOf]; omega
    · obtain rfl : j = M := by omega
      have d2 : decide ((j : Int) < (j : Int)) = false := decide_eq_false (by omega)
      have hF : R = none := by rw [← hE2.out, idxT_end l s j (by have := HM.out; omega)]
      subst hF
      go_wp2_with fail
      go_ret
      exact ⟨rfl, rfl⟩
def colE (R : List (List ByteArray)) (s : ByteArray) : Option Nat := match R with
  | [] => none
  | r :: _ => idxT r s 0
def colV : Option Nat → Value
  | some n => .tuple #[.int .i64 (n : Int), .bool true]
  | none => .tuple #[.int .i64 0, .bool false]
theorem nil_of {R : List (List ByteArray)} {u : Value} {w : World} {B : Nat} (h : RdTT w B u R) : (R = [] ∧ ∃ a c, u = .slice a 0 c) ∨ ∃ r R', R = r :: R' ∧ ∃ b o c u0, u = .slice (some ⟨b, o, none⟩) R.length c ∧ R.length ≤ c ∧ c ≤ 9223372036854775807 ∧ w.cell? ⟨b, o, none⟩ = some u0 ∧ RdT w B u0 r := by
  obtain ⟨a, c, rfl, a1, a2, hat⟩ := h.at
  rcases R with _ | ⟨r, R'⟩
  · exact .inl ⟨rfl, a, c, rfl⟩
  · obtain ⟨b, o, u0, rfl, _, hc, hr⟩ := hat 0 (by simp)
    exact .inr ⟨r, R', rfl, b, o, c, u0, rfl, a1, a2, by simpa using hc, by simpa using hr⟩
theorem column_any (u : Value) (R : List (List ByteArray)) (s : ByteArray) (w : World) (hx : RdTT w w.heap.size u R) (hb : ∀ r ∈ R, r.length ≤ 1000000) :
    Calls Try.prog 12 #[u, .string s] w fun e w' => e = .returned (colV (colE R s)) ∧ w = w' := by
  rcases nil_of hx with ⟨rfl, a, c, rfl⟩ | ⟨r, R', rfl, b, o, c, u0, rfl, l1, l2, hc, hr⟩
  · clear hx
    go_enter Try.func12, Try.ntmps12
    go_wp2_with fail
    go_ret2
    exact ⟨rfl, rfl⟩
  · obtain ⟨L, hL⟩ : ∃ L, L = (r :: R').length := ⟨_, rfl⟩
    rw [← hL] at l1 ⊢
    have hLp : 0 < L := by rw [hL]; simp
    have d1 : ((L : Int) == 0) = false := beq_eq_false_iff_ne.mpr (by omega)
    have d2 : (0 : Int) < (L : Int) := by omega
    have HI := Lib.hid (index_any u0 r s w hr)
    have hrb := hb r (by simp)
    have he : colE (r :: R') s = idxT r s 0 := rfl
    rw [he]
    clear hx hr he hL hb
    cases hI : idxT r s 0 with
    | none =>
      rw [hI] at HI
      simp only [optI] at HI
      clear hI
      go_enter Try.func12, Try.ntmps12
      go_wp2_with fail
      refine HI.out.mono ?_
      rintro e W ⟨rfl, rfl⟩
      go_wp2_with fail
      go_ret2
      exact ⟨rfl, rfl⟩
    | some n =>
      have hn := idxT_lt r s 0 n hI
      rw [hI] at HI
      simp only [optI] at HI
      have d3 : decide ((0 : Int) ≤ (n : Int)) = true := decide_eq_true (by omega)
      have d4 : ¬ ((n : Int) < 0) := by omega
      have d5 : decide ((n : Int) < 0) = false := decide_eq_false (by omega)
      clear hI
      go_enter Try.func12, Try.ntmps12
      go_wp2_with fail
      refine HI.out.mono ?_
      rintro e W ⟨rfl, rfl⟩
      go_wp2_with fail
      go_ret2
      exact ⟨by simp [colV], rfl⟩
set_option maxHeartbeats 4000000 in
theorem refColumn_any (u : Value) (R : List (List ByteArray)) (s : ByteArray) (w : World) (hx : RdTT w w.heap.size u R) :
    Calls Try.prog 13 #[u, .string s] w fun e w' => e = .returned (colV (colE R s)) ∧ w = w' := by
  rcases nil_of hx with ⟨rfl, a, c, rfl⟩ | ⟨r, R', rfl, b, o, c, u0, rfl, l1, l2, hc, hr⟩
  · clear hx
    go_enter Try.func13, Try.ntmps13
    go_wp2_with fail
    go_loop [6] (fun i => i = .int .i64 0) (fun i => 0)
    case atStart => rfl
    case round =>
      subst hrel
      go_wp2_with fail
      go_ret2
      exact ⟨rfl, rfl⟩
  · obtain ⟨L, hL⟩ : ∃ L, L = (r :: R').length := ⟨_, rfl⟩
    rw [← hL] at l1 ⊢
    have hLp : 0 < L := by rw [hL]; simp
    have d0 : decide ((0 : Int) < (L : Int)) = true := decide_eq_true (by omega)
    have d00 : decide (0 < L) = true := decide_eq_true hLp
    have d2 : (0 : Int) < (L : Int) := by omega
    obtain ⟨aa, ca, rfl, q1, q2, hra⟩ := hr
    have hcx : ca ≤ 9223372036854775807 := q2
    have HRa := Lib.hid hra
    obtain ⟨M, hM⟩ : ∃ M, M = r.length := ⟨_, rfl⟩
    rw [← hM] at q1 hc
    have HM := Lib.hid hM
    obtain ⟨Q, hQ⟩ : ∃ Q, Q = idxT r s 0 := ⟨_, rfl⟩
    have he : colE (r :: R') s = Q := hQ.symm
    rw [he]
    have HR := Lib.hid hQ
    clear hx hra q2 hM hQ he hL
    go_enter Try.func13, Try.ntmps13
    go_wp2_with fail
    go_loop [6] (fun i => ∃ (j : Nat), i = .int .i64 (j : Int) ∧ j ≤ M ∧ Hid (idxT r s j = Q)) (fun i => M - (intOf i).toNat)
    case atStart => exact ⟨0, rfl, Nat.zero_le _, HR.out.symm⟩
    case round =>
      obtain ⟨j, rfl, hj, hE2⟩ := hrel
      by_cases hjt : j < M
      · have d3 : decide ((j : Int) < (M : Int)) = true := decide_eq_true (by omega)
        have j0 : (0 : Int) ≤ (j : Int) := by omega
        have j1 : (j : Int) < (M : Int) := by omega
        have hja : j < r.length := by have := HM.out; omega
        obtain ⟨bx, ox, rfl, s1, s2⟩ := HRa.out.at j hja
        obtain ⟨X, hX⟩ : ∃ X, X = r[j] := ⟨_, rfl⟩
        rw [← hX] at s2
        have hbq := str_beq X s
        by_cases hXY : X = s
        · rw [decide_eq_true hXY] at hbq
          have hF : Q = some j := by rw [← hE2.out, idxT_here r s j hja (by rw [← hX, hXY])]
          subst hF
          clear hX hXY hja
          go_wp2_with fail
          go_ret2
          exact ⟨rfl, rfl⟩
        · rw [decide_eq_false hXY] at hbq
          have HN : Hid (idxT r s (j + 1) = Q) := by show _ = _; rw [← hE2.out, idxT_next r s j hja (by rw [← hX]; exact hXY)]
          clear hX hXY hja
          go_wp2_with fail
          go_round
          case rel => exact ⟨j + 1, by go_num, by omega, HN.out⟩
          case measure => simp [intOf]; omega
      · obtain rfl : j = M := by omega
        have d3 : decide ((j : Int) < (j : Int)) = false := decide_eq_false (by omega)
        have hF : Q = none := by rw [← hE2.out, idxT_end r s j (by have := HM.out; omega)]
        subst hF
        go_wp2_with fail
        go_ret2
        exact ⟨rfl, rfl⟩
end Go.Proofs.Ytedpdlfoccacmaa
