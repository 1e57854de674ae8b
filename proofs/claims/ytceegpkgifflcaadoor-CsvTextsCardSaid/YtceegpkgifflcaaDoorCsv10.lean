/- Layer 18: much; the walk of CsvColumns. -/
import Derived.Test.YtceegpkgifflcaaDoorCsv9
namespace Go.Proofs.YtceegpkgifflcaaDoor
open Go.RowKit
set_option linter.unusedVariables false
set_option maxRecDepth 100000

/-- A table that reads as A, of strings that memory can hold. -/
def Tbl (w : World) (u : Value) (A : List (List ByteArray)) : Prop := RdTT w w.heap.size u A ∧ ∀ r ∈ A, ∀ t ∈ r, t.size ≤ 140737488355328
def sumT (r : List ByteArray) : Nat := (r.map fun t => 1 + t.size).sum
def bulkT (A : List (List ByteArray)) : Nat := (A.map sumT).sum
theorem sumT_take (r : List ByteArray) (k : Nat) (h : k < r.length) : sumT (r.take (k + 1)) = sumT (r.take k) + (1 + r[k].size) := by
  have e := List.take_succ_eq_append_getElem h
  unfold sumT
  rw [e, List.map_append, List.sum_append]
  simp
theorem bulkT_take (A : List (List ByteArray)) (k : Nat) (h : k < A.length) : bulkT (A.take (k + 1)) = bulkT (A.take k) + sumT A[k] := by
  have e := List.take_succ_eq_append_getElem h
  unfold bulkT
  rw [e, List.map_append, List.sum_append]
  simp
theorem sumT_len (r : List ByteArray) : r.length ≤ sumT r := by
  induction r with
  | nil => simp
  | cons t r ih => simp only [sumT, List.map_cons, List.sum_cons, List.length_cons] at ih ⊢; omega
def MuchPost (w : World) (A : List (List ByteArray)) (e : Ending) (w' : World) : Prop := ∃ t : Bool, e = .returned (.bool t) ∧ (t = false → A.length ≤ 50 ∧ (∀ r ∈ A, r.length ≤ 50) ∧ bulkT A ≤ 1000) ∧ w = w'
theorem MuchPost.yes {w : World} {A : List (List ByteArray)} : MuchPost w A (.returned (.bool true)) w := ⟨true, rfl, fun h => (by cases h), rfl⟩
set_option maxHeartbeats 8000000 in
theorem much18_any (u : Value) (A : List (List ByteArray)) (w : World) (h : Tbl w u A) : Calls Tryd.prog 4 #[u] w (MuchPost w A) := by
  obtain ⟨hA, hsz⟩ := h
  obtain ⟨a, c, rfl, a1, a2, hat⟩ := hA.at
  have hcm : c ≤ 9223372036854775807 := a2
  have HAt := Lib.hid hat
  have Hsz := Lib.hid hsz
  obtain ⟨L, hL⟩ : ∃ L, L = A.length := ⟨_, rfl⟩
  rw [← hL] at a1 ⊢
  have HL := Lib.hid hL
  clear hat a2 hA hsz hL
  go_enter Tryd.func4, Tryd.ntmps4
  go_wp2_with fail
  go_loop [3, 4] (fun n i => ∃ (k m : Nat), n = .int .i64 (m : Int) ∧ i = .int .i64 (k : Int) ∧ k ≤ L ∧ k ≤ 60 ∧ Hid (bulkT (A.take k) = m) ∧ m ≤ 1000 ∧ Hid (∀ r ∈ A.take k, r.length ≤ 50)) (fun _ i => 60 - (intOf i).toNat)
  case atStart => exact ⟨0, 0, rfl, rfl, Nat.zero_le _, by omega, rfl, by omega, fun r hr => by simp at hr⟩
  case round =>
    obtain ⟨k, m, rfl, rfl, hk, hk6, hm, hm1, hall⟩ := hrel
    by_cases hlt : k < L
    · have d1 : decide ((k : Int) < (L : Int)) = true := decide_eq_true (by omega)
      by_cases h60 : k < 60
      · have d2 : decide ((k : Int) < 60) = true := decide_eq_true (by omega)
        have k0 : (0 : Int) ≤ (k : Int) := by omega
        have k1 : (k : Int) < (L : Int) := by omega
        have hka : k < A.length := by have := HL.out; omega
        obtain ⟨b, o, u0, rfl, l1, l2, ⟨aa, ca, rfl, q1, q2, hra⟩⟩ := HAt.out k hka
        obtain ⟨x, hx⟩ : ∃ x, x = A[k]'hka := ⟨_, rfl⟩
        rw [← hx] at l2 q1 hra
        have hxs : ∀ t ∈ x, t.size ≤ 140737488355328 := fun t ht => Hsz.out x (by rw [hx]; exact List.getElem_mem hka) t ht
        have hcx : ca ≤ 9223372036854775807 := q2
        obtain ⟨M, hM⟩ : ∃ M, M = x.length := ⟨_, rfl⟩
        rw [← hM] at l2 q1
        have HM := Lib.hid hM
        have HRa := Lib.hid hra
        have Hxs := Lib.hid hxs
        have Hx := Lib.hid hx
        have Hka := Lib.hid hka
        clear hra hxs hx q2 hM
        go_wp2_with fail
        go_loop [3, 5] (fun n i => ∃ (j v : Nat), n = .int .i64 (v : Int) ∧ i = .int .i64 (j : Int) ∧ j ≤ M ∧ j ≤ 60 ∧ Hid (m + sumT (x.take j) = v) ∧ v ≤ m + j * 140737488355329) (fun _ i => 60 - (intOf i).toNat)
        case atStart => exact ⟨0, m, rfl, rfl, Nat.zero_le _, by omega, rfl, by omega⟩
        case round =>
          obtain ⟨j, v, rfl, rfl, hj, hj6, hv, hv1⟩ := hrel
          by_cases hjt : j < M
          · have d3 : decide ((j : Int) < (M : Int)) = true := decide_eq_true (by omega)
            by_cases hj60 : j < 60
            · have d4 : decide ((j : Int) < 60) = true := decide_eq_true (by omega)
              have j0 : (0 : Int) ≤ (j : Int) := by omega
              have j1 : (j : Int) < (M : Int) := by omega
              have hja : j < x.length := by have := HM.out; omega
              obtain ⟨bx, ox, rfl, s1, s2⟩ := HRa.out.at j hja
              have hst := sumT_take x j hja
              have hXs := Hxs.out _ (List.getElem_mem hja)
              obtain ⟨X, hX⟩ : ∃ X, X = x[j]'hja := ⟨_, rfl⟩
              rw [← hX] at s2 hst hXs
              have HN : Hid (m + sumT (x.take (j + 1)) = v + (1 + X.size)) := by show _ = _; rw [hst, ← hv.out]; omega
              have b1 : (v : Int) + 1 + (X.size : Int) ≤ 9000000000000000000 := by omega
              have b2 : v ≤ 9000000000000000 := by omega
              have HV2 : Hid (v + (1 + X.size) ≤ m + (j + 1) * 140737488355329) := by show _ ≤ _; omega
              clear hX hst hja hv1
              go_wp2_with fail
              go_round
              case rel => exact ⟨j + 1, v + (1 + X.size), by congr 1; omega, by go_num, by omega, by omega, HN.out, HV2.out⟩
              case measure => simp [intOf]; omega
            · have d4 : decide ((j : Int) < 60) = false := decide_eq_false (by omega)
              have hM5 : 50 < M := by omega
              have d5 : decide ((50 : Int) < (M : Int)) = true := decide_eq_true (by omega)
              by_cases hbig : 1000 < v
              · have d6 : decide ((1000 : Int) < (v : Int)) = true := decide_eq_true (by omega)
                clear hv1
                go_wp2_with fail
                go_ret
                exact MuchPost.yes
              · have d6 : decide ((1000 : Int) < (v : Int)) = false := decide_eq_false (by omega)
                clear hv1
                go_wp2_with fail
                go_ret
                exact MuchPost.yes
          · obtain rfl : j = M := by omega
            have d3 : decide ((j : Int) < (j : Int)) = false := decide_eq_false (by omega)
            by_cases hbig : 1000 < v
            · have d6 : decide ((1000 : Int) < (v : Int)) = true := decide_eq_true (by omega)
              clear hv1
              go_wp2_with fail
              go_ret
              exact MuchPost.yes
            · have d6 : decide ((1000 : Int) < (v : Int)) = false := decide_eq_false (by omega)
              by_cases h5 : 50 < j
              · have d5 : decide ((50 : Int) < (j : Int)) = true := decide_eq_true (by omega)
                clear hv1
                go_wp2_with fail
                go_ret
                exact MuchPost.yes
              · have d5 : decide ((50 : Int) < (j : Int)) = false := decide_eq_false (by omega)
                have HN : Hid (bulkT (A.take (k + 1)) = v) := by
                  show _ = _
                  rw [bulkT_take A k Hka.out, hm.out, ← Hx.out, ← hv.out, HM.out, List.take_length]
                have HN2 : Hid (∀ r ∈ A.take (k + 1), r.length ≤ 50) := by
                  intro r hr
                  rw [List.take_succ_eq_append_getElem Hka.out] at hr
                  rcases List.mem_append.1 hr with h | h
                  · exact hall.out r h
                  · rw [List.mem_singleton.1 h, ← Hx.out, ← HM.out]; omega
                clear hv1
                go_wp2_with fail
                go_round
                case rel => exact ⟨k + 1, v, rfl, by go_num, by omega, by omega, HN.out, by omega, HN2.out⟩
                case measure => simp [intOf]; omega
      · have d2 : decide ((k : Int) < 60) = false := decide_eq_false (by omega)
        have d3 : decide ((50 : Int) < (L : Int)) = true := decide_eq_true (by omega)
        have d4 : decide (50 < L) = true := decide_eq_true (by omega)
        go_wp2_with fail
        go_ret
        exact ⟨true, by first | rfl | simp [d3], fun h => (by cases h), rfl⟩
    · obtain rfl : k = L := by omega
      have d1 : decide ((k : Int) < (k : Int)) = false := decide_eq_false (by omega)
      have hfin : A.take k = A := by rw [HL.out, List.take_length]
      rw [hfin] at hm hall
      by_cases h5 : 50 < k
      · have d3 : decide ((50 : Int) < (k : Int)) = true := decide_eq_true (by omega)
        clear hfin
        go_wp2_with fail
        go_ret
        exact ⟨true, by first | rfl | simp [d3], fun h => (by cases h), rfl⟩
      · have d3 : decide ((50 : Int) < (k : Int)) = false := decide_eq_false (by omega)
        clear hfin
        go_wp2_with fail
        go_ret
        exact ⟨false, by first | rfl | simp [d3], fun _ => ⟨by have := HL.out; omega, hall.out, by have := hm.out; omega⟩, rfl⟩
end Go.Proofs.YtceegpkgifflcaaDoor
