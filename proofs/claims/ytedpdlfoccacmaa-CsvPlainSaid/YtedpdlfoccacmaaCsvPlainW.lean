/- Layer 18: the walk of CsvPlain. -/
import Derived.Test.YtedpdlfoccacmaaCsvRight
import Derived.Test.YtedpdlfoccacmaaCsvColumnsW
namespace Go.Proofs.Ytedpdlfoccacmaa
open Go.RowKit
set_option linter.unusedVariables false
set_option maxRecDepth 100000

theorem plain_of {t : ByteArray} (h : ∀ q, q < t.size → ((bs t).getD q 0 ≠ 44 ∧ (bs t).getD q 0 ≠ 34 ∧ (bs t).getD q 0 ≠ 10 ∧ (bs t).getD q 0 ≠ 13)) : plain (bs t) := by
  intro c hc
  obtain ⟨i, hi, e⟩ := List.getElem_of_mem hc
  have := h i (by rw [← bs_length]; exact hi)
  rw [List.getD_eq_getElem?_getD, List.getElem?_eq_getElem hi, e] at this
  exact this
theorem rowTxt_next (x : List ByteArray) (j : Nat) (h : j < x.length) : rowTxt (x.take (j + 1)) = if 0 < j then rowTxt (x.take j) ++ 44 :: bs x[j] else bs x[j] := by
  rw [List.take_succ_eq_append_getElem h]
  by_cases hj : 0 < j
  · rw [if_pos hj, rowTxt_snoc _ _ (by
      intro e
      have := congrArg List.length e
      rw [List.length_take, List.length_nil] at this
      omega)]
  · have : j = 0 := by omega
    subst this
    rw [if_neg (by omega)]
    rfl
theorem bulkT_mem {A : List (List ByteArray)} {r : List ByteArray} (h : r ∈ A) : sumT r ≤ bulkT A := by
  induction A with
  | nil => cases h
  | cons a A ih =>
    simp only [bulkT, List.map_cons, List.sum_cons] at ih ⊢
    rcases List.mem_cons.1 h with rfl | h
    · omega
    · have := ih h; omega
theorem sumT_take_le (x : List ByteArray) (j : Nat) : sumT (x.take j) ≤ sumT x := by
  have e : sumT x = sumT (x.take j) + sumT (x.drop j) := by
    conv => lhs; rw [← List.take_append_drop j x]
    unfold sumT
    rw [List.map_append, List.sum_append]
  omega
set_option maxHeartbeats 16000000 in
theorem csvPlain_walk (u : Value) (ret last : Bool) (w : World) (hu : ∃ ll, RdTT w w.heap.size u ll ∧ ∀ l ∈ ll, ∀ t ∈ l, t.size ≤ 140737488355328) :
    Calls Try.prog 5 #[u, .bool ret, .bool last] w fun e w' => e = .returned (.bool true) ∧ Below w.heap.size w w' := by
  obtain ⟨R, hRa⟩ := hu
  have hTb : Tbl w u R := hRa
  have hR := hRa.1
  have HL := Lib.hid live18_any
  have HC := Lib.hid code18_any
  have HM := Lib.hid (much18_any u R w hTb)
  have HRi := Lib.hid fun h T hT => refRight_any u R w hR h T hT
  have HRd := Lib.hid hR
  obtain ⟨a, c, rfl, a1, a2, hat⟩ := hR.at
  have hcm : c ≤ 9223372036854775807 := a2
  have HAt := Lib.hid hat
  obtain ⟨L, hL⟩ : ∃ L, L = R.length := ⟨_, rfl⟩
  rw [← hL] at a1 HM HRi ⊢
  have HL1 := Lib.hid hL
  obtain ⟨eb, he⟩ : ∃ eb : ByteArray, eb = if ret then ⟨#[13, 10]⟩ else ⟨#[10]⟩ := ⟨_, rfl⟩
  obtain ⟨E, hE⟩ : ∃ E, E = bs eb := ⟨_, rfl⟩
  have hE2 : E = [10] ∨ E = [13, 10] := by rw [hE, he]; cases ret; exact .inl rfl; exact .inr rfl
  have HE := Lib.hid hE
  have HE2 := Lib.hid hE2
  clear hat a2 hR hL hE hE2 hTb hRa
  cases ret with
  | true =>
    obtain rfl : ⟨#[13, 10]⟩ = eb := he.symm
    clear he
    go_enter Try.func5, Try.ntmps5
    go_wp2_with fail
    refine HM.out.mono ?_
    rintro e W ⟨t1, rfl, hm, rfl⟩
    cases t1 with
    | true =>
      go_wp2_with fail
      refine (HL.out _).mono ?_
      rintro e W4 ⟨rfl, hb4⟩
      have HB4 := Lib.hid hb4
      clear hb4
      go_wp2_with fail
      go_ret
      exact ⟨rfl, HB4.out⟩
    | false =>
    have Hm := Lib.hid (hm rfl)
    clear hm
    have hL50 : L ≤ 50 := by have := Hm.out.1; have := HL1.out; omega
    obtain ⟨T, hT⟩ : ∃ T, rightT R = T := ⟨_, rfl⟩
    have HRt := Lib.hid (HRi.out (by omega) T hT)
    have HTT := Lib.hid hT
    clear hT
    cases T with
    | false =>
      go_wp2_with fail
      refine HRt.out.mono ?_
      rintro e W ⟨rfl, n0, rfl⟩
      go_wp2_with fail
      refine (HL.out _).mono ?_
      rintro e W4 ⟨rfl, hb4⟩
      have HB4 : Hid (Below w.heap.size w W4) := (below_drawnT (Below.refl w.heap.size w) n0).trans hb4
      clear hb4
      go_wp2_with fail
      go_ret
      exact ⟨rfl, HB4.out⟩
    | true =>
    go_wp2_with fail
    refine HRt.out.mono ?_
    rintro e W ⟨rfl, n0, rfl⟩
    by_cases hLp : L = 0
    · subst hLp
      go_wp2_with fail
      refine (HL.out _).mono ?_
      rintro e W4 ⟨rfl, hb4⟩
      have HB4 : Hid (Below w.heap.size w W4) := (below_drawnT (Below.refl w.heap.size w) n0).trans hb4
      clear hb4
      go_wp2_with fail
      go_ret
      exact ⟨rfl, HB4.out⟩
    have d0 : ((L : Int) == 0) = false := beq_eq_false_iff_ne.mpr (by omega)
    go_wp2_with fail
    go_loopw [8, 9] (fun s i W => ∃ (k n : Nat) (sb : ByteArray), s = .string sb ∧ i = .int .i64 (k : Int) ∧ k ≤ L ∧ W = w.drewN n ∧ Hid ((k < L → bs sb = preT E (R.take k)) ∧ (k = L → bs sb = linesTxt E last R)) ∧ sb.size ≤ 1002 * k ∧ Hid (∀ r ∈ R.take k, ∀ t ∈ r, plain (bs t))) (fun _ i _ => L - (intOf i).toNat)
    case atStart => exact ⟨0, _, _, rfl, rfl, Nat.zero_le _, rfl, ⟨fun _ => rfl, fun h => by omega⟩, by decide, fun r hr => by simp at hr⟩
    case round =>
      obtain ⟨k, n, sb, rfl, rfl, hk, rfl, htx, hsz, hpl⟩ := hrel
      by_cases hlt : k < L
      · have d1 : decide ((k : Int) < (L : Int)) = true := decide_eq_true (by omega)
        have k0 : (0 : Int) ≤ (k : Int) := by omega
        have k1 : (k : Int) < (L : Int) := by omega
        have hka : k < R.length := by have := HL1.out; omega
        obtain ⟨b, o, u, rfl, l1, l2, ⟨aa, ca, rfl, q1, q2, hra⟩⟩ := HAt.out k hka
        obtain ⟨x, hx⟩ : ∃ x, x = R[k]'hka := ⟨_, rfl⟩
        have Hxs : Hid (sumT x ≤ 1000) := by show _ ≤ _; have h1 := bulkT_mem (A := R) (r := x) (by rw [hx]; exact List.getElem_mem hka); have := Hm.out.2.2; omega
        rw [← hx] at l2 q1 hra
        have hcx : ca ≤ 9223372036854775807 := q2
        obtain ⟨M, hM⟩ : ∃ M, M = x.length := ⟨_, rfl⟩
        rw [← hM] at l2 q1
        have HM1 := Lib.hid hM
        have HRa := Lib.hid hra
        have Hx := Lib.hid hx
        have Hka := Lib.hid hka
        have Hpre := Lib.hid (htx.out.1 hlt)
        have Hlt := Lib.hid hlt
        clear hra hx q2 hM htx
        go_wp2_with fail
        go_loopw [8, 10] (fun s i W => ∃ (j n' : Nat) (sc : ByteArray), s = .string sc ∧ i = .int .i64 (j : Int) ∧ j ≤ M ∧ W = w.drewN n' ∧ Hid (bs sc = preT E (R.take k) ++ rowTxt (x.take j)) ∧ sc.size ≤ 1002 * k + sumT (x.take j) ∧ Hid (∀ t ∈ x.take j, plain (bs t))) (fun _ i _ => M - (intOf i).toNat)
        case atStart => exact ⟨0, _, sb, rfl, rfl, Nat.zero_le _, rfl, by (show _ = _); rw [Hpre.out]; simp [rowTxt], by omega, fun t ht => by simp at ht⟩
        case round =>
          obtain ⟨j, n', sc, rfl, rfl, hj, rfl, htx2, hsz2, hpl2⟩ := hrel
          by_cases hjt : j < M
          · have d2 : decide ((j : Int) < (M : Int)) = true := decide_eq_true (by omega)
            have j0 : (0 : Int) ≤ (j : Int) := by omega
            have j1 : (j : Int) < (M : Int) := by omega
            have hja : j < x.length := by have := HM1.out; omega
            obtain ⟨bx, ox, rfl, s1, s2⟩ := HRa.out.at j hja
            obtain ⟨t, ht⟩ : ∃ t, t = x[j]'hja := ⟨_, rfl⟩
            rw [← ht] at s2
            have hst := sumT_take x j hja
            have hle := sumT_take_le x (j + 1)
            rw [← ht] at hst
            have hts : t.size ≤ 1000 := by have := Hxs.out; omega
            have hss : sc.size + 1 + t.size ≤ 100000 := by have := Hxs.out; omega
            have Hsn : Hid (sc.size + 1 + t.size ≤ 1002 * k + sumT (x.take (j + 1))) := by show _ ≤ _; omega
            have Ht := Lib.hid ht
            have Hja := Lib.hid hja
            have Htx := Lib.hid (rowTxt_next x j hja)
            rw [← ht] at Htx
            clear hst hle ht hsz2
            go_wp2_with fail
            go_loop [12] (fun i => ∃ m : Nat, i = .int .i64 (m : Int) ∧ m ≤ t.size ∧ Hid (∀ q, q < m → ((bs t).getD q 0 ≠ 44 ∧ (bs t).getD q 0 ≠ 34 ∧ (bs t).getD q 0 ≠ 10 ∧ (bs t).getD q 0 ≠ 13))) (fun i => t.size - (intOf i).toNat)
            case atStart => exact ⟨0, rfl, Nat.zero_le _, fun q h => by omega⟩
            case round =>
              obtain ⟨m, rfl, hmt, hpm⟩ := hrel
              by_cases hmm : m < t.size
              · have d3 : decide ((m : Int) < (t.size : Int)) = true := decide_eq_true (by omega)
                have m0 : (0 : Int) ≤ (m : Int) := by omega
                have m1 : (m : Int) < (t.size : Int) := by omega
                obtain ⟨cc, hcc, hcb, hc8⟩ := byteAt t m hmm
                have Hcb := Lib.hid hcb
                clear hcb
                rcases (show cc = 44 ∨ cc = 34 ∨ cc = 10 ∨ cc = 13 ∨ (cc ≠ 44 ∧ cc ≠ 34 ∧ cc ≠ 10 ∧ cc ≠ 13) by omega) with h | h | h | h | h
                · subst h
                  go_wp2_with fail
                  refine (HL.out _).mono ?_
                  rintro e W4 ⟨rfl, hb4⟩
                  have HB4 : Hid (Below w.heap.size w W4) := (below_drawnT (Below.refl w.heap.size w) n').trans hb4
                  clear hb4
                  go_wp2_with fail
                  go_ret
                  exact ⟨rfl, HB4.out⟩
                · subst h
                  go_wp2_with fail
                  refine (HL.out _).mono ?_
                  rintro e W4 ⟨rfl, hb4⟩
                  have HB4 : Hid (Below w.heap.size w W4) := (below_drawnT (Below.refl w.heap.size w) n').trans hb4
                  clear hb4
                  go_wp2_with fail
                  go_ret
                  exact ⟨rfl, HB4.out⟩
                · subst h
                  go_wp2_with fail
                  refine (HL.out _).mono ?_
                  rintro e W4 ⟨rfl, hb4⟩
                  have HB4 : Hid (Below w.heap.size w W4) := (below_drawnT (Below.refl w.heap.size w) n').trans hb4
                  clear hb4
                  go_wp2_with fail
                  go_ret
                  exact ⟨rfl, HB4.out⟩
                · subst h
                  go_wp2_with fail
                  refine (HL.out _).mono ?_
                  rintro e W4 ⟨rfl, hb4⟩
                  have HB4 : Hid (Below w.heap.size w W4) := (below_drawnT (Below.refl w.heap.size w) n').trans hb4
                  clear hb4
                  go_wp2_with fail
                  go_ret
                  exact ⟨rfl, HB4.out⟩
                · obtain ⟨z1, z2, z3, z4⟩ := h
                  have f1 : ((cc : Int) == 44) = false := beq_eq_false_iff_ne.mpr (by omega)
                  have f2 : ((cc : Int) == 34) = false := beq_eq_false_iff_ne.mpr (by omega)
                  have f3 : ((cc : Int) == 10) = false := beq_eq_false_iff_ne.mpr (by omega)
                  have f4 : ((cc : Int) == 13) = false := beq_eq_false_iff_ne.mpr (by omega)
                  have HN : Hid (∀ q, q < m + 1 → ((bs t).getD q 0 ≠ 44 ∧ (bs t).getD q 0 ≠ 34 ∧ (bs t).getD q 0 ≠ 10 ∧ (bs t).getD q 0 ≠ 13)) := fun q hq => by
                    rcases Nat.lt_or_ge q m with h | h
                    · exact hpm.out q h
                    · obtain rfl : q = m := by omega
                      rw [Hcb.out]; exact ⟨z1, z2, z3, z4⟩
                  clear z1 z2 z3 z4
                  go_wp2_with fail
                  go_round
                  case rel => exact ⟨m + 1, by go_num, by omega, HN.out⟩
                  case measure => simp [intOf]; omega
              · obtain rfl : m = t.size := by omega
                have d3 : decide ((t.size : Int) < (t.size : Int)) = false := decide_eq_false (by omega)
                have HP : Hid (∀ t' ∈ x.take (j + 1), plain (bs t')) := by
                  intro t' ht'
                  rw [List.take_succ_eq_append_getElem Hja.out] at ht'
                  rcases List.mem_append.1 ht' with h | h
                  · exact hpl2.out t' h
                  · rw [List.mem_singleton.1 h, ← Ht.out]; exact plain_of hpm.out
                by_cases hj0 : 0 < j
                · have d4 : decide ((0 : Int) < (j : Int)) = true := decide_eq_true (by omega)
                  have d5 : decide (0 < j) = true := decide_eq_true hj0
                  have hsa : (sc ++ (⟨#[44]⟩ : ByteArray)).size = sc.size + 1 := by rw [ByteArray.size_append]; rfl
                  have hsb : (sc ++ (⟨#[44]⟩ : ByteArray) ++ t).size = sc.size + 1 + t.size := by rw [ByteArray.size_append, hsa]
                  have HN : Hid (bs (sc ++ (⟨#[44]⟩ : ByteArray) ++ t) = preT E (R.take k) ++ rowTxt (x.take (j + 1))) := by
                    show _ = _
                    rw [bs_app, bs_app, htx2.out, Htx.out, if_pos hj0]
                    simp [bs]
                  have HSz : Hid ((sc ++ (⟨#[44]⟩ : ByteArray) ++ t).size ≤ 1002 * k + sumT (x.take (j + 1))) := by show _ ≤ _; rw [hsb]; exact Hsn.out
                  clear hj0 hsb
                  go_wp2_with fail
                  go_roundw
                  case rel => exact ⟨j + 1, _, _, rfl, by go_num, by omega, rfl, HN.out, HSz.out, HP.out⟩
                  case measure => simp [intOf]; omega
                · have d4 : decide ((0 : Int) < (j : Int)) = false := decide_eq_false (by omega)
                  have d5 : decide (0 < j) = false := decide_eq_false hj0
                  have HN : Hid (bs (sc ++ t) = preT E (R.take k) ++ rowTxt (x.take (j + 1))) := by
                    show _ = _
                    rw [bs_app, htx2.out, Htx.out, if_neg hj0, show j = 0 by omega]
                    simp [rowTxt]
                  have HSz : Hid ((sc ++ t).size ≤ 1002 * k + sumT (x.take (j + 1))) := by show _ ≤ _; rw [ByteArray.size_append]; have := Hsn.out; omega
                  clear hj0
                  go_wp2_with fail
                  go_roundw
                  case rel => exact ⟨j + 1, _, _, rfl, by go_num, by omega, rfl, HN.out, HSz.out, HP.out⟩
                  case measure => simp [intOf]; omega
          · obtain rfl : j = M := by omega
            have d2 : decide ((j : Int) < (j : Int)) = false := decide_eq_false (by omega)
            have hfin : x.take j = x := by rw [HM1.out, List.take_length]
            rw [hfin] at htx2 hsz2 hpl2
            have hs1000 : sc.size ≤ 1002 * k + 1000 := by have := Hxs.out; omega
            have HP : Hid (∀ r ∈ R.take (k + 1), ∀ t ∈ r, plain (bs t)) := by
              intro r hr
              rw [List.take_succ_eq_append_getElem Hka.out] at hr
              rcases List.mem_append.1 hr with h | h
              · exact hpl.out r h
              · rw [List.mem_singleton.1 h, ← Hx.out]; exact hpl2.out
            have Htk : Hid (R.take (k + 1) = R.take k ++ [x]) := by show _ = _; rw [List.take_succ_eq_append_getElem Hka.out, ← Hx.out]
            have Hall : Hid (k + 1 = L → R = R.take k ++ [x]) := fun h => by
              conv => lhs; rw [← List.take_length (l := R), ← HL1.out, ← h, Htk.out]
            have Hsum := Lib.hid (show (sc ++ (⟨#[13, 10]⟩ : ByteArray)).size = sc.size + 2 by rw [ByteArray.size_append]; rfl)
            have b1 : (k : Int) + 1 ≤ 9000000000 := by omega
            clear hfin hsz2
            by_cases hkl : k + 1 < L
            · have d3 : decide ((k : Int) + 1 < (L : Int)) = true := decide_eq_true (by omega)
              have HN : Hid (bs (sc ++ (⟨#[13, 10]⟩ : ByteArray)) = preT E (R.take (k + 1))) := by
                show _ = _
                rw [bs_app, htx2.out, Htk.out, preT_snoc, HE.out]; simp
              have HSz : Hid ((sc ++ (⟨#[13, 10]⟩ : ByteArray)).size ≤ 1002 * (k + 1)) := by show _ ≤ _; rw [Hsum.out]; omega
              cases last with
              | true =>
                go_wp2_with fail
                go_roundw
                case rel => exact ⟨k + 1, _, _, rfl, by go_num, by omega, rfl, ⟨fun _ => HN.out, fun h => by omega⟩, HSz.out, HP.out⟩
                case measure => simp [intOf]; omega
              | false =>
                go_wp2_with fail
                go_roundw
                case rel => exact ⟨k + 1, _, _, rfl, by go_num, by omega, rfl, ⟨fun _ => HN.out, fun h => by omega⟩, HSz.out, HP.out⟩
                case measure => simp [intOf]; omega
            · have d3 : decide ((k : Int) + 1 < (L : Int)) = false := decide_eq_false (by omega)
              have hkL : k + 1 = L := by omega
              cases last with
              | true =>
                have HN : Hid (bs (sc ++ (⟨#[13, 10]⟩ : ByteArray)) = linesTxt E true R) := by
                  show _ = _
                  have h1 := linesTxt_snoc E true (R.take k) x
                  rw [← Hall.out hkL] at h1
                  rw [bs_app, htx2.out, h1, HE.out]; simp
                have HSz : Hid ((sc ++ (⟨#[13, 10]⟩ : ByteArray)).size ≤ 1002 * (k + 1)) := by show _ ≤ _; rw [Hsum.out]; omega
                have HkL := Lib.hid hkL
                clear hkL
                go_wp2_with fail
                go_roundw
                case rel => exact ⟨k + 1, _, _, rfl, by go_num, by omega, rfl, ⟨fun h => by have := HkL.out; omega, fun _ => HN.out⟩, HSz.out, HP.out⟩
                case measure => simp [intOf]; omega
              | false =>
                have HN : Hid (bs sc = linesTxt E false R) := by
                  show _ = _
                  have h1 := linesTxt_snoc E false (R.take k) x
                  rw [← Hall.out hkL] at h1
                  rw [htx2.out, h1]; simp
                have HSz : Hid (sc.size ≤ 1002 * (k + 1)) := by show _ ≤ _; omega
                have HkL := Lib.hid hkL
                clear hkL
                go_wp2_with fail
                go_roundw
                case rel => exact ⟨k + 1, _, _, rfl, by go_num, by omega, rfl, ⟨fun h => by have := HkL.out; omega, fun _ => HN.out⟩, HSz.out, HP.out⟩
                case measure => simp [intOf]; omega
      · obtain rfl : k = L := by omega
        have d1 : decide ((k : Int) < (k : Int)) = false := decide_eq_false (by omega)
        have hpar : parseE (bs sb) ((bs sb).length + 1) 0 [] = (R, sb.size, 0) := by
          have hall : R.all (okRow (R.getD 0 []).length) = true := by
            have := HTT.out
            unfold rightT at this
            rw [Bool.and_eq_true] at this
            exact this.1
          have h1 := parse_plain (l := bs sb) E HE2.out last (R.getD 0 []).length R ((bs sb).length + 1) 0 [] (by rw [List.drop_zero]; exact htx.out.2 rfl) (Nat.zero_le _) (List.all_eq_true.1 hall) (by
            have := hpl.out
            rw [HL1.out, List.take_length] at this
            exact this) (by simp) (by have := Hm.out.1; simp; omega) (by omega)
          rw [h1, bs_length]; rfl
        have HPa := Lib.hid fun W => parse_any sb W (by omega)
        rw [hpar] at HPa
        clear hpar
        go_wp2_with fail
        refine (HPa.out _).mono ?_
        rintro e W1 ⟨v1, rfl, hR1, hb1⟩
        have HB1 : Hid (Below w.heap.size w W1) := (below_drawnT (Below.refl w.heap.size w) n).trans hb1
        have HS : Hid (Calls Try.prog 9 #[v1, .slice a k c] W1 fun e w' => e = .returned (.bool true) ∧ ∃ n, w' = W1.drewN n) := by
          have := HRd.out
          rw [← HL1.out] at this
          exact refSame_any v1 _ R R W1 hR1 ((this.below HB1.out).more HB1.out.size) true (decide_eq_true rfl)
        clear hR1 hb1
        go_wp2_with (go_at_call 10; refine (HC.out _ _).mono ?_; rintro e Z9 ⟨rfl, rfl⟩)
        refine HS.out.mono ?_
        rintro e W3 ⟨rfl, n3, rfl⟩
        go_wp2_with fail
        refine (HL.out _).mono ?_
        rintro e W4 ⟨rfl, hb4⟩
        have HB4 := Lib.hid ((below_drawnT HB1.out n3).trans (hb4.mono (below_drawnT HB1.out n3).size))
        clear hb4
        go_wp2_with fail
        go_ret
        exact ⟨rfl, HB4.out⟩
  | false =>
    obtain rfl : ⟨#[10]⟩ = eb := he.symm
    clear he
    go_enter Try.func5, Try.ntmps5
    go_wp2_with fail
    refine HM.out.mono ?_
    rintro e W ⟨t1, rfl, hm, rfl⟩
    cases t1 with
    | true =>
      go_wp2_with fail
      refine (HL.out _).mono ?_
      rintro e W4 ⟨rfl, hb4⟩
      have HB4 := Lib.hid hb4
      clear hb4
      go_wp2_with fail
      go_ret
      exact ⟨rfl, HB4.out⟩
    | false =>
    have Hm := Lib.hid (hm rfl)
    clear hm
    have hL50 : L ≤ 50 := by have := Hm.out.1; have := HL1.out; omega
    obtain ⟨T, hT⟩ : ∃ T, rightT R = T := ⟨_, rfl⟩
    have HRt := Lib.hid (HRi.out (by omega) T hT)
    have HTT := Lib.hid hT
    clear hT
    cases T with
    | false =>
      go_wp2_with fail
      refine HRt.out.mono ?_
      rintro e W ⟨rfl, n0, rfl⟩
      go_wp2_with fail
      refine (HL.out _).mono ?_
      rintro e W4 ⟨rfl, hb4⟩
      have HB4 : Hid (Below w.heap.size w W4) := (below_drawnT (Below.refl w.heap.size w) n0).trans hb4
      clear hb4
      go_wp2_with fail
      go_ret
      exact ⟨rfl, HB4.out⟩
    | true =>
    go_wp2_with fail
    refine HRt.out.mono ?_
    rintro e W ⟨rfl, n0, rfl⟩
    by_cases hLp : L = 0
    · subst hLp
      go_wp2_with fail
      refine (HL.out _).mono ?_
      rintro e W4 ⟨rfl, hb4⟩
      have HB4 : Hid (Below w.heap.size w W4) := (below_drawnT (Below.refl w.heap.size w) n0).trans hb4
      clear hb4
      go_wp2_with fail
      go_ret
      exact ⟨rfl, HB4.out⟩
    have d0 : ((L : Int) == 0) = false := beq_eq_false_iff_ne.mpr (by omega)
    go_wp2_with fail
    go_loopw [8, 9] (fun s i W => ∃ (k n : Nat) (sb : ByteArray), s = .string sb ∧ i = .int .i64 (k : Int) ∧ k ≤ L ∧ W = w.drewN n ∧ Hid ((k < L → bs sb = preT E (R.take k)) ∧ (k = L → bs sb = linesTxt E last R)) ∧ sb.size ≤ 1002 * k ∧ Hid (∀ r ∈ R.take k, ∀ t ∈ r, plain (bs t))) (fun _ i _ => L - (intOf i).toNat)
    case atStart => exact ⟨0, _, _, rfl, rfl, Nat.zero_le _, rfl, ⟨fun _ => rfl, fun h => by omega⟩, by decide, fun r hr => by simp at hr⟩
    case round =>
      obtain ⟨k, n, sb, rfl, rfl, hk, rfl, htx, hsz, hpl⟩ := hrel
      by_cases hlt : k < L
      · have d1 : decide ((k : Int) < (L : Int)) = true := decide_eq_true (by omega)
        have k0 : (0 : Int) ≤ (k : Int) := by omega
        have k1 : (k : Int) < (L : Int) := by omega
        have hka : k < R.length := by have := HL1.out; omega
        obtain ⟨b, o, u, rfl, l1, l2, ⟨aa, ca, rfl, q1, q2, hra⟩⟩ := HAt.out k hka
        obtain ⟨x, hx⟩ : ∃ x, x = R[k]'hka := ⟨_, rfl⟩
        have Hxs : Hid (sumT x ≤ 1000) := by show _ ≤ _; have h1 := bulkT_mem (A := R) (r := x) (by rw [hx]; exact List.getElem_mem hka); have := Hm.out.2.2; omega
        rw [← hx] at l2 q1 hra
        have hcx : ca ≤ 9223372036854775807 := q2
        obtain ⟨M, hM⟩ : ∃ M, M = x.length := ⟨_, rfl⟩
        rw [← hM] at l2 q1
        have HM1 := Lib.hid hM
        have HRa := Lib.hid hra
        have Hx := Lib.hid hx
        have Hka := Lib.hid hka
        have Hpre := Lib.hid (htx.out.1 hlt)
        have Hlt := Lib.hid hlt
        clear hra hx q2 hM htx
        go_wp2_with fail
        go_loopw [8, 10] (fun s i W => ∃ (j n' : Nat) (sc : ByteArray), s = .string sc ∧ i = .int .i64 (j : Int) ∧ j ≤ M ∧ W = w.drewN n' ∧ Hid (bs sc = preT E (R.take k) ++ rowTxt (x.take j)) ∧ sc.size ≤ 1002 * k + sumT (x.take j) ∧ Hid (∀ t ∈ x.take j, plain (bs t))) (fun _ i _ => M - (intOf i).toNat)
        case atStart => exact ⟨0, _, sb, rfl, rfl, Nat.zero_le _, rfl, by (show _ = _); rw [Hpre.out]; simp [rowTxt], by omega, fun t ht => by simp at ht⟩
        case round =>
          obtain ⟨j, n', sc, rfl, rfl, hj, rfl, htx2, hsz2, hpl2⟩ := hrel
          by_cases hjt : j < M
          · have d2 : decide ((j : Int) < (M : Int)) = true := decide_eq_true (by omega)
            have j0 : (0 : Int) ≤ (j : Int) := by omega
            have j1 : (j : Int) < (M : Int) := by omega
            have hja : j < x.length := by have := HM1.out; omega
            obtain ⟨bx, ox, rfl, s1, s2⟩ := HRa.out.at j hja
            obtain ⟨t, ht⟩ : ∃ t, t = x[j]'hja := ⟨_, rfl⟩
            rw [← ht] at s2
            have hst := sumT_take x j hja
            have hle := sumT_take_le x (j + 1)
            rw [← ht] at hst
            have hts : t.size ≤ 1000 := by have := Hxs.out; omega
            have hss : sc.size + 1 + t.size ≤ 100000 := by have := Hxs.out; omega
            have Hsn : Hid (sc.size + 1 + t.size ≤ 1002 * k + sumT (x.take (j + 1))) := by show _ ≤ _; omega
            have Ht := Lib.hid ht
            have Hja := Lib.hid hja
            have Htx := Lib.hid (rowTxt_next x j hja)
            rw [← ht] at Htx
            clear hst hle ht hsz2
            go_wp2_with fail
            go_loop [12] (fun i => ∃ m : Nat, i = .int .i64 (m : Int) ∧ m ≤ t.size ∧ Hid (∀ q, q < m → ((bs t).getD q 0 ≠ 44 ∧ (bs t).getD q 0 ≠ 34 ∧ (bs t).getD q 0 ≠ 10 ∧ (bs t).getD q 0 ≠ 13))) (fun i => t.size - (intOf i).toNat)
            case atStart => exact ⟨0, rfl, Nat.zero_le _, fun q h => by omega⟩
            case round =>
              obtain ⟨m, rfl, hmt, hpm⟩ := hrel
              by_cases hmm : m < t.size
              · have d3 : decide ((m : Int) < (t.size : Int)) = true := decide_eq_true (by omega)
                have m0 : (0 : Int) ≤ (m : Int) := by omega
                have m1 : (m : Int) < (t.size : Int) := by omega
                obtain ⟨cc, hcc, hcb, hc8⟩ := byteAt t m hmm
                have Hcb := Lib.hid hcb
                clear hcb
                rcases (show cc = 44 ∨ cc = 34 ∨ cc = 10 ∨ cc = 13 ∨ (cc ≠ 44 ∧ cc ≠ 34 ∧ cc ≠ 10 ∧ cc ≠ 13) by omega) with h | h | h | h | h
                · subst h
                  go_wp2_with fail
                  refine (HL.out _).mono ?_
                  rintro e W4 ⟨rfl, hb4⟩
                  have HB4 : Hid (Below w.heap.size w W4) := (below_drawnT (Below.refl w.heap.size w) n').trans hb4
                  clear hb4
                  go_wp2_with fail
                  go_ret
                  exact ⟨rfl, HB4.out⟩
                · subst h
                  go_wp2_with fail
                  refine (HL.out _).mono ?_
                  rintro e W4 ⟨rfl, hb4⟩
                  have HB4 : Hid (Below w.heap.size w W4) := (below_drawnT (Below.refl w.heap.size w) n').trans hb4
                  clear hb4
                  go_wp2_with fail
                  go_ret
                  exact ⟨rfl, HB4.out⟩
                · subst h
                  go_wp2_with fail
                  refine (HL.out _).mono ?_
                  rintro e W4 ⟨rfl, hb4⟩
                  have HB4 : Hid (Below w.heap.size w W4) := (below_drawnT (Below.refl w.heap.size w) n').trans hb4
                  clear hb4
                  go_wp2_with fail
                  go_ret
                  exact ⟨rfl, HB4.out⟩
                · subst h
                  go_wp2_with fail
                  refine (HL.out _).mono ?_
                  rintro e W4 ⟨rfl, hb4⟩
                  have HB4 : Hid (Below w.heap.size w W4) := (below_drawnT (Below.refl w.heap.size w) n').trans hb4
                  clear hb4
                  go_wp2_with fail
                  go_ret
                  exact ⟨rfl, HB4.out⟩
                · obtain ⟨z1, z2, z3, z4⟩ := h
                  have f1 : ((cc : Int) == 44) = false := beq_eq_false_iff_ne.mpr (by omega)
                  have f2 : ((cc : Int) == 34) = false := beq_eq_false_iff_ne.mpr (by omega)
                  have f3 : ((cc : Int) == 10) = false := beq_eq_false_iff_ne.mpr (by omega)
                  have f4 : ((cc : Int) == 13) = false := beq_eq_false_iff_ne.mpr (by omega)
                  have HN : Hid (∀ q, q < m + 1 → ((bs t).getD q 0 ≠ 44 ∧ (bs t).getD q 0 ≠ 34 ∧ (bs t).getD q 0 ≠ 10 ∧ (bs t).getD q 0 ≠ 13)) := fun q hq => by
                    rcases Nat.lt_or_ge q m with h | h
                    · exact hpm.out q h
                    · obtain rfl : q = m := by omega
                      rw [Hcb.out]; exact ⟨z1, z2, z3, z4⟩
                  clear z1 z2 z3 z4
                  go_wp2_with fail
                  go_round
                  case rel => exact ⟨m + 1, by go_num, by omega, HN.out⟩
                  case measure => simp [intOf]; omega
              · obtain rfl : m = t.size := by omega
                have d3 : decide ((t.size : Int) < (t.size : Int)) = false := decide_eq_false (by omega)
                have HP : Hid (∀ t' ∈ x.take (j + 1), plain (bs t')) := by
                  intro t' ht'
                  rw [List.take_succ_eq_append_getElem Hja.out] at ht'
                  rcases List.mem_append.1 ht' with h | h
                  · exact hpl2.out t' h
                  · rw [List.mem_singleton.1 h, ← Ht.out]; exact plain_of hpm.out
                by_cases hj0 : 0 < j
                · have d4 : decide ((0 : Int) < (j : Int)) = true := decide_eq_true (by omega)
                  have d5 : decide (0 < j) = true := decide_eq_true hj0
                  have hsa : (sc ++ (⟨#[44]⟩ : ByteArray)).size = sc.size + 1 := by rw [ByteArray.size_append]; rfl
                  have hsb : (sc ++ (⟨#[44]⟩ : ByteArray) ++ t).size = sc.size + 1 + t.size := by rw [ByteArray.size_append, hsa]
                  have HN : Hid (bs (sc ++ (⟨#[44]⟩ : ByteArray) ++ t) = preT E (R.take k) ++ rowTxt (x.take (j + 1))) := by
                    show _ = _
                    rw [bs_app, bs_app, htx2.out, Htx.out, if_pos hj0]
                    simp [bs]
                  have HSz : Hid ((sc ++ (⟨#[44]⟩ : ByteArray) ++ t).size ≤ 1002 * k + sumT (x.take (j + 1))) := by show _ ≤ _; rw [hsb]; exact Hsn.out
                  clear hj0 hsb
                  go_wp2_with fail
                  go_roundw
                  case rel => exact ⟨j + 1, _, _, rfl, by go_num, by omega, rfl, HN.out, HSz.out, HP.out⟩
                  case measure => simp [intOf]; omega
                · have d4 : decide ((0 : Int) < (j : Int)) = false := decide_eq_false (by omega)
                  have d5 : decide (0 < j) = false := decide_eq_false hj0
                  have HN : Hid (bs (sc ++ t) = preT E (R.take k) ++ rowTxt (x.take (j + 1))) := by
                    show _ = _
                    rw [bs_app, htx2.out, Htx.out, if_neg hj0, show j = 0 by omega]
                    simp [rowTxt]
                  have HSz : Hid ((sc ++ t).size ≤ 1002 * k + sumT (x.take (j + 1))) := by show _ ≤ _; rw [ByteArray.size_append]; have := Hsn.out; omega
                  clear hj0
                  go_wp2_with fail
                  go_roundw
                  case rel => exact ⟨j + 1, _, _, rfl, by go_num, by omega, rfl, HN.out, HSz.out, HP.out⟩
                  case measure => simp [intOf]; omega
          · obtain rfl : j = M := by omega
            have d2 : decide ((j : Int) < (j : Int)) = false := decide_eq_false (by omega)
            have hfin : x.take j = x := by rw [HM1.out, List.take_length]
            rw [hfin] at htx2 hsz2 hpl2
            have hs1000 : sc.size ≤ 1002 * k + 1000 := by have := Hxs.out; omega
            have HP : Hid (∀ r ∈ R.take (k + 1), ∀ t ∈ r, plain (bs t)) := by
              intro r hr
              rw [List.take_succ_eq_append_getElem Hka.out] at hr
              rcases List.mem_append.1 hr with h | h
              · exact hpl.out r h
              · rw [List.mem_singleton.1 h, ← Hx.out]; exact hpl2.out
            have Htk : Hid (R.take (k + 1) = R.take k ++ [x]) := by show _ = _; rw [List.take_succ_eq_append_getElem Hka.out, ← Hx.out]
            have Hall : Hid (k + 1 = L → R = R.take k ++ [x]) := fun h => by
              conv => lhs; rw [← List.take_length (l := R), ← HL1.out, ← h, Htk.out]
            have Hsum := Lib.hid (show (sc ++ (⟨#[10]⟩ : ByteArray)).size = sc.size + 1 by rw [ByteArray.size_append]; rfl)
            have b1 : (k : Int) + 1 ≤ 9000000000 := by omega
            clear hfin hsz2
            by_cases hkl : k + 1 < L
            · have d3 : decide ((k : Int) + 1 < (L : Int)) = true := decide_eq_true (by omega)
              have HN : Hid (bs (sc ++ (⟨#[10]⟩ : ByteArray)) = preT E (R.take (k + 1))) := by
                show _ = _
                rw [bs_app, htx2.out, Htk.out, preT_snoc, HE.out]; simp
              have HSz : Hid ((sc ++ (⟨#[10]⟩ : ByteArray)).size ≤ 1002 * (k + 1)) := by show _ ≤ _; rw [Hsum.out]; omega
              cases last with
              | true =>
                go_wp2_with fail
                go_roundw
                case rel => exact ⟨k + 1, _, _, rfl, by go_num, by omega, rfl, ⟨fun _ => HN.out, fun h => by omega⟩, HSz.out, HP.out⟩
                case measure => simp [intOf]; omega
              | false =>
                go_wp2_with fail
                go_roundw
                case rel => exact ⟨k + 1, _, _, rfl, by go_num, by omega, rfl, ⟨fun _ => HN.out, fun h => by omega⟩, HSz.out, HP.out⟩
                case measure => simp [intOf]; omega
            · have d3 : decide ((k : Int) + 1 < (L : Int)) = false := decide_eq_false (by omega)
              have hkL : k + 1 = L := by omega
              cases last with
              | true =>
                have HN : Hid (bs (sc ++ (⟨#[10]⟩ : ByteArray)) = linesTxt E true R) := by
                  show _ = _
                  have h1 := linesTxt_snoc E true (R.take k) x
                  rw [← Hall.out hkL] at h1
                  rw [bs_app, htx2.out, h1, HE.out]; simp
                have HSz : Hid ((sc ++ (⟨#[10]⟩ : ByteArray)).size ≤ 1002 * (k + 1)) := by show _ ≤ _; rw [Hsum.out]; omega
                have HkL := Lib.hid hkL
                clear hkL
                go_wp2_with fail
                go_roundw
                case rel => exact ⟨k + 1, _, _, rfl, by go_num, by omega, rfl, ⟨fun h => by have := HkL.out; omega, fun _ => HN.out⟩, HSz.out, HP.out⟩
                case measure => simp [intOf]; omega
              | false =>
                have HN : Hid (bs sc = linesTxt E false R) := by
                  show _ = _
                  have h1 := linesTxt_snoc E false (R.take k) x
                  rw [← Hall.out hkL] at h1
                  rw [htx2.out, h1]; simp
                have HSz : Hid (sc.size ≤ 1002 * (k + 1)) := by show _ ≤ _; omega
                have HkL := Lib.hid hkL
                clear hkL
                go_wp2_with fail
                go_roundw
                case rel => exact ⟨k + 1, _, _, rfl, by go_num, by omega, rfl, ⟨fun h => by have := HkL.out; omega, fun _ => HN.out⟩, HSz.out, HP.out⟩
                case measure => simp [intOf]; omega
      · obtain rfl : k = L := by omega
        have d1 : decide ((k : Int) < (k : Int)) = false := decide_eq_false (by omega)
        have hpar : parseE (bs sb) ((bs sb).length + 1) 0 [] = (R, sb.size, 0) := by
          have hall : R.all (okRow (R.getD 0 []).length) = true := by
            have := HTT.out
            unfold rightT at this
            rw [Bool.and_eq_true] at this
            exact this.1
          have h1 := parse_plain (l := bs sb) E HE2.out last (R.getD 0 []).length R ((bs sb).length + 1) 0 [] (by rw [List.drop_zero]; exact htx.out.2 rfl) (Nat.zero_le _) (List.all_eq_true.1 hall) (by
            have := hpl.out
            rw [HL1.out, List.take_length] at this
            exact this) (by simp) (by have := Hm.out.1; simp; omega) (by omega)
          rw [h1, bs_length]; rfl
        have HPa := Lib.hid fun W => parse_any sb W (by omega)
        rw [hpar] at HPa
        clear hpar
        go_wp2_with fail
        refine (HPa.out _).mono ?_
        rintro e W1 ⟨v1, rfl, hR1, hb1⟩
        have HB1 : Hid (Below w.heap.size w W1) := (below_drawnT (Below.refl w.heap.size w) n).trans hb1
        have HS : Hid (Calls Try.prog 9 #[v1, .slice a k c] W1 fun e w' => e = .returned (.bool true) ∧ ∃ n, w' = W1.drewN n) := by
          have := HRd.out
          rw [← HL1.out] at this
          exact refSame_any v1 _ R R W1 hR1 ((this.below HB1.out).more HB1.out.size) true (decide_eq_true rfl)
        clear hR1 hb1
        go_wp2_with (go_at_call 10; refine (HC.out _ _).mono ?_; rintro e Z9 ⟨rfl, rfl⟩)
        refine HS.out.mono ?_
        rintro e W3 ⟨rfl, n3, rfl⟩
        go_wp2_with fail
        refine (HL.out _).mono ?_
        rintro e W4 ⟨rfl, hb4⟩
        have HB4 := Lib.hid ((below_drawnT HB1.out n3).trans (hb4.mono (below_drawnT HB1.out n3).size))
        clear hb4
        go_wp2_with fail
        go_ret
        exact ⟨rfl, HB4.out⟩
end Go.Proofs.Ytedpdlfoccacmaa
