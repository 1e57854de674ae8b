/- Layer 18: the reference's Text. -/
import Derived.Test.YtceegpkgifflcaaDoorCsvTx
namespace Go.Proofs.YtceegpkgifflcaaDoor
open Go.RowKit Go.Shelf Go.Lib
set_option linter.unusedVariables false
set_option maxRecDepth 100000

theorem take_byte (t : ByteArray) (m c : Nat) (h : m < t.size) (hc : (bs t).getD m 0 = c) : (bs t).take (m + 1) = (bs t).take m ++ [c] := by
  have h1 : m < (bs t).length := by rw [bs_length]; exact h
  rw [List.take_succ_eq_append_getElem h1, ← hc, List.getD_eq_getElem?_getD, List.getElem?_eq_getElem h1]; rfl
theorem ext_one (t : ByteArray) (m c : Nat) (h : m < t.size) (hc : (bs t).getD m 0 = c) : bs (t.extract m (m + 1)) = [c] := by
  rw [bs_ext, drop_head (by rw [bs_length]; exact h), hc, show m + 1 - m = 1 by omega]; rfl
theorem dblE_snoc (l : List Nat) (c : Nat) : dblE (l ++ [c]) = dblE l ++ (if c = 34 then [34, 34] else [c]) := by unfold dblE; simp
theorem any_snoc (l : List Nat) (c : Nat) : (l ++ [c]).any needB = (l.any needB || needB c) := by simp
set_option maxHeartbeats 16000000 in
theorem refText_any (u : Value) (R : List (List ByteArray)) (w : World) (hR : RdTT w w.heap.size u R) (hf : Few R) (T : Bool) (hT : rightT R = T) :
    Calls Tryd.prog 9 #[u] w fun e w' => e = .returned (.string (strOf (if T then textE R else []))) ∧ Below w.heap.size w w' := by
  have HRi := Lib.hid (refRight_any u R w hR (by have := hf.rows; omega) T hT)
  obtain ⟨a, c, rfl, a1, a2, hat⟩ := hR.at
  have hcm : c ≤ 9223372036854775807 := a2
  have HAt := Lib.hid hat
  have Hf := Lib.hid hf
  obtain ⟨L, hL⟩ : ∃ L, L = R.length := ⟨_, rfl⟩
  rw [← hL] at a1 HRi ⊢
  have HL := Lib.hid hL
  have hL50 : L ≤ 50 := by rw [hL]; exact hf.rows
  clear hat a2 hR hL hf hT
  cases T with
  | false =>
    go_enter Tryd.func9, Tryd.ntmps9
    go_wp2_with fail
    refine HRi.out.mono ?_
    rintro e X ⟨rfl, n0, rfl⟩
    clear HRi
    go_wp2_with fail
    exact bodyPost_ret (v := .string ⟨#[]⟩) (by simp [results, Tryd.results9, go_sem]) rfl ⟨rfl, ⟨rfl, rfl, rfl, Nat.le_refl _, fun _ _ => rfl⟩⟩
  | true =>
    go_enter Tryd.func9, Tryd.ntmps9
    go_wp2_with fail
    refine HRi.out.mono ?_
    rintro e X ⟨rfl, n0, hX⟩
    have HB : Hid (Below w.heap.size w X) := by show Below _ _ _; rw [hX]; exact ⟨rfl, rfl, rfl, Nat.le_refl _, fun _ _ => rfl⟩
    have HAx := Lib.hid (HAt.out.below HB.out)
    clear HRi hX HAt
    go_wp2_with fail
    go_loopw [3, 4] (fun s i W => ∃ (k : Nat) (sb : ByteArray), s = .string sb ∧ i = .int .i64 (k : Int) ∧ k ≤ L ∧ X = W ∧ Hid (bs sb = textE (R.take k)) ∧ sb.size ≤ 200000 * k) (fun _ i _ => L - (RowKit.intOf i).toNat)
    case atStart => exact ⟨0, ⟨#[]⟩, rfl, rfl, Nat.zero_le _, rfl, rfl, Nat.zero_le _⟩
    case round =>
      obtain ⟨k, sb, rfl, rfl, hk, rfl, htx, hsz⟩ := hrel
      by_cases hlt : k < L
      · have d1 : decide ((k : Int) < (L : Int)) = true := decide_eq_true (by omega)
        have k0 : (0 : Int) ≤ (k : Int) := by omega
        have k1 : (k : Int) < (L : Int) := by omega
        have hka : k < R.length := by have := HL.out; omega
        obtain ⟨b, o, u, rfl, l1, l2, ⟨aa, ca, rfl, q1, q2, hra⟩⟩ := HAx.out k hka
        obtain ⟨x, hx⟩ : ∃ x, x = R[k]'hka := ⟨_, rfl⟩
        rw [← hx] at l2 q1 hra
        have hcx : ca ≤ 9223372036854775807 := q2
        have Hxm : Hid (x ∈ R) := by show _ ∈ _; rw [hx]; exact List.getElem_mem hka
        obtain ⟨M, hM⟩ : ∃ M, M = x.length := ⟨_, rfl⟩
        rw [← hM] at l2 q1
        have HM1 := Lib.hid hM
        have hM50 : M ≤ 50 := by rw [hM]; exact Hf.out.cols x Hxm.out
        have HRa := Lib.hid hra
        have Hnx := Lib.hid (textE_next R k hka)
        rw [← hx] at Hnx
        have HT0 : Hid (bs sb = textE (R.take k) ++ joinE (x.take 0)) := by show _ = _; rw [List.take_zero]; show _ = _ ++ []; rw [List.append_nil]; exact htx.out
        clear hra hx q2 hM htx
        go_wp2_with fail
        go_loopw [3, 5] (fun s i W => ∃ (j : Nat) (sc : ByteArray), s = .string sc ∧ i = .int .i64 (j : Int) ∧ j ≤ M ∧ X = W ∧ Hid (bs sc = textE (R.take k) ++ joinE (x.take j)) ∧ sc.size ≤ 200000 * k + 3000 * j) (fun _ i _ => M - (RowKit.intOf i).toNat)
        case atStart => exact ⟨0, sb, rfl, rfl, Nat.zero_le _, rfl, HT0, by omega⟩
        case round =>
          clear HT0
          obtain ⟨j, sc, rfl, rfl, hj, rfl, htx, hszj⟩ := hrel
          by_cases hjt : j < M
          · have d2 : decide ((j : Int) < (M : Int)) = true := decide_eq_true (by omega)
            have j0 : (0 : Int) ≤ (j : Int) := by omega
            have j1 : (j : Int) < (M : Int) := by omega
            have hja : j < x.length := by have := HM1.out; omega
            obtain ⟨bx, ox, rfl, s1, s2⟩ := HRa.out.at j hja
            obtain ⟨t, ht⟩ : ∃ t, t = x[j]'hja := ⟨_, rfl⟩
            rw [← ht] at s2
            have hts : t.size ≤ 1000 := by rw [ht]; exact Hf.out.siz x Hxm.out _ (List.getElem_mem hja)
            have Hjn := Lib.hid (joinE_next x j hja)
            rw [← ht] at Hjn
            -- the text before this field
            obtain ⟨sd, hsd, hsd2, hpre⟩ : ∃ sd : ByteArray, sd.size ≤ 200000 * k + 3000 * j + 1 ∧ (bs sd ++ fldE (bs t) = textE (R.take k) ++ joinE (x.take (j + 1))) ∧ sd = (if 0 < j then sc ++ (⟨#[44]⟩ : ByteArray) else sc) := by
              refine ⟨_, ?_, ?_, rfl⟩
              · split
                · rw [ByteArray.size_append]; show sc.size + 1 ≤ _; omega
                · omega
              · by_cases h0 : 0 < j
                · rw [if_pos h0, Hjn.out, if_pos h0, bs_app, htx.out]
                  show _ ++ _ ++ [44] ++ _ = _
                  simp
                · rw [if_neg h0, Hjn.out, if_neg h0, htx.out]
                  simp
            have Hsd2 := Lib.hid hsd2
            clear hsd2 ht Hjn htx
            by_cases hj0 : 0 < j
            · have d3 : decide ((0 : Int) < (j : Int)) = true := decide_eq_true (by omega)
              have d5 : decide (0 < j) = true := decide_eq_true hj0
              have ac := fun w => run_string_add_sum (P := Tryd.prog) (w := w) sc (⟨#[44]⟩ : ByteArray) (by show sc.size + 1 ≤ _; omega)
              rw [if_pos hj0] at hpre
              rw [← hpre] at ac
              clear hj0 hpre
              go_wp2_with fail
              go_loopw [7, 8, 9] (fun q nd i W => ∃ (m : Nat) (sq : ByteArray) (bd : Bool), q = .string sq ∧ nd = .bool bd ∧ i = .int .i64 (m : Int) ∧ m ≤ t.size ∧ X = W ∧ Hid (bs sq = dblE ((bs t).take m)) ∧ Hid (bd = ((bs t).take m).any needB) ∧ sq.size ≤ 2 * m) (fun _ _ i _ => t.size - (RowKit.intOf i).toNat)
              case atStart => exact ⟨0, ⟨#[]⟩, false, rfl, rfl, rfl, Nat.zero_le _, rfl, rfl, rfl, Nat.zero_le _⟩
              case round =>
                obtain ⟨m, sq, bd, rfl, rfl, rfl, hm, rfl, hq, hb, hqs⟩ := hrel
                by_cases hmt : m < t.size
                · have d4 : decide ((m : Int) < (t.size : Int)) = true := decide_eq_true (by omega)
                  have m0 : (0 : Int) ≤ (m : Int) := by omega
                  have m1 : (m : Int) < (t.size : Int) := by omega
                  have m2 : (m : Int) + 1 ≤ (t.size : Int) := by omega
                  obtain ⟨c, hc, hcb, hc8⟩ := xByteAt t m hmt
                  have Htk := Lib.hid (take_byte t m c hmt hcb)
                  have Hex := Lib.hid (ext_one t m c hmt hcb)
                  have hes : (t.extract m (m + 1)).size = 1 := by rw [← bs_length, Hex.out]; rfl
                  have HBd : Hid ((bd || needB c) = ((bs t).take (m + 1)).any needB) := by show _ = _; rw [Htk.out, any_snoc, hb.out]
                  clear hcb hb
                  by_cases h34 : c = 34
                  · subst h34
                    have aq := fun w => run_string_add_sum (P := Tryd.prog) (w := w) sq (⟨#[34]⟩ : ByteArray) (by show sq.size + 1 ≤ _; omega)
                    have aq2 := fun w => run_string_add_sum (P := Tryd.prog) (w := w) (sq ++ (⟨#[34]⟩ : ByteArray)) (t.extract m (m + 1)) (by rw [ByteArray.size_append, hes]; show sq.size + 1 + 1 ≤ _; omega)
                    have HQ : Hid (bs (sq ++ (⟨#[34]⟩ : ByteArray) ++ t.extract m (m + 1)) = dblE ((bs t).take (m + 1))) := by
                      show _ = _
                      rw [Htk.out, dblE_snoc, bs_app, bs_app, hq.out, Hex.out, if_pos rfl]
                      show _ ++ [34] ++ [34] = _
                      simp
                    have HQs : Hid ((sq ++ (⟨#[34]⟩ : ByteArray) ++ t.extract m (m + 1)).size ≤ 2 * (m + 1)) := by show _ ≤ _; rw [ByteArray.size_append, ByteArray.size_append, hes]; show sq.size + 1 + 1 ≤ _; omega
                    have hn : (bd || needB 34) = true := by cases bd <;> rfl
                    rw [hn] at HBd
                    clear hn hq hes
                    cases bd with
                    | true =>
                      go_wp2_with fail
                      go_roundw
                      case rel => exact ⟨m + 1, _, _, rfl, rfl, by go_num, by omega, by first | rfl | trivial, HQ, HBd, HQs.out⟩
                      case measure => simp [RowKit.intOf]; omega
                    | false =>
                      go_wp2_with fail
                      go_roundw
                      case rel => exact ⟨m + 1, _, _, rfl, rfl, by go_num, by omega, by first | rfl | trivial, HQ, HBd, HQs.out⟩
                      case measure => simp [RowKit.intOf]; omega
                  · have f34 : ((c : Int) == 34) = false := beq_eq_false_iff_ne.mpr (by omega)
                    have aq2 := fun w => run_string_add_sum (P := Tryd.prog) (w := w) sq (t.extract m (m + 1)) (by rw [hes]; omega)
                    have HQ : Hid (bs (sq ++ t.extract m (m + 1)) = dblE ((bs t).take (m + 1))) := by
                      show _ = _
                      rw [Htk.out, dblE_snoc, bs_app, hq.out, Hex.out, if_neg h34]
                    have HQs : Hid ((sq ++ t.extract m (m + 1)).size ≤ 2 * (m + 1)) := by show _ ≤ _; rw [ByteArray.size_append, hes]; omega
                    clear hq hes
                    cases bd with
                    | true =>
                      have HBd2 : Hid (true = ((bs t).take (m + 1)).any needB) := HBd.out
                      clear HBd h34
                      go_wp2_with fail
                      go_roundw
                      case rel => exact ⟨m + 1, _, _, rfl, rfl, by go_num, by omega, by first | rfl | trivial, HQ, HBd2, HQs.out⟩
                      case measure => simp [RowKit.intOf]; omega
                    | false =>
                      rcases (show c = 44 ∨ c = 13 ∨ c = 10 ∨ (c ≠ 44 ∧ c ≠ 13 ∧ c ≠ 10) by omega) with h | h | h | h
                      · subst h
                        have HBd2 : Hid (true = ((bs t).take (m + 1)).any needB) := HBd.out
                        clear HBd h34
                        go_wp2_with fail
                        go_roundw
                        case rel => exact ⟨m + 1, _, _, rfl, rfl, by go_num, by omega, by first | rfl | trivial, HQ, HBd2, HQs.out⟩
                        case measure => simp [RowKit.intOf]; omega
                      · subst h
                        have HBd2 : Hid (true = ((bs t).take (m + 1)).any needB) := HBd.out
                        clear HBd h34
                        go_wp2_with fail
                        go_roundw
                        case rel => exact ⟨m + 1, _, _, rfl, rfl, by go_num, by omega, by first | rfl | trivial, HQ, HBd2, HQs.out⟩
                        case measure => simp [RowKit.intOf]; omega
                      · subst h
                        have HBd2 : Hid (true = ((bs t).take (m + 1)).any needB) := HBd.out
                        clear HBd h34
                        go_wp2_with fail
                        go_roundw
                        case rel => exact ⟨m + 1, _, _, rfl, rfl, by go_num, by omega, by first | rfl | trivial, HQ, HBd2, HQs.out⟩
                        case measure => simp [RowKit.intOf]; omega
                      · have HBd2 : Hid (false = ((bs t).take (m + 1)).any needB) := by
                          show _ = _
                          rw [← HBd.out]
                          unfold needB
                          rw [decide_eq_false h.1, decide_eq_false h34, decide_eq_false h.2.1, decide_eq_false h.2.2]; rfl
                        have g1 : ((c : Int) == 44) = false := beq_eq_false_iff_ne.mpr (by omega)
                        have g2 : ((c : Int) == 13) = false := beq_eq_false_iff_ne.mpr (by omega)
                        have g3 : ((c : Int) == 10) = false := beq_eq_false_iff_ne.mpr (by omega)
                        clear HBd h34 h
                        go_wp2_with fail
                        go_roundw
                        case rel => exact ⟨m + 1, _, _, rfl, rfl, by go_num, by omega, by first | rfl | trivial, HQ, HBd2, HQs.out⟩
                        case measure => simp [RowKit.intOf]; omega
                · obtain rfl : m = t.size := by omega
                  have d4 : decide ((t.size : Int) < (t.size : Int)) = false := decide_eq_false (by omega)
                  have hall : (bs t).take t.size = bs t := by rw [← bs_length, List.take_length]
                  rw [hall] at hq hb
                  clear hall
                  cases bd with
                  | true =>
                    have z1 := fun w => run_string_add_sum (P := Tryd.prog) (w := w) sd (⟨#[34]⟩ : ByteArray) (by show sd.size + 1 ≤ _; omega)
                    have z2 := fun w => run_string_add_sum (P := Tryd.prog) (w := w) (sd ++ (⟨#[34]⟩ : ByteArray)) sq (by rw [ByteArray.size_append]; show sd.size + 1 + sq.size ≤ _; omega)
                    have z3 := fun w => run_string_add_sum (P := Tryd.prog) (w := w) (sd ++ (⟨#[34]⟩ : ByteArray) ++ sq) (⟨#[34]⟩ : ByteArray) (by rw [ByteArray.size_append, ByteArray.size_append]; show sd.size + 1 + sq.size + 1 ≤ _; omega)
                    have HZ : Hid (bs (sd ++ (⟨#[34]⟩ : ByteArray) ++ sq ++ (⟨#[34]⟩ : ByteArray)) = textE (R.take k) ++ joinE (x.take (j + 1))) := by
                      show _ = _
                      rw [← Hsd2.out, bs_app, bs_app, bs_app, hq.out]
                      unfold fldE
                      rw [if_pos hb.out.symm]
                      show _ ++ [34] ++ _ ++ [34] = _
                      simp
                    have HZs : Hid ((sd ++ (⟨#[34]⟩ : ByteArray) ++ sq ++ (⟨#[34]⟩ : ByteArray)).size ≤ 200000 * k + 3000 * (j + 1)) := by show _ ≤ _; rw [ByteArray.size_append, ByteArray.size_append, ByteArray.size_append]; show sd.size + 1 + sq.size + 1 ≤ _; omega
                    clear hq hb
                    go_wp2_with fail
                    go_roundw
                    case rel => exact ⟨j + 1, _, rfl, by go_num, by omega, by first | rfl | trivial, HZ, HZs.out⟩
                    case measure => simp [RowKit.intOf]; omega
                  | false =>
                    have z1 := fun w => run_string_add_sum (P := Tryd.prog) (w := w) sd t (by omega)
                    have HZ : Hid (bs (sd ++ t) = textE (R.take k) ++ joinE (x.take (j + 1))) := by
                      show _ = _
                      rw [← Hsd2.out, bs_app]
                      unfold fldE
                      rw [if_neg (by rw [← hb.out]; decide)]
                    have HZs : Hid ((sd ++ t).size ≤ 200000 * k + 3000 * (j + 1)) := by show _ ≤ _; rw [ByteArray.size_append]; omega
                    clear hq hb
                    go_wp2_with fail
                    go_roundw
                    case rel => exact ⟨j + 1, _, rfl, by go_num, by omega, by first | rfl | trivial, HZ, HZs.out⟩
                    case measure => simp [RowKit.intOf]; omega
            · have d3 : decide ((0 : Int) < (j : Int)) = false := decide_eq_false (by omega)
              have d5 : decide (0 < j) = false := decide_eq_false hj0
              rw [if_neg hj0] at hpre
              subst hpre
              clear hj0
              go_wp2_with fail
              go_loopw [7, 8, 9] (fun q nd i W => ∃ (m : Nat) (sq : ByteArray) (bd : Bool), q = .string sq ∧ nd = .bool bd ∧ i = .int .i64 (m : Int) ∧ m ≤ t.size ∧ X = W ∧ Hid (bs sq = dblE ((bs t).take m)) ∧ Hid (bd = ((bs t).take m).any needB) ∧ sq.size ≤ 2 * m) (fun _ _ i _ => t.size - (RowKit.intOf i).toNat)
              case atStart => exact ⟨0, ⟨#[]⟩, false, rfl, rfl, rfl, Nat.zero_le _, rfl, rfl, rfl, Nat.zero_le _⟩
              case round =>
                obtain ⟨m, sq, bd, rfl, rfl, rfl, hm, rfl, hq, hb, hqs⟩ := hrel
                by_cases hmt : m < t.size
                · have d4 : decide ((m : Int) < (t.size : Int)) = true := decide_eq_true (by omega)
                  have m0 : (0 : Int) ≤ (m : Int) := by omega
                  have m1 : (m : Int) < (t.size : Int) := by omega
                  have m2 : (m : Int) + 1 ≤ (t.size : Int) := by omega
                  obtain ⟨c, hc, hcb, hc8⟩ := xByteAt t m hmt
                  have Htk := Lib.hid (take_byte t m c hmt hcb)
                  have Hex := Lib.hid (ext_one t m c hmt hcb)
                  have hes : (t.extract m (m + 1)).size = 1 := by rw [← bs_length, Hex.out]; rfl
                  have HBd : Hid ((bd || needB c) = ((bs t).take (m + 1)).any needB) := by show _ = _; rw [Htk.out, any_snoc, hb.out]
                  clear hcb hb
                  by_cases h34 : c = 34
                  · subst h34
                    have aq := fun w => run_string_add_sum (P := Tryd.prog) (w := w) sq (⟨#[34]⟩ : ByteArray) (by show sq.size + 1 ≤ _; omega)
                    have aq2 := fun w => run_string_add_sum (P := Tryd.prog) (w := w) (sq ++ (⟨#[34]⟩ : ByteArray)) (t.extract m (m + 1)) (by rw [ByteArray.size_append, hes]; show sq.size + 1 + 1 ≤ _; omega)
                    have HQ : Hid (bs (sq ++ (⟨#[34]⟩ : ByteArray) ++ t.extract m (m + 1)) = dblE ((bs t).take (m + 1))) := by
                      show _ = _
                      rw [Htk.out, dblE_snoc, bs_app, bs_app, hq.out, Hex.out, if_pos rfl]
                      show _ ++ [34] ++ [34] = _
                      simp
                    have HQs : Hid ((sq ++ (⟨#[34]⟩ : ByteArray) ++ t.extract m (m + 1)).size ≤ 2 * (m + 1)) := by show _ ≤ _; rw [ByteArray.size_append, ByteArray.size_append, hes]; show sq.size + 1 + 1 ≤ _; omega
                    have hn : (bd || needB 34) = true := by cases bd <;> rfl
                    rw [hn] at HBd
                    clear hn hq hes
                    cases bd with
                    | true =>
                      go_wp2_with fail
                      go_roundw
                      case rel => exact ⟨m + 1, _, _, rfl, rfl, by go_num, by omega, by first | rfl | trivial, HQ, HBd, HQs.out⟩
                      case measure => simp [RowKit.intOf]; omega
                    | false =>
                      go_wp2_with fail
                      go_roundw
                      case rel => exact ⟨m + 1, _, _, rfl, rfl, by go_num, by omega, by first | rfl | trivial, HQ, HBd, HQs.out⟩
                      case measure => simp [RowKit.intOf]; omega
                  · have f34 : ((c : Int) == 34) = false := beq_eq_false_iff_ne.mpr (by omega)
                    have aq2 := fun w => run_string_add_sum (P := Tryd.prog) (w := w) sq (t.extract m (m + 1)) (by rw [hes]; omega)
                    have HQ : Hid (bs (sq ++ t.extract m (m + 1)) = dblE ((bs t).take (m + 1))) := by
                      show _ = _
                      rw [Htk.out, dblE_snoc, bs_app, hq.out, Hex.out, if_neg h34]
                    have HQs : Hid ((sq ++ t.extract m (m + 1)).size ≤ 2 * (m + 1)) := by show _ ≤ _; rw [ByteArray.size_append, hes]; omega
                    clear hq hes
                    cases bd with
                    | true =>
                      have HBd2 : Hid (true = ((bs t).take (m + 1)).any needB) := HBd.out
                      clear HBd h34
                      go_wp2_with fail
                      go_roundw
                      case rel => exact ⟨m + 1, _, _, rfl, rfl, by go_num, by omega, by first | rfl | trivial, HQ, HBd2, HQs.out⟩
                      case measure => simp [RowKit.intOf]; omega
                    | false =>
                      rcases (show c = 44 ∨ c = 13 ∨ c = 10 ∨ (c ≠ 44 ∧ c ≠ 13 ∧ c ≠ 10) by omega) with h | h | h | h
                      · subst h
                        have HBd2 : Hid (true = ((bs t).take (m + 1)).any needB) := HBd.out
                        clear HBd h34
                        go_wp2_with fail
                        go_roundw
                        case rel => exact ⟨m + 1, _, _, rfl, rfl, by go_num, by omega, by first | rfl | trivial, HQ, HBd2, HQs.out⟩
                        case measure => simp [RowKit.intOf]; omega
                      · subst h
                        have HBd2 : Hid (true = ((bs t).take (m + 1)).any needB) := HBd.out
                        clear HBd h34
                        go_wp2_with fail
                        go_roundw
                        case rel => exact ⟨m + 1, _, _, rfl, rfl, by go_num, by omega, by first | rfl | trivial, HQ, HBd2, HQs.out⟩
                        case measure => simp [RowKit.intOf]; omega
                      · subst h
                        have HBd2 : Hid (true = ((bs t).take (m + 1)).any needB) := HBd.out
                        clear HBd h34
                        go_wp2_with fail
                        go_roundw
                        case rel => exact ⟨m + 1, _, _, rfl, rfl, by go_num, by omega, by first | rfl | trivial, HQ, HBd2, HQs.out⟩
                        case measure => simp [RowKit.intOf]; omega
                      · have HBd2 : Hid (false = ((bs t).take (m + 1)).any needB) := by
                          show _ = _
                          rw [← HBd.out]
                          unfold needB
                          rw [decide_eq_false h.1, decide_eq_false h34, decide_eq_false h.2.1, decide_eq_false h.2.2]; rfl
                        have g1 : ((c : Int) == 44) = false := beq_eq_false_iff_ne.mpr (by omega)
                        have g2 : ((c : Int) == 13) = false := beq_eq_false_iff_ne.mpr (by omega)
                        have g3 : ((c : Int) == 10) = false := beq_eq_false_iff_ne.mpr (by omega)
                        clear HBd h34 h
                        go_wp2_with fail
                        go_roundw
                        case rel => exact ⟨m + 1, _, _, rfl, rfl, by go_num, by omega, by first | rfl | trivial, HQ, HBd2, HQs.out⟩
                        case measure => simp [RowKit.intOf]; omega
                · obtain rfl : m = t.size := by omega
                  have d4 : decide ((t.size : Int) < (t.size : Int)) = false := decide_eq_false (by omega)
                  have hall : (bs t).take t.size = bs t := by rw [← bs_length, List.take_length]
                  rw [hall] at hq hb
                  clear hall
                  cases bd with
                  | true =>
                    have z1 := fun w => run_string_add_sum (P := Tryd.prog) (w := w) sd (⟨#[34]⟩ : ByteArray) (by show sd.size + 1 ≤ _; omega)
                    have z2 := fun w => run_string_add_sum (P := Tryd.prog) (w := w) (sd ++ (⟨#[34]⟩ : ByteArray)) sq (by rw [ByteArray.size_append]; show sd.size + 1 + sq.size ≤ _; omega)
                    have z3 := fun w => run_string_add_sum (P := Tryd.prog) (w := w) (sd ++ (⟨#[34]⟩ : ByteArray) ++ sq) (⟨#[34]⟩ : ByteArray) (by rw [ByteArray.size_append, ByteArray.size_append]; show sd.size + 1 + sq.size + 1 ≤ _; omega)
                    have HZ : Hid (bs (sd ++ (⟨#[34]⟩ : ByteArray) ++ sq ++ (⟨#[34]⟩ : ByteArray)) = textE (R.take k) ++ joinE (x.take (j + 1))) := by
                      show _ = _
                      rw [← Hsd2.out, bs_app, bs_app, bs_app, hq.out]
                      unfold fldE
                      rw [if_pos hb.out.symm]
                      show _ ++ [34] ++ _ ++ [34] = _
                      simp
                    have HZs : Hid ((sd ++ (⟨#[34]⟩ : ByteArray) ++ sq ++ (⟨#[34]⟩ : ByteArray)).size ≤ 200000 * k + 3000 * (j + 1)) := by show _ ≤ _; rw [ByteArray.size_append, ByteArray.size_append, ByteArray.size_append]; show sd.size + 1 + sq.size + 1 ≤ _; omega
                    clear hq hb
                    go_wp2_with fail
                    go_roundw
                    case rel => exact ⟨j + 1, _, rfl, by go_num, by omega, by first | rfl | trivial, HZ, HZs.out⟩
                    case measure => simp [RowKit.intOf]; omega
                  | false =>
                    have z1 := fun w => run_string_add_sum (P := Tryd.prog) (w := w) sd t (by omega)
                    have HZ : Hid (bs (sd ++ t) = textE (R.take k) ++ joinE (x.take (j + 1))) := by
                      show _ = _
                      rw [← Hsd2.out, bs_app]
                      unfold fldE
                      rw [if_neg (by rw [← hb.out]; decide)]
                    have HZs : Hid ((sd ++ t).size ≤ 200000 * k + 3000 * (j + 1)) := by show _ ≤ _; rw [ByteArray.size_append]; omega
                    clear hq hb
                    go_wp2_with fail
                    go_roundw
                    case rel => exact ⟨j + 1, _, rfl, by go_num, by omega, by first | rfl | trivial, HZ, HZs.out⟩
                    case measure => simp [RowKit.intOf]; omega
          · obtain rfl : j = M := by omega
            have d2 : decide ((j : Int) < (j : Int)) = false := decide_eq_false (by omega)
            have hfin : x.take j = x := by rw [HM1.out, List.take_length]
            rw [hfin] at htx
            have ae := fun w => run_string_add_sum (P := Tryd.prog) (w := w) sc (⟨#[13, 10]⟩ : ByteArray) (by show sc.size + 2 ≤ _; omega)
            have HN : Hid (bs (sc ++ (⟨#[13, 10]⟩ : ByteArray)) = textE (R.take (k + 1))) := by
              show _ = _
              rw [bs_app, htx.out, Hnx.out, ← List.append_assoc]; rfl
            have HS : Hid ((sc ++ (⟨#[13, 10]⟩ : ByteArray)).size ≤ 200000 * (k + 1)) := by show _ ≤ _; rw [ByteArray.size_append]; show sc.size + 2 ≤ _; omega
            clear hfin htx
            go_wp2_with fail
            go_roundw
            case rel => exact ⟨k + 1, _, rfl, by go_num, by omega, by first | rfl | trivial, HN, HS.out⟩
            case measure => simp [RowKit.intOf]; omega
      · obtain rfl : k = L := by omega
        have d1 : decide ((k : Int) < (k : Int)) = false := decide_eq_false (by omega)
        have hfin : R.take k = R := by rw [HL.out, List.take_length]
        have HS : Hid (sb = strOf (textE R)) := by show _ = _; rw [← hfin, ← htx.out, strOf_bs]
        clear hfin
        go_wp2_with fail
        exact bodyPost_ret (v := .string sb) (by simp [results, Tryd.results9, go_sem]) rfl ⟨by rw [HS.out]; first | done | rfl, HB.out⟩
end Go.Proofs.YtceegpkgifflcaaDoor
