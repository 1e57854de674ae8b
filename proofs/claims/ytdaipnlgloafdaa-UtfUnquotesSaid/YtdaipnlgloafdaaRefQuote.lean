/- Walks over layer 15: the reference's Quote. -/
import Derived.Test.YtdaipnlgloafdaaQuote
namespace Go.Proofs.Ytdaipnlgloafdaa
open Go.RowKit Utf
set_option linter.unusedVariables false
set_option maxRecDepth 100000

theorem hex_ext (i : Nat) (h : i < 16) : (⟨#[48, 49, 50, 51, 52, 53, 54, 55, 56, 57, 97, 98, 99, 100, 101, 102]⟩ : ByteArray).extract i (i + 1) = strOf [dg i] := by
  have hdg : ∀ k, k < 16 → smallD.getD k 0 = dg k := by decide
  rw [ext_one _ i (show i < (⟨#[48, 49, 50, 51, 52, 53, 54, 55, 56, 57, 97, 98, 99, 100, 101, 102]⟩ : ByteArray).size from h), small_bs, hdg i h]
theorem add_run (a b : ByteArray) (ha : a.size ≤ 10000000) (hb : b.size ≤ 10000000) (w : World) : (Op.stringOp .add a b).run Try.prog w = .ok (.string (a ++ b)) w := run_string_add_sum (P := Try.prog) (w := w) a b (by omega)

set_option maxHeartbeats 2000000 in
theorem refQuote_no (s : ByteArray) (w : World) (hs : s.size ≤ 100000) (f0 : Nat) (hf0 : s.size < f0) (hv : val (bs s) f0 0 = false) :
    Calls Try.prog 12 #[.string s] w fun e w' => e = .returned (.string ⟨#[]⟩) ∧ Below w.heap.size w w' := by
  have Hv := Lib.hid fun W => refValid_any s W hs false f0 hf0 hv
  clear hs hf0 hv
  go_enter Try.func12, Try.ntmps12
  go_wp2_with fail
  refine (Hv.out _).mono ?_
  rintro e W ⟨rfl, rfl⟩
  go_wp2_with fail
  go_ret
  exact ⟨rfl, Below.refl _ _⟩

set_option maxHeartbeats 4000000 in
theorem refQuote_yes (s : ByteArray) (w : World) (hs : s.size ≤ 100000) (f0 : Nat) (hf0 : s.size < f0) (hv : val (bs s) f0 0 = true) :
    Calls Try.prog 12 #[.string s] w fun e w' => e = .returned (.string (strOf (qtd (bs s)))) ∧ Below w.heap.size w w' := by
  have Hv := Lib.hid fun W => refValid_any s W hs true f0 hf0 hv
  have Hlen := Lib.hid (bs_length s)
  have Hs := Lib.hid hs
  have Hsz : Hid (∀ i, (strOf (34 :: qt ((bs s).take i))).size ≤ 600001) := fun i => by
    have h1 := qt_len ((bs s).take i)
    have h2 : ((bs s).take i).length ≤ s.size := by rw [List.length_take, bs_length]; omega
    rw [strOf_size]; simp only [List.length_cons]; omega
  clear hv hf0 hs
  go_enter Try.func12, Try.ntmps12
  go_wp2_with fail
  refine (Hv.out _).mono ?_
  rintro e W ⟨rfl, rfl⟩
  go_wp2_with fail
  go_loopw [3, 4] (fun b u X => ∃ (i : Nat) (O : ByteArray), i ≤ s.size ∧ u = .int .i64 (i : Int) ∧ b = .string O ∧ Hid (O = strOf (34 :: qt ((bs s).take i))) ∧ Below w.heap.size w X) (fun _ u _ => s.size - (intOf u).toNat)
  case atStart => exact ⟨0, _, by omega, rfl, rfl, rfl, Below.refl _ _⟩
  case round =>
    obtain ⟨i, O, hi, rfl, rfl, hO, hb⟩ := hrel
    have hOs : O.size ≤ 1000000 := by rw [hO.out]; have := Hsz.out i; omega
    by_cases hlt : i < s.size
    · have hg := bs_get s i hlt
      have hc := get_lt s i
      have hx1 := ext_one s i hlt
      have hB := Lib.hid hb
      have Ht := Lib.hid (qt_take (bs s) i (by have := Hlen.out; omega))
      have hsz : (s.size : Int) ≤ 100000 := by have := Hs.out; omega
      have hw : IntKind.i64.wrap ((i : Int) + 1) = ((i + 1 : Nat) : Int) := by rw [IntWalk.i64_in _ ⟨by omega, by omega⟩]; rfl
      have Hgo : Hid (∀ (m : List Nat), esc ((bs s).getD i 0) = m → O ++ strOf m = strOf (34 :: qt ((bs s).take (i + 1)))) := fun m hm => by
        rw [Ht.out, hm, hO.out, strOf_app]; simp
      clear hb hO Ht Hv
      generalize (bs s).getD i 0 = c at *
      rcases (show c = 8 ∨ c = 9 ∨ c = 10 ∨ c = 12 ∨ c = 13 ∨ c = 34 ∨ c = 92 ∨ (c < 32 ∧ c ≠ 8 ∧ c ≠ 9 ∧ c ≠ 10 ∧ c ≠ 12 ∧ c ≠ 13) ∨ (32 ≤ c ∧ c ≠ 34 ∧ c ≠ 92) by omega) with rfl | rfl | rfl | rfl | rfl | rfl | rfl | h1 | h1
      · have h1 := add_run O ⟨#[92, 98]⟩ (by omega) (by decide)
        go_wp2_with fail
        go_roundw
        case rel => exact ⟨i + 1, _, hlt, by go_num, rfl, Hgo.out [92, 98] (by rfl), hB.out⟩
        case measure => simp [intOf] <;> omega
      · have h1 := add_run O ⟨#[92, 116]⟩ (by omega) (by decide)
        go_wp2_with fail
        go_roundw
        case rel => exact ⟨i + 1, _, hlt, by go_num, rfl, Hgo.out [92, 116] (by rfl), hB.out⟩
        case measure => simp [intOf] <;> omega
      · have h1 := add_run O ⟨#[92, 110]⟩ (by omega) (by decide)
        go_wp2_with fail
        go_roundw
        case rel => exact ⟨i + 1, _, hlt, by go_num, rfl, Hgo.out [92, 110] (by rfl), hB.out⟩
        case measure => simp [intOf] <;> omega
      · have h1 := add_run O ⟨#[92, 102]⟩ (by omega) (by decide)
        go_wp2_with fail
        go_roundw
        case rel => exact ⟨i + 1, _, hlt, by go_num, rfl, Hgo.out [92, 102] (by rfl), hB.out⟩
        case measure => simp [intOf] <;> omega
      · have h1 := add_run O ⟨#[92, 114]⟩ (by omega) (by decide)
        go_wp2_with fail
        go_roundw
        case rel => exact ⟨i + 1, _, hlt, by go_num, rfl, Hgo.out [92, 114] (by rfl), hB.out⟩
        case measure => simp [intOf] <;> omega
      · have h1 := add_run O ⟨#[92]⟩ (by omega) (by decide)
        have h2 := add_run (O ++ ⟨#[92]⟩) (strOf [34]) (by rw [ByteArray.size_append]; have : (⟨#[92]⟩ : ByteArray).size = 1 := rfl; have := Hsz.out i; omega) (by decide)
        go_wp2_with fail
        go_roundw
        case rel => exact ⟨i + 1, _, hlt, by go_num, rfl, by have := Hgo.out [92, 34] (by rfl); rw [← this, show ([92, 34] : List Nat) = [92] ++ [34] from rfl, ← strOf_app, ← ByteArray.append_assoc]; rfl, hB.out⟩
        case measure => simp [intOf] <;> omega
      · have h1 := add_run O ⟨#[92]⟩ (by omega) (by decide)
        have h2 := add_run (O ++ ⟨#[92]⟩) (strOf [92]) (by rw [ByteArray.size_append]; have : (⟨#[92]⟩ : ByteArray).size = 1 := rfl; have := Hsz.out i; omega) (by decide)
        go_wp2_with fail
        go_roundw
        case rel => exact ⟨i + 1, _, hlt, by go_num, rfl, by have := Hgo.out [92, 92] (by rfl); rw [← this, show ([92, 92] : List Nat) = [92] ++ [92] from rfl, ← strOf_app, ← ByteArray.append_assoc]; rfl, hB.out⟩
        case measure => simp [intOf] <;> omega
      · have q8 : ((c : Int) == 8) = false := beq_eq_false_iff_ne.mpr (by omega)
        have q9 : ((c : Int) == 9) = false := beq_eq_false_iff_ne.mpr (by omega)
        have q10 : ((c : Int) == 10) = false := beq_eq_false_iff_ne.mpr (by omega)
        have q12 : ((c : Int) == 12) = false := beq_eq_false_iff_ne.mpr (by omega)
        have q13 : ((c : Int) == 13) = false := beq_eq_false_iff_ne.mpr (by omega)
        have q34 : ((c : Int) == 34) = false := beq_eq_false_iff_ne.mpr (by omega)
        have q92 : ((c : Int) == 92) = false := beq_eq_false_iff_ne.mpr (by omega)
        have q32 : decide ((c : Int) < 32) = true := decide_eq_true (by omega)
        go_wp2_with fail
        go_quiet (fail)
        rw [hex_ext (c / 16) (by omega), hex_ext (c % 16) (by omega)]
        go_wp2_with fail
        go_roundw
        case rel => exact ⟨i + 1, _, hlt, by go_num, rfl, by have := Hgo.out [92, 117, 48, 48, dg (c / 16), dg (c % 16)] (by unfold esc; repeat (first | rw [if_pos (by omega)] | rw [if_neg (by omega)])); rw [← this, show ([92, 117, 48, 48, dg (c / 16), dg (c % 16)] : List Nat) = [92, 117, 48, 48] ++ [dg (c / 16)] ++ [dg (c % 16)] from rfl, ← strOf_app, ← strOf_app, ← ByteArray.append_assoc, ← ByteArray.append_assoc]; rfl, below_drawn hB.out _⟩
        case measure => simp [intOf] <;> omega
      · have q8 : ((c : Int) == 8) = false := beq_eq_false_iff_ne.mpr (by omega)
        have q9 : ((c : Int) == 9) = false := beq_eq_false_iff_ne.mpr (by omega)
        have q10 : ((c : Int) == 10) = false := beq_eq_false_iff_ne.mpr (by omega)
        have q12 : ((c : Int) == 12) = false := beq_eq_false_iff_ne.mpr (by omega)
        have q13 : ((c : Int) == 13) = false := beq_eq_false_iff_ne.mpr (by omega)
        have q34 : ((c : Int) == 34) = false := beq_eq_false_iff_ne.mpr (by omega)
        have q92 : ((c : Int) == 92) = false := beq_eq_false_iff_ne.mpr (by omega)
        have q32 : decide ((c : Int) < 32) = false := decide_eq_false (by omega)
        have h1 := add_run O (strOf [c]) (by omega) (by rw [strOf_size]; simp)
        go_wp2_with fail
        go_roundw
        case rel => exact ⟨i + 1, _, hlt, by go_num, rfl, Hgo.out [c] (by unfold esc; repeat (first | rw [if_pos (by omega)] | rw [if_neg (by omega)])), hB.out⟩
        case measure => simp [intOf] <;> omega
    · obtain rfl : i = s.size := by omega
      rw [List.take_of_length_le (by have := Hlen.out; omega)] at hO
      have h1 := add_run O ⟨#[34]⟩ (by omega) (by decide)
      have Hq : Hid (O ++ ⟨#[34]⟩ = strOf (qtd (bs s))) := by
        show _ = _
        rw [hO.out, show (⟨#[34]⟩ : ByteArray) = strOf [34] by rfl, strOf_app]; rfl
      have hB := Lib.hid hb
      clear hb hO Hv
      go_wp2_with fail
      go_ret
      exact ⟨by rw [← Hq.out]; rfl, hB.out⟩
end Go.Proofs.Ytdaipnlgloafdaa
