/- Walks over layer 8: the reference's less. -/
import Derived.Test.YtdifojeghplpeaaDoorVal3
import Derived.Deep.QuietTactic
import Derived.BigQuiet
namespace Go.Proofs.YtdifojeghplpeaaDoor
open Go.RowKit
set_option linter.unusedVariables false
set_option maxRecDepth 100000

theorem cb_self : ∀ l : List UInt8, Lib.compareBytes l l = 0
  | [] => rfl
  | a :: l => by
    unfold Lib.compareBytes
    rw [if_neg (UInt8.lt_irrefl a), if_neg (UInt8.lt_irrefl a)]
    exact cb_self l
theorem cb_ways : ∀ a b : List UInt8, Lib.compareBytes a b = -1 ∨ Lib.compareBytes a b = 0 ∨ Lib.compareBytes a b = 1
  | [], [] => .inr (.inl rfl)
  | [], _ :: _ => .inl rfl
  | _ :: _, [] => .inr (.inr rfl)
  | a :: al, b :: bl => by
    unfold Lib.compareBytes
    split
    · exact .inl rfl
    · split
      · exact .inr (.inr rfl)
      · exact cb_ways al bl
theorem cb_zero : ∀ a b : List UInt8, Lib.compareBytes a b = 0 → a = b
  | [], [], _ => rfl
  | [], _ :: _, h => by simp [Lib.compareBytes] at h
  | _ :: _, [], h => by simp [Lib.compareBytes] at h
  | a :: al, b :: bl, h => by
    unfold Lib.compareBytes at h
    split at h
    · omega
    · next h1 =>
      split at h
      · omega
      · next h2 =>
        have e : a = b := by
          rw [UInt8.lt_iff_toNat_lt] at h1 h2
          exact UInt8.toNat_inj.1 (by omega)
        rw [e, cb_zero al bl h]
theorem cb_anti : ∀ a b : List UInt8, Lib.compareBytes b a = -Lib.compareBytes a b
  | [], [] => rfl
  | [], _ :: _ => rfl
  | _ :: _, [] => rfl
  | a :: al, b :: bl => by
    unfold Lib.compareBytes
    have ih := cb_anti al bl
    simp only [UInt8.lt_iff_toNat_lt]
    by_cases h1 : a.toNat < b.toNat
    · rw [if_pos h1, if_neg (by omega), if_pos h1]; rfl
    · by_cases h2 : b.toNat < a.toNat
      · rw [if_pos h2, if_neg h1, if_pos h2]
      · rw [if_neg h1, if_neg h2, if_neg h2, if_neg h1]; exact ih
theorem cb_trans : ∀ a b c : List UInt8, Lib.compareBytes a b ≤ 0 → Lib.compareBytes b c ≤ 0 → Lib.compareBytes a c ≤ 0 ∧ (Lib.compareBytes a c = 0 → Lib.compareBytes a b = 0 ∧ Lib.compareBytes b c = 0)
  | [], [], [], _, _ => by simp [Lib.compareBytes]
  | [], [], _ :: _, _, _ => by simp [Lib.compareBytes]
  | [], _ :: _, [], _, h => by simp [Lib.compareBytes] at h
  | [], _ :: _, _ :: _, _, _ => by simp [Lib.compareBytes]
  | _ :: _, [], _, h, _ => by simp [Lib.compareBytes] at h
  | _ :: _, _ :: _, [], _, h => by simp [Lib.compareBytes] at h
  | a :: al, b :: bl, c :: cl, h1, h2 => by
    have ih := cb_trans al bl cl
    unfold Lib.compareBytes at h1 h2 ⊢
    simp only [UInt8.lt_iff_toNat_lt] at h1 h2 ⊢
    by_cases x1 : a.toNat < b.toNat
    · rw [if_pos x1] at h1
      by_cases x2 : b.toNat < c.toNat
      · rw [if_pos (show a.toNat < c.toNat by omega)]; exact ⟨by omega, fun h => by omega⟩
      · rw [if_neg x2] at h2
        by_cases x3 : c.toNat < b.toNat
        · rw [if_pos x3] at h2; omega
        · rw [if_pos (show a.toNat < c.toNat by omega)]; exact ⟨by omega, fun h => by omega⟩
    · rw [if_neg x1] at h1
      by_cases x4 : b.toNat < a.toNat
      · rw [if_pos x4] at h1; omega
      · rw [if_neg x4] at h1
        by_cases x2 : b.toNat < c.toNat
        · rw [if_pos (show a.toNat < c.toNat by omega)]; exact ⟨by omega, fun h => by omega⟩
        · rw [if_neg x2] at h2
          by_cases x3 : c.toNat < b.toNat
          · rw [if_pos x3] at h2; omega
          · rw [if_neg x3] at h2
            rw [if_neg (show ¬ a.toNat < c.toNat by omega), if_neg (show ¬ c.toNat < a.toNat by omega), if_neg x1, if_neg x4, if_neg x2, if_neg x3]
            exact ih h1 h2
def lessL (a b : List UInt8) : Bool := decide (Lib.compareBytes a b < 0)
theorem lessL_step (a b : List UInt8) (x y : UInt8) (al bl : List UInt8) (ha : a = x :: al) (hb : b = y :: bl) : (x = y → lessL a b = lessL al bl) ∧ (x ≠ y → lessL a b = decide (x.toNat < y.toNat)) := by
  subst ha hb
  unfold lessL
  rw [Lib.compareBytes]
  refine ⟨fun e => ?_, fun e => ?_⟩
  · subst e
    rw [if_neg (UInt8.lt_irrefl x), if_neg (UInt8.lt_irrefl x)]
  · simp only [UInt8.lt_iff_toNat_lt]
    by_cases h : x.toNat < y.toNat
    · rw [if_pos h]; simp [h]
    · have : y.toNat < x.toNat := by
        have : x.toNat ≠ y.toNat := fun h => e (UInt8.toNat_inj.1 h)
        omega
      rw [if_neg h, if_pos this]; simp [h]
theorem drop_bytes (s : ByteArray) (k : Nat) (h : k < s.size) : s.data.toList.drop k = s[k] :: s.data.toList.drop (k + 1) := by
  rw [List.drop_eq_getElem_cons (by simpa using h)]; rfl
theorem lessL_end (s t : ByteArray) (k : Nat) (h1 : k ≤ s.size) (h2 : k ≤ t.size) (h : ¬ (k < s.size ∧ k < t.size)) : lessL (s.data.toList.drop k) (t.data.toList.drop k) = decide (s.size < t.size) := by
  by_cases e1 : k < s.size
  · have e2 : k = t.size := by omega
    rw [drop_bytes s k e1, List.drop_of_length_le (l := t.data.toList) (by simp; omega)]
    show decide ((1 : Int) < 0) = _
    rw [decide_eq_false (by omega), decide_eq_false (by omega)]
  · rw [List.drop_of_length_le (l := s.data.toList) (by simp; omega)]
    by_cases e2 : k < t.size
    · rw [drop_bytes t k e2]
      show decide ((-1 : Int) < 0) = _
      rw [decide_eq_true (by omega), decide_eq_true (by omega)]
    · rw [List.drop_of_length_le (l := t.data.toList) (by simp; omega)]
      show decide ((0 : Int) < 0) = _
      rw [decide_eq_false (by omega), decide_eq_false (by omega)]
set_option maxHeartbeats 4000000 in
theorem less_any (s t : ByteArray) (w : World) (hs : s.size ≤ 9223372036854775807) (ht : t.size ≤ 9223372036854775807) : Calls Tryd.prog 37 #[.string s, .string t] w fun e w' => e = .returned (.bool (lessB s t)) ∧ Below w.heap.size w w' := by
  have HL : Hid (lessB s t = lessL (s.data.toList.drop 0) (t.data.toList.drop 0)) := rfl
  go_enter Tryd.func37, Tryd.ntmps37
  go_wp2_with fail
  go_loopw [5] (fun i W => ∃ k : Nat, i = .int .i64 (k : Int) ∧ k ≤ s.size ∧ k ≤ t.size ∧ Hid (lessB s t = lessL (s.data.toList.drop k) (t.data.toList.drop k)) ∧ ∃ j, W = w.drewN j) (fun i _ => s.size - (intOf i).toNat)
  case atStart => exact ⟨0, rfl, Nat.zero_le _, Nat.zero_le _, HL, 0, rfl⟩
  case round =>
    obtain ⟨k, rfl, hk1, hk2, HK, j, rfl⟩ := hrel
    by_cases h1 : k < s.size
    · by_cases h2 : k < t.size
      · obtain ⟨st1, st2⟩ := lessL_step _ _ _ _ _ _ (drop_bytes s k h1) (drop_bytes t k h2)
        have hx0 : (0 : Int) ≤ (k : Int) := by omega
        have hx1 : (k : Int) < (s.size : Int) := by omega
        have hx2 : (k : Int) < (t.size : Int) := by omega
        obtain ⟨x, hx⟩ : ∃ x, x = s[k] := ⟨_, rfl⟩
        obtain ⟨y, hy⟩ : ∃ y, y = t[k] := ⟨_, rfl⟩
        by_cases he : x = y
        · have HK2 : Hid (lessB s t = lessL (s.data.toList.drop (k + 1)) (t.data.toList.drop (k + 1))) := by show _ = _; rw [HK.out, st1 (by rw [← hx, ← hy]; exact he)]
          have hee : s[k] = t[k] := by rw [← hx, ← hy]; exact he
          have hn : ((s[k].toNat : Int) == (t[k].toNat : Int)) = true := by rw [hee]; simp
          clear st1 st2 hx hy he HK
          go_wp2_with fail
          go_quiet (fail)
          go_wp2_with fail
          go_roundw
          case rel => exact ⟨k + 1, by go_num, by omega, by omega, HK2, _, rfl⟩
          case measure => simp [intOf]; omega
        · have hne : s[k] ≠ t[k] := by rw [← hx, ← hy]; exact he
          have HR : Hid (lessB s t = decide (s[k].toNat < t[k].toNat)) := by show _ = _; rw [HK.out]; exact st2 hne
          have hnn : s[k].toNat ≠ t[k].toNat := fun h => hne (UInt8.toNat_inj.1 h)
          have hn : ((s[k].toNat : Int) == (t[k].toNat : Int)) = false := by simp; omega
          by_cases hl : s[k].toNat < t[k].toNat
          · have g1 : decide ((s[k].toNat : Int) < (t[k].toNat : Int)) = true := decide_eq_true (by omega)
            have HR2 : Hid (lessB s t = true) := by show _ = _; rw [HR.out]; exact decide_eq_true hl
            clear st1 st2 hx hy he hne HR HK
            go_wp2_with fail
            go_quiet (fail)
            go_wp2_with fail
            go_quiet (fail)
            go_wp2_with fail
            go_ret
            exact ⟨by rw [HR2.out]; simp [hl], ⟨rfl, rfl, rfl, Nat.le_refl _, fun _ _ => rfl⟩⟩
          · have g1 : decide ((s[k].toNat : Int) < (t[k].toNat : Int)) = false := decide_eq_false (by omega)
            have HR2 : Hid (lessB s t = false) := by show _ = _; rw [HR.out]; exact decide_eq_false hl
            clear st1 st2 hx hy he hne HR HK
            go_wp2_with fail
            go_quiet (fail)
            go_wp2_with fail
            go_quiet (fail)
            go_wp2_with fail
            go_ret
            exact ⟨by rw [HR2.out]; simp [hl], ⟨rfl, rfl, rfl, Nat.le_refl _, fun _ _ => rfl⟩⟩
      · have HE : Hid (lessB s t = decide (s.size < t.size)) := by show _ = _; rw [HK.out]; exact lessL_end s t k hk1 hk2 (by omega)
        have hx2 : decide ((k : Int) < (t.size : Int)) = false := decide_eq_false (by omega)
        have hx3 : decide (k < t.size) = false := decide_eq_false h2
        have hl : ¬ s.size < t.size := by omega
        have hl2 : decide ((s.size : Int) < (t.size : Int)) = false := decide_eq_false (by omega)
        have HR2 : Hid (lessB s t = false) := by show _ = _; rw [HE.out]; exact decide_eq_false hl
        clear HK HE
        go_wp2_with fail
        go_ret
        exact ⟨by rw [HR2.out]; rfl, ⟨rfl, rfl, rfl, Nat.le_refl _, fun _ _ => rfl⟩⟩
    · have HE : Hid (lessB s t = decide (s.size < t.size)) := by show _ = _; rw [HK.out]; exact lessL_end s t k hk1 hk2 (by omega)
      have hx2 : decide ((k : Int) < (s.size : Int)) = false := decide_eq_false (by omega)
      have hx3 : decide (k < s.size) = false := decide_eq_false h1
      clear HK
      by_cases hl : s.size < t.size
      · have hl2 : decide ((s.size : Int) < (t.size : Int)) = true := decide_eq_true (by omega)
        have HR2 : Hid (lessB s t = true) := by show _ = _; rw [HE.out]; exact decide_eq_true hl
        clear HE
        go_wp2_with fail
        go_ret
        exact ⟨by rw [HR2.out]; rfl, ⟨rfl, rfl, rfl, Nat.le_refl _, fun _ _ => rfl⟩⟩
      · have hl2 : decide ((s.size : Int) < (t.size : Int)) = false := decide_eq_false (by omega)
        have HR2 : Hid (lessB s t = false) := by show _ = _; rw [HE.out]; exact decide_eq_false hl
        clear HE
        go_wp2_with fail
        go_ret
        exact ⟨by rw [HR2.out]; rfl, ⟨rfl, rfl, rfl, Nat.le_refl _, fun _ _ => rfl⟩⟩
end Go.Proofs.YtdifojeghplpeaaDoor
