/- Walks over layer 27: which points and rings may be. -/
import Derived.Test.YtlmnmilefggmpaaPts
namespace Go.Proofs.Ytlmnmilefggmpaa
open Go.RowKit
set_option linter.unusedVariables false
set_option maxRecDepth 100000

def okP (p : P2) : Bool := decide (-2097152 ≤ p.1 ∧ p.1 ≤ 2097152 ∧ -2097152 ≤ p.2 ∧ p.2 ≤ 2097152)
def okR (l : List P2) : Bool := l.all okP && decide (l.length ≤ 262144)
theorem okR_no {l : List P2} {k : Nat} (hk : k < l.length) (h : okP l[k] = false) : okR l = false := by
  unfold okR
  have : l.all okP = false := by
    rw [List.all_eq_false]
    exact ⟨l[k], List.getElem_mem hk, by simp [h]⟩
  rw [this]; rfl
theorem okR_yes {l : List P2} {L : Nat} (h : ∀ j (h : j < l.length), okP l[j] = true) (hL : L = l.length) : okR l = decide (L ≤ 262144) := by
  unfold okR
  have : l.all okP = true := by
    rw [List.all_eq_true]
    intro x hx
    obtain ⟨j, hj, rfl⟩ := List.mem_iff_getElem.1 hx
    exact h j hj
  rw [this, hL]; rfl
theorem okR_all {l : List P2} (h : okR l = true) : (∀ j (h : j < l.length), okP l[j] = true) ∧ l.length ≤ 262144 := by
  unfold okR at h
  rw [Bool.and_eq_true, List.all_eq_true] at h
  exact ⟨fun j hj => h.1 _ (List.getElem_mem hj), of_decide_eq_true h.2⟩
theorem below_step {w X Y : World} (h : Below w.heap.size w X) (h2 : Below X.heap.size X Y) : Below w.heap.size w Y := h.trans (h2.mono h.size)
theorem within_any (x y : Int) (w : World) : Calls Try.prog 19 #[.agg #[.int .i64 x, .int .i64 y]] w fun e w' => e = .returned (.bool (okP (x, y))) ∧ Below w.heap.size w w' := by
  by_cases h0 : -2097152 ≤ x
  · have d0 : decide ((-2097152 : Int) ≤ x) = true := decide_eq_true h0
    by_cases h1 : x ≤ 2097152
    · have d1 : decide (x ≤ (2097152 : Int)) = true := decide_eq_true h1
      by_cases h2 : -2097152 ≤ y
      · have d2 : decide ((-2097152 : Int) ≤ y) = true := decide_eq_true h2
        by_cases h3 : y ≤ 2097152
        · have d3 : decide (y ≤ (2097152 : Int)) = true := decide_eq_true h3
          have e : okP (x, y) = true := by unfold okP; exact decide_eq_true ⟨by omega, by omega, by omega, by omega⟩
          rw [e]
          clear e
          go_enter Try.func19, Try.ntmps19
          go_wp2_with fail
          go_ret
          exact ⟨rfl, (Below.refl _ _).alloc (Nat.le_refl _) _⟩
        · have d3 : decide (y ≤ (2097152 : Int)) = false := decide_eq_false h3
          have e : okP (x, y) = false := by unfold okP; exact decide_eq_false (fun h => by omega)
          rw [e]
          clear e
          go_enter Try.func19, Try.ntmps19
          go_wp2_with fail
          go_ret
          exact ⟨rfl, (Below.refl _ _).alloc (Nat.le_refl _) _⟩
      · have d2 : decide ((-2097152 : Int) ≤ y) = false := decide_eq_false h2
        have e : okP (x, y) = false := by unfold okP; exact decide_eq_false (fun h => by omega)
        rw [e]
        clear e
        go_enter Try.func19, Try.ntmps19
        go_wp2_with fail
        go_ret
        exact ⟨rfl, (Below.refl _ _).alloc (Nat.le_refl _) _⟩
    · have d1 : decide (x ≤ (2097152 : Int)) = false := decide_eq_false h1
      have e : okP (x, y) = false := by unfold okP; exact decide_eq_false (fun h => by omega)
      rw [e]
      clear e
      go_enter Try.func19, Try.ntmps19
      go_wp2_with fail
      go_ret
      exact ⟨rfl, (Below.refl _ _).alloc (Nat.le_refl _) _⟩
  · have d0 : decide ((-2097152 : Int) ≤ x) = false := decide_eq_false h0
    have e : okP (x, y) = false := by unfold okP; exact decide_eq_false (fun h => by omega)
    rw [e]
    clear e
    go_enter Try.func19, Try.ntmps19
    go_wp2_with fail
    go_ret
    exact ⟨rfl, (Below.refl _ _).alloc (Nat.le_refl _) _⟩
theorem in_any (x y : Int) (w : World) : Calls Try.prog 22 #[.agg #[.int .i64 x, .int .i64 y]] w fun e w' => e = .returned (.bool (okP (x, y))) ∧ Below w.heap.size w w' := by
  by_cases h0 : -2097152 ≤ x
  · have d0 : decide ((-2097152 : Int) ≤ x) = true := decide_eq_true h0
    by_cases h1 : x ≤ 2097152
    · have d1 : decide (x ≤ (2097152 : Int)) = true := decide_eq_true h1
      by_cases h2 : -2097152 ≤ y
      · have d2 : decide ((-2097152 : Int) ≤ y) = true := decide_eq_true h2
        by_cases h3 : y ≤ 2097152
        · have d3 : decide (y ≤ (2097152 : Int)) = true := decide_eq_true h3
          have e : okP (x, y) = true := by unfold okP; exact decide_eq_true ⟨by omega, by omega, by omega, by omega⟩
          rw [e]
          clear e
          go_enter Try.func22, Try.ntmps22
          go_wp2_with fail
          go_ret
          exact ⟨rfl, (Below.refl _ _).alloc (Nat.le_refl _) _⟩
        · have d3 : decide (y ≤ (2097152 : Int)) = false := decide_eq_false h3
          have e : okP (x, y) = false := by unfold okP; exact decide_eq_false (fun h => by omega)
          rw [e]
          clear e
          go_enter Try.func22, Try.ntmps22
          go_wp2_with fail
          go_ret
          exact ⟨rfl, (Below.refl _ _).alloc (Nat.le_refl _) _⟩
      · have d2 : decide ((-2097152 : Int) ≤ y) = false := decide_eq_false h2
        have e : okP (x, y) = false := by unfold okP; exact decide_eq_false (fun h => by omega)
        rw [e]
        clear e
        go_enter Try.func22, Try.ntmps22
        go_wp2_with fail
        go_ret
        exact ⟨rfl, (Below.refl _ _).alloc (Nat.le_refl _) _⟩
    · have d1 : decide (x ≤ (2097152 : Int)) = false := decide_eq_false h1
      have e : okP (x, y) = false := by unfold okP; exact decide_eq_false (fun h => by omega)
      rw [e]
      clear e
      go_enter Try.func22, Try.ntmps22
      go_wp2_with fail
      go_ret
      exact ⟨rfl, (Below.refl _ _).alloc (Nat.le_refl _) _⟩
  · have d0 : decide ((-2097152 : Int) ≤ x) = false := decide_eq_false h0
    have e : okP (x, y) = false := by unfold okP; exact decide_eq_false (fun h => by omega)
    rw [e]
    clear e
    go_enter Try.func22, Try.ntmps22
    go_wp2_with fail
    go_ret
    exact ⟨rfl, (Below.refl _ _).alloc (Nat.le_refl _) _⟩
set_option maxHeartbeats 4000000 in
theorem bounded_any (v : Value) (l : List P2) (w : World) (h : RdP w w.heap.size v l) (hl : l.length ≤ 1000000) (R : Bool) (hR : okR l = R) :
    Calls Try.prog 15 #[v] w fun e w' => e = .returned (.bool R) ∧ Below w.heap.size w w' := by
  obtain ⟨a, c, rfl, _, _, ha⟩ := h
  obtain ⟨L, hL⟩ : ∃ L, L = l.length := ⟨_, rfl⟩
  have HA := Lib.hid ha
  have HL := Lib.hid hL
  have HR := Lib.hid hR
  rw [← hL] at hl ⊢
  clear ha hL hR
  go_enter Try.func15, Try.ntmps15
  go_wp2_with fail
  go_loopw [7] (fun i W => ∃ k : Nat, k ≤ L ∧ i = .int .i64 (k : Int) ∧ Hid (∀ j (h : j < l.length), j < k → okP l[j] = true) ∧ Hid (Below w.heap.size w W)) (fun i _ => L - (intOf i).toNat)
  case atStart => exact ⟨0, Nat.zero_le _, rfl, fun j _ hj => absurd hj (by omega), Below.refl _ _⟩
  case round =>
    obtain ⟨k, hk, rfl, HO, HB⟩ := hrel
    by_cases hlt : k < L
    · have hkl : k < l.length := by have := HL.out; omega
      obtain ⟨b, o, rfl, hb, c0, c1⟩ := HA.out.at k hkl
      have c0 := (HB.out.cell (p := ⟨b, o + k * 2, none⟩) hb).trans c0
      have c1 := (HB.out.cell (p := ⟨b, o + k * 2 + 1, none⟩) hb).trans c1
      have HO2 : Hid (okP l[k] = true → ∀ j (h : j < l.length), j < k + 1 → okP l[j] = true) := fun hok j h hj => by
        by_cases hjk : j = k
        · subst hjk; exact hok
        · exact HO.out j h (by omega)
      have HF : Hid (okP l[k] = false → false = R) := fun hok => by rw [← HR.out]; exact (okR_no hkl hok).symm
      obtain ⟨⟨x, y⟩, he⟩ : ∃ p, l[k] = p := ⟨_, rfl⟩
      rw [he] at c0 c1 HO2 HF
      simp only at c0 c1
      clear he HO
      have hk0 : (0 : Int) ≤ (k : Int) := by omega
      have hk1 : (k : Int) < (L : Int) := by omega
      have hc := Lib.hid fun W => within_any x y W
      cases hok : okP (x, y)
      · rw [hok] at hc HF
        clear hok HO2
        go_wp2_with fail
        refine (hc.out _).mono ?_
        rintro e X ⟨rfl, hX⟩
        have HX := Lib.hid (HB.out.trans ((((Below.refl _ wr).alloc (Nat.le_refl _) _).trans (hX.mono (by simp))).mono HB.out.size))
        clear hX
        have hf := HF.out (by trivial)
        subst hf
        go_wp2_with fail
        go_ret
        exact ⟨rfl, HX.out⟩
      · rw [hok] at hc
        have HO3 := Lib.hid (HO2.out hok)
        clear hok HO2 HF
        go_wp2_with fail
        refine (hc.out _).mono ?_
        rintro e X ⟨rfl, hX⟩
        have HX := Lib.hid (HB.out.trans ((((Below.refl _ wr).alloc (Nat.le_refl _) _).trans (hX.mono (by simp))).mono HB.out.size))
        clear hX
        go_wp2_with fail
        go_roundw
        case rel => exact ⟨k + 1, by omega, by go_num, HO3, HX⟩
        case measure => simp [intOf]; omega
    · obtain rfl : k = L := by omega
      have hf : decide (k ≤ 262144) = R := by rw [← HR.out]; exact (okR_yes (fun j h => HO.out j h (by have := HL.out; omega)) HL.out).symm
      have HBf := HB
      clear HO hk hlt HB
      by_cases h9 : k ≤ 262144
      · have d1 : decide ((k : Int) ≤ (262144 : Int)) = true := decide_eq_true (by omega)
        rw [decide_eq_true h9] at hf
        subst hf
        go_wp2_with fail
        go_ret
        exact ⟨rfl, HBf.out⟩
      · have d1 : decide ((k : Int) ≤ (262144 : Int)) = false := decide_eq_false (by omega)
        rw [decide_eq_false h9] at hf
        subst hf
        go_wp2_with fail
        go_ret
        exact ⟨rfl, HBf.out⟩
set_option maxHeartbeats 4000000 in
theorem right_any (v : Value) (l : List P2) (w : World) (h : RdP w w.heap.size v l) (hl : l.length ≤ 1000000) (R : Bool) (hR : okR l = R) :
    Calls Try.prog 17 #[v] w fun e w' => e = .returned (.bool R) ∧ Below w.heap.size w w' := by
  obtain ⟨a, c, rfl, _, _, ha⟩ := h
  obtain ⟨L, hL⟩ : ∃ L, L = l.length := ⟨_, rfl⟩
  have HA := Lib.hid ha
  have HL := Lib.hid hL
  have HR := Lib.hid hR
  rw [← hL] at hl ⊢
  clear ha hL hR
  go_enter Try.func17, Try.ntmps17
  go_wp2_with fail
  go_loopw [3] (fun i W => ∃ k : Nat, k ≤ L ∧ i = .int .i64 (k : Int) ∧ Hid (∀ j (h : j < l.length), j < k → okP l[j] = true) ∧ Hid (Below w.heap.size w W)) (fun i _ => L - (intOf i).toNat)
  case atStart => exact ⟨0, Nat.zero_le _, rfl, fun j _ hj => absurd hj (by omega), Below.refl _ _⟩
  case round =>
    obtain ⟨k, hk, rfl, HO, HB⟩ := hrel
    by_cases hlt : k < L
    · have hkl : k < l.length := by have := HL.out; omega
      obtain ⟨b, o, rfl, hb, c0, c1⟩ := HA.out.at k hkl
      have c0 := (HB.out.cell (p := ⟨b, o + k * 2, none⟩) hb).trans c0
      have c1 := (HB.out.cell (p := ⟨b, o + k * 2 + 1, none⟩) hb).trans c1
      have HO2 : Hid (okP l[k] = true → ∀ j (h : j < l.length), j < k + 1 → okP l[j] = true) := fun hok j h hj => by
        by_cases hjk : j = k
        · subst hjk; exact hok
        · exact HO.out j h (by omega)
      have HF : Hid (okP l[k] = false → false = R) := fun hok => by rw [← HR.out]; exact (okR_no hkl hok).symm
      obtain ⟨⟨x, y⟩, he⟩ : ∃ p, l[k] = p := ⟨_, rfl⟩
      rw [he] at c0 c1 HO2 HF
      simp only at c0 c1
      clear he HO
      have hk0 : (0 : Int) ≤ (k : Int) := by omega
      have hk1 : (k : Int) < (L : Int) := by omega
      have hc := Lib.hid fun W => in_any x y W
      cases hok : okP (x, y)
      · rw [hok] at hc HF
        clear hok HO2
        go_wp2_with fail
        refine (hc.out _).mono ?_
        rintro e X ⟨rfl, hX⟩
        have HX := Lib.hid (HB.out.trans (hX.mono HB.out.size))
        clear hX
        have hf := HF.out (by trivial)
        subst hf
        go_wp2_with fail
        go_ret
        exact ⟨rfl, HX.out⟩
      · rw [hok] at hc
        have HO3 := Lib.hid (HO2.out hok)
        clear hok HO2 HF
        go_wp2_with fail
        refine (hc.out _).mono ?_
        rintro e X ⟨rfl, hX⟩
        have HX := Lib.hid (HB.out.trans (hX.mono HB.out.size))
        clear hX
        go_wp2_with fail
        go_roundw
        case rel => exact ⟨k + 1, by omega, by go_num, HO3, HX⟩
        case measure => simp [intOf]; omega
    · obtain rfl : k = L := by omega
      have hf : decide (k ≤ 262144) = R := by rw [← HR.out]; exact (okR_yes (fun j h => HO.out j h (by have := HL.out; omega)) HL.out).symm
      have HBf := HB
      clear HO hk hlt HB
      by_cases h9 : k ≤ 262144
      · have d1 : decide ((k : Int) ≤ (262144 : Int)) = true := decide_eq_true (by omega)
        rw [decide_eq_true h9] at hf
        subst hf
        go_wp2_with fail
        go_ret
        exact ⟨rfl, HBf.out⟩
      · have d1 : decide ((k : Int) ≤ (262144 : Int)) = false := decide_eq_false (by omega)
        rw [decide_eq_false h9] at hf
        subst hf
        go_wp2_with fail
        go_ret
        exact ⟨rfl, HBf.out⟩
end Go.Proofs.Ytlmnmilefggmpaa
