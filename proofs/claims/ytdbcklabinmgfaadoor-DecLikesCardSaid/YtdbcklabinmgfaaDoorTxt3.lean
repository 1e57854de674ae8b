/- Layer 16: the reference's zeros, number. -/
import Derived.Test.YtdbcklabinmgfaaDoorTxt2
namespace Go.Proofs.YtdbcklabinmgfaaDoor
open Go.RowKit Go.Shelf
set_option linter.unusedVariables false
set_option maxRecDepth 100000

theorem rep_snoc (k : Nat) : strOf (List.replicate k 48) ++ ⟨#[48]⟩ = strOf (List.replicate (k + 1) 48) := by
  rw [strOf_lit [48] #[48] rfl, strOf_app, List.replicate_succ']
set_option maxHeartbeats 4000000 in
theorem rzeros_any (n : Nat) (w : World) (hn : n ≤ 10000) : Calls Tryd.prog 35 #[.int .i64 (n : Int)] w fun e w' => e = .returned (.string (strOf (List.replicate n 48))) ∧ w = w' := by
  go_enter Tryd.func35, Tryd.ntmps35
  go_wp2_with fail
  obtain ⟨w0, rfl⟩ : ∃ w0, w0 = w := ⟨_, rfl⟩
  go_loopw [3, 4] (fun x3 x4 X => ∃ k : Nat, k ≤ n ∧ x3 = .string (strOf (List.replicate k 48)) ∧ x4 = .int .i64 (k : Int) ∧ w0 = X) (fun x3 x4 _ => n - (intOf x4).toNat)
  case atStart => exact ⟨0, Nat.zero_le _, rfl, rfl, rfl⟩
  case round =>
    obtain ⟨k, hk, rfl, rfl, rfl⟩ := hrel
    by_cases hlt : k < n
    · have d1 : decide ((k : Int) < (n : Int)) = true := decide_eq_true (by omega)
      have hadd := fun W => add_run (strOf (List.replicate k 48)) ⟨#[48]⟩ (by rw [strOf_size, List.length_replicate]; omega) (by decide) W
      go_wp2_with fail
      go_roundw
      case rel => exact ⟨k + 1, by omega, congrArg Value.string (rep_snoc k), by go_num, trivial⟩
      case measure => simp [intOf]; omega
    · obtain rfl : k = n := by omega
      have d1 : decide ((k : Int) < (k : Int)) = false := decide_eq_false (by omega)
      go_wp2_with fail
      go_ret
      exact ⟨rfl, rfl⟩
theorem one_digit : ∀ c : Nat, c < 10 → (⟨#[48, 49, 50, 51, 52, 53, 54, 55, 56, 57]⟩ : ByteArray).extract c (c + 1) = strOf [48 + c] := by
  intro c hc
  rw [ext_bs]
  have : c = 0 ∨ c = 1 ∨ c = 2 ∨ c = 3 ∨ c = 4 ∨ c = 5 ∨ c = 6 ∨ c = 7 ∨ c = 8 ∨ c = 9 := by omega
  rcases this with rfl | rfl | rfl | rfl | rfl | rfl | rfl | rfl | rfl | rfl <;> rfl
theorem nDigits_le : ∀ (m k : Nat), m < 10 ^ k → Lib.nDigits m ≤ k + 1
  | m, 0, h => by rw [Lib.nDigits_small (by omega)]; omega
  | m, k + 1, h => by
    by_cases h10 : m < 10
    · rw [Lib.nDigits_small h10]; omega
    · have := nDigits_le (m / 10) k (by rw [Nat.pow_succ] at h; omega)
      rw [Lib.nDigits, dif_neg h10]
      omega
theorem decDigits_size (m : Nat) (h : m ≤ 100000000) : (⟨(Lib.decDigits m).toArray⟩ : ByteArray).size ≤ 10 := by
  have h1 := nDigits_le m 9 (by omega)
  show (Lib.decDigits m).toArray.size ≤ _
  rw [List.size_toArray, Lib.decDigits_length]
  exact h1
theorem digits_more {m : Nat} (h : ¬ m < 10) : (⟨(Lib.decDigits m).toArray⟩ : ByteArray) = ⟨(Lib.decDigits (m / 10)).toArray⟩ ++ strOf [48 + m % 10] := by
  rw [Lib.decDigits, dif_neg h]
  apply ByteArray.ext
  rw [ByteArray.data_append]
  simp [strOf]
set_option maxHeartbeats 4000000 in
theorem number_nat : ∀ (f m : Nat), m < f → m ≤ 100000 → ∀ (w : World), Calls Tryd.prog 36 #[.int .i64 (m : Int)] w fun e w' => e = .returned (.string ⟨(Lib.decDigits m).toArray⟩) ∧ Below w.heap.size w w'
  | 0, m, h, _, _ => by omega
  | f + 1, m, h, hm, w => by
    have d0 : decide ((m : Int) < 0) = false := decide_eq_false (by omega)
    by_cases h10 : m < 10
    · have d1 : decide ((m : Int) < 10) = true := decide_eq_true (by omega)
      have hsl0 : (m : Int) ≤ (m : Int) + 1 := by omega
      have hsl1 : (m : Int) + 1 ≤ 10 := by omega
      have hk0 : (0 : Int) ≤ (m : Int) := by omega
      have HE : Hid ((⟨(Lib.decDigits m).toArray⟩ : ByteArray) = (⟨#[48, 49, 50, 51, 52, 53, 54, 55, 56, 57]⟩ : ByteArray).extract m (m + 1)) := by
        show _ = _
        rw [one_digit m h10, Lib.decDigits_one h10]; rfl
      clear h
      go_enter Tryd.func36, Tryd.ntmps36
      go_wp2_with fail
      go_ret
      exact ⟨by rw [HE.out]; rfl, Below.refl _ _⟩
    · have d1 : decide ((m : Int) < 10) = false := decide_eq_false (by omega)
      have hIH := fun W => number_nat f (m / 10) (by omega) (by omega) W
      have hT : Hid ((⟨(Lib.decDigits m).toArray⟩ : ByteArray) = ⟨(Lib.decDigits (m / 10)).toArray⟩ ++ strOf [48 + m % 10]) := digits_more h10
      obtain ⟨q, hq0⟩ : ∃ q, q = m / 10 := ⟨_, rfl⟩
      obtain ⟨c, hc0⟩ : ∃ c, c = m % 10 := ⟨_, rfl⟩
      rw [← hq0] at hIH hT
      rw [← hc0] at hT
      have hq : (m : Int).tdiv 10 = (q : Int) := by rw [Int.tdiv_eq_ediv_of_nonneg (by omega)]; omega
      have hr : (m : Int).tmod 10 = (c : Int) := by rw [Int.tmod_eq_emod_of_nonneg (by omega)]; omega
      have hc9 : c < 10 := by omega
      have hwq : IntKind.i64.wrap (q : Int) = (q : Int) := (IntWalk.i64_left _).trans (IntWalk.wrap64_in _ ⟨by omega, by omega⟩)
      have hwc : IntKind.i64.wrap (c : Int) = (c : Int) := (IntWalk.i64_left _).trans (IntWalk.wrap64_in _ ⟨by omega, by omega⟩)
      have hwc1 : IntKind.i64.wrap ((c : Int) + 1) = (c : Int) + 1 := (IntWalk.i64_left _).trans (IntWalk.wrap64_in _ ⟨by omega, by omega⟩)
      have hsl0 : (c : Int) ≤ (c : Int) + 1 := by omega
      have hsl1 : (c : Int) + 1 ≤ 10 := by omega
      have hsl2 : (0 : Int) ≤ (c : Int) + 1 := by omega
      have hsl3 : ((c : Int) + 1).toNat = c + 1 := by omega
      have hk0 : (0 : Int) ≤ (c : Int) := by omega
      have hex := one_digit c hc9
      have hqs : (⟨(Lib.decDigits q).toArray⟩ : ByteArray).size ≤ 10 := decDigits_size q (by omega)
      obtain ⟨dq, hdq⟩ : ∃ z : ByteArray, z = ⟨(Lib.decDigits q).toArray⟩ := ⟨_, rfl⟩
      rw [← hdq] at hIH hT hqs
      obtain ⟨dm, hdm⟩ : ∃ z : ByteArray, z = ⟨(Lib.decDigits m).toArray⟩ := ⟨_, rfl⟩
      rw [← hdm] at hT ⊢
      have hB0 : Below w.heap.size w w.drew := ⟨(Below.refl w.heap.size w).os, (Below.refl w.heap.size w).tape, (Below.refl w.heap.size w).output, (Below.refl w.heap.size w).size, (Below.refl w.heap.size w).block⟩
      clear h h10 hdq hdm hq0 hc0
      go_enter Tryd.func36, Tryd.ntmps36
      go_upto_region 5 with (fail)
      refine wp_region_held (S := fun W => Below w.heap.size w W) (by kernel_rfl) ?_
      refine wpAnyH_take (i := 0) (oi := { dst := some 15, op := Go.Op.move (Go.Operand.tmp 0), type := 3, pos := "ref.go:177", after := #[], guard := none }) (v := ?_) rfl (by kernel_rfl) (by kernel_rfl) (by kernel_rfl) (fun _ _ _ h => h) (Or.inl ⟨by rfl, ?_⟩) (hB0) ?_
      rotate_left 1
      · intro w5 hSw
        go_simp; all_goals (with_reducible rfl)
      try simp only [Act.put, List.setIfInBounds_toArray, List.set_cons_zero, List.set_cons_succ]
      refine wpAnyH_take (i := 1) (oi := { dst := some 16, op := Go.Op.binOp Go.BinOp.quo 3 (Go.Operand.tmp 15) (Go.Operand.const (Go.Value.int Go.IntKind.i64 10)) 3, type := 3, pos := "ref.go:177", after := #[{ on := 0, ground := Go.Ground.data }], guard := none }) (v := ?_) rfl (by kernel_rfl) (by kernel_rfl) (by kernel_rfl) (fun _ _ _ h => h) (Or.inl ⟨by rfl, ?_⟩) (hB0) ?_
      rotate_left 1
      · intro w5 hSw
        go_simp; all_goals (with_reducible rfl)
      try simp only [Act.put, List.setIfInBounds_toArray, List.set_cons_zero, List.set_cons_succ]
      refine wpAnyH_take (i := 3) (oi := { dst := some 18, op := Go.Op.move (Go.Operand.tmp 0), type := 3, pos := "ref.go:177", after := #[], guard := none }) (v := ?_) rfl (by kernel_rfl) (by kernel_rfl) (by kernel_rfl) (fun _ _ _ h => h) (Or.inl ⟨by rfl, ?_⟩) (hB0) ?_
      rotate_left 1
      · intro w5 hSw
        go_simp; all_goals (with_reducible rfl)
      try simp only [Act.put, List.setIfInBounds_toArray, List.set_cons_zero, List.set_cons_succ]
      refine wpAnyH_take (i := 4) (oi := { dst := some 19, op := Go.Op.binOp Go.BinOp.rem 3 (Go.Operand.tmp 18) (Go.Operand.const (Go.Value.int Go.IntKind.i64 10)) 3, type := 3, pos := "ref.go:177", after := #[{ on := 3, ground := Go.Ground.data }], guard := none }) (v := ?_) rfl (by kernel_rfl) (by kernel_rfl) (by kernel_rfl) (fun _ _ _ h => h) (Or.inl ⟨by rfl, ?_⟩) (hB0) ?_
      rotate_left 1
      · intro w5 hSw
        go_simp; all_goals (with_reducible rfl)
      try simp only [Act.put, List.setIfInBounds_toArray, List.set_cons_zero, List.set_cons_succ]
      refine wpAnyH_take (i := 5) (oi := { dst := some 20, op := Go.Op.move (Go.Operand.tmp 0), type := 3, pos := "ref.go:177", after := #[], guard := none }) (v := ?_) rfl (by kernel_rfl) (by kernel_rfl) (by kernel_rfl) (fun _ _ _ h => h) (Or.inl ⟨by rfl, ?_⟩) (hB0) ?_
      rotate_left 1
      · intro w5 hSw
        go_simp; all_goals (with_reducible rfl)
      try simp only [Act.put, List.setIfInBounds_toArray, List.set_cons_zero, List.set_cons_succ]
      refine wpAnyH_take (i := 6) (oi := { dst := some 21, op := Go.Op.binOp Go.BinOp.rem 3 (Go.Operand.tmp 20) (Go.Operand.const (Go.Value.int Go.IntKind.i64 10)) 3, type := 3, pos := "ref.go:177", after := #[{ on := 5, ground := Go.Ground.data }], guard := none }) (v := ?_) rfl (by kernel_rfl) (by kernel_rfl) (by kernel_rfl) (fun _ _ _ h => h) (Or.inl ⟨by rfl, ?_⟩) (hB0) ?_
      rotate_left 1
      · intro w5 hSw
        go_simp; all_goals (with_reducible rfl)
      try simp only [Act.put, List.setIfInBounds_toArray, List.set_cons_zero, List.set_cons_succ]
      refine wpAnyH_take (i := 7) (oi := { dst := some 22, op := Go.Op.binOp Go.BinOp.add 3 (Go.Operand.tmp 21) (Go.Operand.const (Go.Value.int Go.IntKind.i64 1)) 3, type := 3, pos := "ref.go:177", after := #[{ on := 6, ground := Go.Ground.data }], guard := none }) (v := ?_) rfl (by kernel_rfl) (by kernel_rfl) (by kernel_rfl) (fun _ _ _ h => h) (Or.inl ⟨by rfl, ?_⟩) (hB0) ?_
      rotate_left 1
      · intro w5 hSw
        go_simp; all_goals (with_reducible rfl)
      try simp only [Act.put, List.setIfInBounds_toArray, List.set_cons_zero, List.set_cons_succ]
      refine wpAnyH_take (i := 8) (oi := { dst := some 23, op := Go.Op.slice 9 (Go.Operand.const (Go.Value.string { data := #[48, 49, 50, 51, 52, 53, 54, 55, 56, 57] })) (some (Go.Operand.tmp 19)) (some (Go.Operand.tmp 22)) none, type := 9, pos := "ref.go:177", after := #[{ on := 4, ground := Go.Ground.data }, { on := 7, ground := Go.Ground.data }], guard := none }) (v := ?_) rfl (by kernel_rfl) (by kernel_rfl) (by kernel_rfl) (fun _ _ _ h => h) (Or.inl ⟨by rfl, ?_⟩) (hB0) ?_
      rotate_left 1
      · intro w5 hSw
        go_simp; all_goals (with_reducible rfl)
      try simp only [Act.put, List.setIfInBounds_toArray, List.set_cons_zero, List.set_cons_succ]
      refine wpAnyH_ready (rs := [2]) (by kernel_rfl) (by simp) ?_
      refine (AllReadyH.cons (o := { dst := some 17, op := Go.Op.call { callee := Go.Callee.value (Go.Operand.func 36), args := #[Go.Operand.tmp 16], argTypes := #[3] }, type := 9, pos := "ref.go:177", after := #[{ on := 1, ground := Go.Ground.data }], guard := none }) rfl (fun K hK => ?_) AllReadyH.nil)
      go_simp
      refine (hIH _).mono ?_; rintro e Y ⟨rfl, hb2⟩
      go_wp2_with fail
      refine hK.out _ _ (keepBelow hb2 hB0) (fun _ => ?_)
      clear hK K
      try simp only [Act.put, List.setIfInBounds_toArray, List.set_cons_zero, List.set_cons_succ]
      refine wpAnyH_take (i := 9) (oi := { dst := some 24, op := Go.Op.binOp Go.BinOp.add 9 (Go.Operand.tmp 17) (Go.Operand.tmp 23) 9, type := 9, pos := "ref.go:177", after := #[{ on := 2, ground := Go.Ground.data }, { on := 8, ground := Go.Ground.data }], guard := none }) (v := ?_) rfl (by kernel_rfl) (by kernel_rfl) (by kernel_rfl) (fun _ _ _ h => h) (Or.inl ⟨by rfl, ?_⟩) (keepBelow hb2 hB0) ?_
      rotate_left 1
      · intro w5 hSw
        have ha := add_run dq (strOf [48 + c]) (by omega) (by rw [strOf_size]; show 1 ≤ 10000000; decide) w5
        go_simp; all_goals (with_reducible rfl)
      try simp only [Act.put, List.setIfInBounds_toArray, List.set_cons_zero, List.set_cons_succ]
      refine wpAnyH_take (i := 10) (oi := { dst := some 2, op := Go.Op.assign (Go.Operand.tmp 24), type := 9, pos := "ref.go:177", after := #[{ on := 9, ground := Go.Ground.data }, { on := 2, ground := Go.Ground.chain }, { on := 0, ground := Go.Ground.phase }, { on := 1, ground := Go.Ground.phase }, { on := 2, ground := Go.Ground.phase }, { on := 3, ground := Go.Ground.phase }, { on := 4, ground := Go.Ground.phase }, { on := 5, ground := Go.Ground.phase }, { on := 6, ground := Go.Ground.phase }, { on := 7, ground := Go.Ground.phase }, { on := 8, ground := Go.Ground.phase }, { on := 9, ground := Go.Ground.phase }], guard := none }) (v := ?_) rfl (by kernel_rfl) (by kernel_rfl) (by kernel_rfl) (fun _ _ _ h => h) (Or.inl ⟨by rfl, ?_⟩) (keepBelow hb2 hB0) ?_
      rotate_left 1
      · intro w5 hSw
        go_simp; all_goals (with_reducible rfl)
      try simp only [Act.put, List.setIfInBounds_toArray, List.set_cons_zero, List.set_cons_succ]
      refine wpAnyH_done (by kernel_rfl) ?_ _
      go_wp2_with fail
      go_ret
      exact ⟨by rw [hT.out]; rfl, keepBelow hb2 hB0⟩
set_option maxHeartbeats 4000000 in
theorem number_any (n : Int) (hn : -100000 ≤ n ∧ n ≤ 100000) (w : World) : Calls Tryd.prog 36 #[.int .i64 n] w fun e w' => e = .returned (.string ⟨(Lib.itoa n).toArray⟩) ∧ Below w.heap.size w w' := by
  by_cases h : n < 0
  · obtain ⟨m, hm⟩ : ∃ m : Nat, -n = (m : Int) := ⟨(-n).toNat, by omega⟩
    have HN := Lib.hid fun W => number_nat (m + 1) m (by omega) (by omega) W
    have hwn : wrap64 (-n) = (m : Int) := by rw [← hm]; exact IntWalk.wrap64_in _ ⟨by omega, by omega⟩
    have d0 : decide (n < 0) = true := decide_eq_true h
    have hT : Hid ((⟨(Lib.itoa n).toArray⟩ : ByteArray) = ⟨#[45]⟩ ++ ⟨(Lib.decDigits m).toArray⟩) := by
      show _ = _
      unfold Lib.itoa
      rw [if_pos h, show n.natAbs = m by omega]
      apply ByteArray.ext
      rw [ByteArray.data_append]
      simp
    have hsz := decDigits_size m (by omega)
    obtain ⟨dq, hdq⟩ : ∃ z : ByteArray, z = ⟨(Lib.decDigits m).toArray⟩ := ⟨_, rfl⟩
    obtain ⟨dm, hdm⟩ : ∃ z : ByteArray, z = ⟨(Lib.itoa n).toArray⟩ := ⟨_, rfl⟩
    rw [← hdq] at hT hsz HN
    rw [← hdm] at hT ⊢
    have hadd := fun W => add_run ⟨#[45]⟩ dq (by decide) (by omega) W
    clear h hdq hdm hm hn
    go_enter Tryd.func36, Tryd.ntmps36
    go_wp2_with fail
    refine (HN.out _).mono ?_
    rintro e Y ⟨rfl, hb⟩
    go_wp2_with fail
    go_ret
    exact ⟨by rw [hT.out]; rfl, hb⟩
  · obtain ⟨m, rfl⟩ : ∃ m : Nat, n = (m : Int) := ⟨n.toNat, by omega⟩
    have e : Lib.itoa (m : Int) = Lib.decDigits m := by unfold Lib.itoa; rw [if_neg h, Int.toNat_natCast]
    rw [e]
    exact number_nat (m + 1) m (by omega) (by omega) w
end Go.Proofs.YtdbcklabinmgfaaDoor
