/- GzipWrapsW -/
import Derived.Test.YtngnhkghpnamoaaGzRef
namespace Go.Proofs.Ytngnhkghpnamoaa
open Go.RowKit Huff Bit
set_option linter.unusedVariables false
set_option maxRecDepth 100000

theorem strOf_cat (l m : List Nat) : strOf l ++ strOf m = strOf (l ++ m) := by
  simp [strOf, ByteArray.append_eq, ByteArray.ext_iff]
theorem fixed_len9 {l : List Nat} (hb : Bytes255 l) : 8 * (fixedB hb).length ≤ 9 * l.length + 40 := by
  unfold fixedB
  rw [← bits_bytes hb, bytesOf, bytesTo_length, bitsE_eq, List.length_append, List.length_append]
  have h1 := flat_length hb l.length 0 (Nat.zero_le _)
  have h2 := (fixW_bounds 256 (by omega)).2.1
  have h3 := wordL_length 256
  have h4 : (flatS (parseE hb)).length ≤ 9 * (l.length - 0) := h1
  have h5 : ([true, true, false] : List Bool).length = 3 := rfl
  omega
theorem two_gzs (x y : Cont) : gzs [x, y] = gzB x.2.1 ++ gzB y.2.1 := by rw [gzs_cons, one_gzs]
theorem two_conts (x y : Cont) : conts [x, y] = x.1 ++ y.1 := by simp [conts]
set_option maxHeartbeats 8000000 in
theorem gzipWraps_big (A B : Option Addr) (La Lb ca cb : Nat) (w : World) (h : 300 < La ∨ 300 < Lb) :
    Calls Try.prog 3 #[.slice A La ca, .slice B Lb cb] w fun e w' => e = .returned (.bool true) ∧ Below w.heap.size w w' := by
  have HL := Lib.hid live06_any
  by_cases h1 : 300 < La
  · have d1 : decide ((300 : Int) < (La : Int)) = true := decide_eq_true (by omega)
    have d2 : decide (300 < La) = true := decide_eq_true h1
    clear h h1
    go_enter Try.func3, Try.ntmps3
    go_wp2_with fail
    refine (HL.out _).mono ?_
    rintro e Y ⟨rfl, hB⟩
    have HB := Lib.hid hB
    clear hB
    go_wp2_with fail
    go_ret
    exact ⟨rfl, HB.out⟩
  · have d1 : decide ((300 : Int) < (La : Int)) = false := decide_eq_false (by omega)
    have d2 : decide (300 < La) = false := decide_eq_false h1
    have d3 : decide ((300 : Int) < (Lb : Int)) = true := decide_eq_true (by omega)
    have d4 : decide (300 < Lb) = true := decide_eq_true (by omega)
    clear h h1
    go_enter Try.func3, Try.ntmps3
    go_wp2_with fail
    refine (HL.out _).mono ?_
    rintro e Y ⟨rfl, hB⟩
    have HB := Lib.hid hB
    clear hB
    go_wp2_with fail
    go_ret
    exact ⟨rfl, HB.out⟩
set_option maxHeartbeats 16000000 in
theorem gzipWraps_walk (la : List Nat) (A : Option Addr) (ca : Nat) (lb : List Nat) (B : Option Addr) (cb : Nat) (w : World)
    (hla : ∀ x ∈ la, x < 256) (hac : la.length ≤ ca) (hcm : ca ≤ maxLen) (hNa : Nums .u8 w w.heap.size A la)
    (hlb : ∀ x ∈ lb, x < 256) (hbc : lb.length ≤ cb) (hdm : cb ≤ maxLen) (hNb : Nums .u8 w w.heap.size B lb) :
    Calls Try.prog 3 #[.slice A la.length ca, .slice B lb.length cb] w fun e w' => e = .returned (.bool true) ∧ Below w.heap.size w w' := by
  by_cases h300 : 300 < la.length ∨ 300 < lb.length
  · exact gzipWraps_big A B _ _ ca cb w h300
  · have HL := Lib.hid live06_any
    have Hcode := Lib.hid code06_any
    have ha : Bytes255 la := bytes255_of (fun x hx => Nat.le_of_lt_succ (hla x hx))
    have hb : Bytes255 lb := bytes255_of (fun x hx => Nat.le_of_lt_succ (hlb x hx))
    have fa := fixed_len9 ha
    have fb := fixed_len9 hb
    have ga := gzB_length ha
    have gb := gzB_length hb
    have HW1 := Lib.hid (wrap_any A ca la w ha (by omega) hla hNa)
    have HW2 := Lib.hid fun W (hB : Below w.heap.size w W) => wrap_any B cb lb W hb (by omega) hlb ((hNb.below hB).more hB.size)
    have HRW := Lib.hid fun W (hB : Below w.heap.size w W) => refWrap_any A ca la W ha (by omega) hla ((hNa.below hB).more hB.size)
    have hXlt := gzB_lt ha
    have hp := gz_plain ha []
    rw [List.append_nil] at hp
    have HU2 : Hid (∀ (b off c : Nat) (W : World), Nums .u8 W W.heap.size (some ⟨b, off, none⟩) (gzB ha ++ gzB hb) → (gzB ha ++ gzB hb).length ≤ c → c ≤ maxLen → Calls Try.prog 7 #[.slice (some ⟨b, off, none⟩) (gzB ha ++ gzB hb).length c, .int .i64 1000] W (UnwPost W (la ++ lb))) := by
      intro b off c W h1 h2 h3
      have := unwrap_ok b off c 1000 [⟨la, ha, by omega⟩, ⟨lb, hb, by omega⟩] W (by rw [two_gzs]; exact h1) (by rw [two_gzs]; exact h2) h3 (by rw [two_gzs, List.length_append]; show (gzB ha).length + (gzB hb).length ≤ _; omega) (by omega) (by simp) (by rw [two_conts, List.length_append]; show la.length + lb.length ≤ _; omega)
      rw [two_conts, two_gzs] at this
      exact this
    have HU1 : Hid (∀ (b off c : Nat) (W : World), Nums .u8 W W.heap.size (some ⟨b, off, none⟩) (gzB ha) → (gzB ha).length ≤ c → c ≤ maxLen → Calls Try.prog 7 #[.slice (some ⟨b, off, none⟩) (gzB ha).length c, .int .i64 (la.length : Int)] W (UnwPost W la)) := by
      intro b off c W h1 h2 h3
      have := unwrap_ok b off c la.length [⟨la, ha, by omega⟩] W (by rw [one_gzs]; exact h1) (by rw [one_gzs]; exact h2) h3 (by rw [one_gzs]; show (gzB ha).length ≤ _; omega) (by omega) (by simp) (by rw [one_conts]; exact Nat.le_refl _)
      rw [one_conts, one_gzs] at this
      exact this
    have hXl : (gzB ha).length ≤ 2000 := by omega
    have hYl : (gzB hb).length ≤ 2000 := by omega
    have hX2 : 2 ≤ (gzB ha).length := by omega
    clear fa fb ga gb
    obtain ⟨X, hX⟩ : ∃ X, gzB ha = X := ⟨_, rfl⟩
    obtain ⟨Y, hY⟩ : ∃ Y, gzB hb = Y := ⟨_, rfl⟩
    rw [hX] at HW1 HRW HU2 HU1 hXlt hp hXl hX2
    rw [hY] at HW2 HU2 hYl
    have HIs : Hid (∀ (b off c : Nat) (W : World), Nums .u8 W W.heap.size (some ⟨b, off, none⟩) X → Calls Try.prog 10 #[.slice (some ⟨b, off, none⟩) X.length c] W fun e w' => e = .returned (.bool true) ∧ W = w') := fun b off c W h => is_any b off c X W h hX2 hp.1 hp.2.1
    have HXlt := Lib.hid hXlt
    have HZlt : Hid (∀ x ∈ la ++ lb, x < 256) := fun x hx => by rcases List.mem_append.1 hx with h | h; exact hla x h; exact hlb x h
    have HAlt := Lib.hid hla
    have HBlt := Lib.hid hlb
    have HSa : Hid ((strOf la).size ≤ 10000000) := by show _ ≤ _; rw [strOf_size]; omega
    have HSb : Hid ((strOf lb).size ≤ 10000000) := by show _ ≤ _; rw [strOf_size]; omega
    have Hlen : Hid (X.length ≤ 2000 ∧ Y.length ≤ 2000 ∧ 2 ≤ X.length) := ⟨hXl, hYl, hX2⟩
    have HNa := Lib.hid hNa
    have HNb := Lib.hid hNb
    have d1 : decide ((300 : Int) < (la.length : Int)) = false := decide_eq_false (by omega)
    have d2 : decide (300 < la.length) = false := decide_eq_false (by omega)
    have d3 : decide ((300 : Int) < (lb.length : Int)) = false := decide_eq_false (by omega)
    have d4 : decide (300 < lb.length) = false := decide_eq_false (by omega)
    obtain ⟨Z, hZ⟩ : ∃ Z, X ++ Y = Z := ⟨_, rfl⟩
    obtain ⟨D, hD⟩ : ∃ D, la ++ lb = D := ⟨_, rfl⟩
    rw [hZ, hD] at HU2
    have HZ := Lib.hid hZ
    have HD := Lib.hid hD
    rw [hD] at HZlt
    have HZl : Hid (Z.length ≤ 4000) := by show _ ≤ _; rw [← hZ, List.length_append]; omega
    clear hla hlb hac hbc hcm hdm hNa hNb h300 hXlt hp hXl hYl hX2 hX hY hZ hD
    go_enter Try.func3, Try.ntmps3
    go_wp2_with fail
    refine HW1.out.mono ?_
    rintro e W1 ⟨b1, o1, c1, rfl, hN1, hx1, hx2, hb1⟩
    have HNx := Lib.hid hN1
    have HNa := Lib.hid ((HNa.out.below hb1).more hb1.size)
    have HNb := Lib.hid ((HNb.out.below hb1).more hb1.size)
    have HB := Lib.hid hb1
    have Hx1 := Lib.hid hx1
    have Hx2 := Lib.hid hx2
    clear hN1 hx1 hx2 hb1 HW1
    go_wp2_with fail
    refine (HW2.out _ HB.out).mono ?_
    rintro e W2 ⟨b2, o2, c2, rfl, hN2, _, _, hb2⟩
    have HNy := Lib.hid hN2
    have HNx := Lib.hid ((HNx.out.below hb2).more hb2.size)
    have HNa := Lib.hid ((HNa.out.below hb2).more hb2.size)
    have HNb := Lib.hid ((HNb.out.below hb2).more hb2.size)
    have HB := Lib.hid (keepBelow hb2 HB.out)
    clear hN2 hb2 HW2
    have hO0 : Own8 (W2.alloc (.cells #[] 5)) W2.heap.size (.slice (some ⟨W2.heap.size, 0, none⟩) 0 0) [] := ⟨rfl, .inr ⟨W2.heap.size, 0, #[], rfl, Nat.le_refl _, heap_alloc_new _ _, Nat.le_refl _, Nat.zero_le _, rfl, rfl⟩⟩
    have hb0 : Below W2.heap.size W2 (W2.alloc (.cells #[] 5)) := (Below.refl _ _).alloc (Nat.le_refl _) _
    have hX3 := (HNx.out.below hb0).more hb0.size
    go_wp2_with (at_builtin; refine app_own rfl (.tmp 33) (.tmp 34) rfl rfl hO0 rfl hX3 (by have := Hlen.out; show 0 + _ ≤ _; omega) (by simp) ?_)
    intro v1 W3 hO1 hb3
    have hb3 := hb0.trans hb3
    have hY3 := (HNy.out.below hb3).more hb3.size
    have HO1 := Lib.hid hO1
    have HB3 := Lib.hid hb3
    clear hO0 hb0 hX3 hO1 hb3
    go_wp2_with (at_builtin; refine app_own rfl (.tmp 35) (.tmp 36) rfl rfl HO1.out rfl hY3 (by have := Hlen.out; omega) HB3.out.size ?_)
    intro v2 W4 hO2 hb4
    have hb4 := HB3.out.trans hb4
    have hO2 : Own8 W4 W2.heap.size v2 (X ++ Y) := hO2
    rw [HZ.out] at hO2
    obtain ⟨a6, c6, rfl, h61, h62, _, hN6⟩ := hO2.nums
    obtain ⟨b6, o6, rfl, _⟩ := hN6 (by have := Hlen.out; rw [← HZ.out, List.length_append]; omega)
    have HU := Lib.hid (HU2.out b6 o6 c6 W4 hN6 h61 h62)
    have HNx := Lib.hid ((HNx.out.below hb4).more hb4.size)
    have HNa := Lib.hid ((HNa.out.below hb4).more hb4.size)
    have HNb := Lib.hid ((HNb.out.below hb4).more hb4.size)
    have HB := Lib.hid (keepBelow hb4 HB.out)
    clear hO2 hb4 h61 h62 hN6 hY3 HO1 HB3 HNy HU2
    go_wp2_with fail
    refine HU.out.mono ?_
    rintro e W5 ⟨v5, rfl, hO5, hb5⟩
    obtain ⟨a3, c3, rfl, _, _, _, hN5⟩ := hO5.nums
    have HNz := Lib.hid hN5
    have HNx := Lib.hid ((HNx.out.below hb5).more hb5.size)
    have HNa := Lib.hid ((HNa.out.below hb5).more hb5.size)
    have HNb := Lib.hid ((HNb.out.below hb5).more hb5.size)
    have HB := Lib.hid (keepBelow hb5 HB.out)
    clear hO5 hN5 hb5 HU
    go_wp2_with fail
    refine (HU1.out b1 o1 c1 _ HNx.out Hx1.out Hx2.out).mono ?_
    rintro e W6 ⟨v6, rfl, hO6, hb6⟩
    obtain ⟨a4, c4, rfl, _, _, _, hN6⟩ := hO6.nums
    have HNc := Lib.hid hN6
    have HNz := Lib.hid ((HNz.out.below hb6).more hb6.size)
    have HNx := Lib.hid ((HNx.out.below hb6).more hb6.size)
    have HNa := Lib.hid ((HNa.out.below hb6).more hb6.size)
    have HNb := Lib.hid ((HNb.out.below hb6).more hb6.size)
    have HB := Lib.hid (keepBelow hb6 HB.out)
    clear hO6 hN6 hb6 HU1
    have HIs := Lib.hid (HIs.out b1 o1 c1)
    go_upto_region 8 with (fail)
    have HNc : Hid (Nums .u8 W6.drew W6.drew.heap.size a4 la) := HNc.out
    have HNz : Hid (Nums .u8 W6.drew W6.drew.heap.size a3 D) := HNz.out
    have HNx : Hid (Nums .u8 W6.drew W6.drew.heap.size (some ⟨b1, o1, none⟩) X) := HNx.out
    have HNa : Hid (Nums .u8 W6.drew W6.drew.heap.size A la) := HNa.out
    have HNb : Hid (Nums .u8 W6.drew W6.drew.heap.size B lb) := HNb.out
    have HB : Hid (Below w.heap.size w W6.drew) := ⟨HB.out.os, HB.out.tape, HB.out.output, HB.out.size, HB.out.block⟩
    refine held_start (by kernel_rfl) ?_
    refine wpAnyH_take (i := 0) (oi := { dst := some 50, op := Go.Op.move (Go.Operand.tmp 6), type := 24, pos := "law.go:29", after := #[], guard := none }) (v := ?_) rfl (by kernel_rfl) (by kernel_rfl) (by kernel_rfl) (fun _ _ _ h => h) (Or.inl ⟨by rfl, ?_⟩) (Kp.refl _) ?_
    rotate_left 1
    · intro w5 hSw
      go_simp; all_goals (with_reducible rfl)
    try simp only [Act.put, List.setIfInBounds_toArray, List.set_cons_zero, List.set_cons_succ]
    refine wpAnyH_take (i := 2) (oi := { dst := some 52, op := Go.Op.move (Go.Operand.tmp 8), type := 24, pos := "law.go:29", after := #[], guard := none }) (v := ?_) rfl (by kernel_rfl) (by kernel_rfl) (by kernel_rfl) (fun _ _ _ h => h) (Or.inl ⟨by rfl, ?_⟩) (Kp.refl _) ?_
    rotate_left 1
    · intro w5 hSw
      go_simp; all_goals (with_reducible rfl)
    try simp only [Act.put, List.setIfInBounds_toArray, List.set_cons_zero, List.set_cons_succ]
    refine wpAnyH_take (i := 5) (oi := { dst := some 55, op := Go.Op.move (Go.Operand.tmp 11), type := 24, pos := "law.go:29", after := #[], guard := none }) (v := ?_) rfl (by kernel_rfl) (by kernel_rfl) (by kernel_rfl) (fun _ _ _ h => h) (Or.inl ⟨by rfl, ?_⟩) (Kp.refl _) ?_
    rotate_left 1
    · intro w5 hSw
      go_simp; all_goals (with_reducible rfl)
    try simp only [Act.put, List.setIfInBounds_toArray, List.set_cons_zero, List.set_cons_succ]
    refine wpAnyH_take (i := 8) (oi := { dst := some 58, op := Go.Op.move (Go.Operand.tmp 13), type := 24, pos := "law.go:29", after := #[], guard := none }) (v := ?_) rfl (by kernel_rfl) (by kernel_rfl) (by kernel_rfl) (fun _ _ _ h => h) (Or.inl ⟨by rfl, ?_⟩) (Kp.refl _) ?_
    rotate_left 1
    · intro w5 hSw
      go_simp; all_goals (with_reducible rfl)
    try simp only [Act.put, List.setIfInBounds_toArray, List.set_cons_zero, List.set_cons_succ]
    refine wpAnyH_ready (rs := [1]) (by kernel_rfl) (by simp) ?_
    refine AllReadyH.cons (o := { dst := some 51, op := Go.Op.call { callee := Go.Callee.value (Go.Operand.func 8), args := #[Go.Operand.tmp 50], argTypes := #[24] }, type := 3, pos := "law.go:29", after := #[{ on := 0, ground := Go.Ground.data }], guard := none }) rfl (fun K hK => ?_) AllReadyH.nil
    go_simp
    refine (Hcode.out _ _).mono ?_; rintro e Y ⟨rfl, rfl⟩
    go_wp2_with fail
    refine hK.out _ _ (Below.refl _ _) (fun _ => held_more (Below.refl _ _) ?_)
    clear hK K
    try simp only [Act.put, List.setIfInBounds_toArray, List.set_cons_zero, List.set_cons_succ]
    refine wpAnyH_ready (rs := [3]) (by kernel_rfl) (by simp) ?_
    refine AllReadyH.cons (o := { dst := some 53, op := Go.Op.call { callee := Go.Callee.value (Go.Operand.func 8), args := #[Go.Operand.tmp 52], argTypes := #[24] }, type := 3, pos := "law.go:29", after := #[{ on := 2, ground := Go.Ground.data }, { on := 1, ground := Go.Ground.chain }], guard := none }) rfl (fun K hK => ?_) AllReadyH.nil
    go_simp
    refine (Hcode.out _ _).mono ?_; rintro e Y ⟨rfl, rfl⟩
    go_wp2_with fail
    refine hK.out _ _ (Below.refl _ _) (fun _ => held_more (Below.refl _ _) ?_)
    clear hK K
    try simp only [Act.put, List.setIfInBounds_toArray, List.set_cons_zero, List.set_cons_succ]
    refine wpAnyH_take (i := 4) (oi := { dst := some 54, op := Go.Op.binOp Go.BinOp.add 3 (Go.Operand.tmp 51) (Go.Operand.tmp 53) 3, type := 3, pos := "law.go:29", after := #[{ on := 1, ground := Go.Ground.data }, { on := 3, ground := Go.Ground.data }], guard := none }) (v := ?_) rfl (by kernel_rfl) (by kernel_rfl) (by kernel_rfl) (fun _ _ _ h => h) (Or.inl ⟨by rfl, ?_⟩) (Kp.refl _) ?_
    rotate_left 1
    · intro w5 hSw
      go_simp; all_goals (with_reducible rfl)
    try simp only [Act.put, List.setIfInBounds_toArray, List.set_cons_zero, List.set_cons_succ]
    refine wpAnyH_ready (rs := [6]) (by kernel_rfl) (by simp) ?_
    refine AllReadyH.cons (o := { dst := some 56, op := Go.Op.call { callee := Go.Callee.value (Go.Operand.func 8), args := #[Go.Operand.tmp 55], argTypes := #[24] }, type := 3, pos := "law.go:29", after := #[{ on := 5, ground := Go.Ground.data }, { on := 3, ground := Go.Ground.chain }], guard := none }) rfl (fun K hK => ?_) AllReadyH.nil
    go_simp
    refine (Hcode.out _ _).mono ?_; rintro e Y ⟨rfl, rfl⟩
    go_wp2_with fail
    refine hK.out _ _ (Below.refl _ _) (fun _ => held_more (Below.refl _ _) ?_)
    clear hK K
    try simp only [Act.put, List.setIfInBounds_toArray, List.set_cons_zero, List.set_cons_succ]
    refine wpAnyH_take (i := 7) (oi := { dst := some 57, op := Go.Op.binOp Go.BinOp.add 3 (Go.Operand.tmp 54) (Go.Operand.tmp 56) 3, type := 3, pos := "law.go:29", after := #[{ on := 4, ground := Go.Ground.data }, { on := 6, ground := Go.Ground.data }], guard := none }) (v := ?_) rfl (by kernel_rfl) (by kernel_rfl) (by kernel_rfl) (fun _ _ _ h => h) (Or.inl ⟨by rfl, ?_⟩) (Kp.refl _) ?_
    rotate_left 1
    · intro w5 hSw
      go_simp; all_goals (with_reducible rfl)
    try simp only [Act.put, List.setIfInBounds_toArray, List.set_cons_zero, List.set_cons_succ]
    refine wpAnyH_ready (rs := [9]) (by kernel_rfl) (by simp) ?_
    refine AllReadyH.cons (o := { dst := some 59, op := Go.Op.call { callee := Go.Callee.value (Go.Operand.func 8), args := #[Go.Operand.tmp 58], argTypes := #[24] }, type := 3, pos := "law.go:29", after := #[{ on := 8, ground := Go.Ground.data }, { on := 6, ground := Go.Ground.chain }], guard := none }) rfl (fun K hK => ?_) AllReadyH.nil
    go_simp
    refine (Hcode.out _ _).mono ?_; rintro e Y ⟨rfl, rfl⟩
    go_wp2_with fail
    refine hK.out _ _ (Below.refl _ _) (fun _ => held_more (Below.refl _ _) ?_)
    clear hK K
    try simp only [Act.put, List.setIfInBounds_toArray, List.set_cons_zero, List.set_cons_succ]
    refine wpAnyH_take (i := 10) (oi := { dst := some 60, op := Go.Op.binOp Go.BinOp.add 3 (Go.Operand.tmp 57) (Go.Operand.tmp 59) 3, type := 3, pos := "law.go:29", after := #[{ on := 7, ground := Go.Ground.data }, { on := 9, ground := Go.Ground.data }], guard := none }) (v := ?_) rfl (by kernel_rfl) (by kernel_rfl) (by kernel_rfl) (fun _ _ _ h => h) (Or.inl ⟨by rfl, ?_⟩) (Kp.refl _) ?_
    rotate_left 1
    · intro w5 hSw
      go_simp; all_goals (with_reducible rfl)
    try simp only [Act.put, List.setIfInBounds_toArray, List.set_cons_zero, List.set_cons_succ]
    refine wpAnyH_take (i := 11) (oi := { dst := some 61, op := Go.Op.binOp Go.BinOp.eql 3 (Go.Operand.tmp 60) (Go.Operand.const (Go.Value.int Go.IntKind.i64 0)) 3, type := 4, pos := "law.go:29", after := #[{ on := 10, ground := Go.Ground.data }], guard := none }) (v := ?_) rfl (by kernel_rfl) (by kernel_rfl) (by kernel_rfl) (fun _ _ _ h => h) (Or.inl ⟨by rfl, ?_⟩) (Kp.refl _) ?_
    rotate_left 1
    · intro w5 hSw
      go_simp; all_goals (with_reducible rfl)
    try simp only [Act.put, List.setIfInBounds_toArray, List.set_cons_zero, List.set_cons_succ]
    refine wpAnyH_take (i := 12) (oi := { dst := some 62, op := Go.Op.move (Go.Operand.tmp 61), type := 4, pos := "law.go:29", after := #[{ on := 11, ground := Go.Ground.data }, { on := 9, ground := Go.Ground.chain }], guard := none }) (v := ?_) rfl (by kernel_rfl) (by kernel_rfl) (by kernel_rfl) (fun _ _ _ h => h) (Or.inl ⟨by rfl, ?_⟩) (Kp.refl _) ?_
    rotate_left 1
    · intro w5 hSw
      go_simp; all_goals (with_reducible rfl)
    try simp only [Act.put, List.setIfInBounds_toArray, List.set_cons_zero, List.set_cons_succ]
    refine wpAnyH_take (i := 13) (oi := { dst := some 63, op := Go.Op.move (Go.Operand.tmp 5), type := 22, pos := "law.go:29", after := #[{ on := 12, ground := Go.Ground.guard }], guard := some (12, true) }) (v := ?_) rfl (by kernel_rfl) (by kernel_rfl) (by kernel_rfl) (fun _ _ _ h => h) (Or.inl ⟨by rfl, ?_⟩) (Kp.refl _) ?_
    rotate_left 1
    · intro w5 hSw
      go_simp; all_goals (with_reducible rfl)
    try simp only [Act.put, List.setIfInBounds_toArray, List.set_cons_zero, List.set_cons_succ]
    refine wpAnyH_take (i := 14) (oi := { dst := some 64, op := Go.Op.convert 22 9 (Go.Operand.tmp 63), type := 9, pos := "law.go:29", after := #[{ on := 13, ground := Go.Ground.data }, { on := 12, ground := Go.Ground.guard }], guard := some (12, true) }) (v := ?_) rfl (by kernel_rfl) (by kernel_rfl) (by kernel_rfl) (fun _ _ _ h => h) (Or.inl ⟨by rfl, ?_⟩) (Kp.refl _) ?_
    rotate_left 1
    · intro w5 hSw
      have hs := str_of_nums (P := Try.prog) w5 _ 22 9 5 (some ⟨b1, o1, none⟩) c1 X Try.underlying22 Try.underlying5 Try.underlying9 (HNx.out.below hSw) HXlt.out
      go_simp; all_goals (with_reducible rfl)
    try simp only [Act.put, List.setIfInBounds_toArray, List.set_cons_zero, List.set_cons_succ]
    refine wpAnyH_take (i := 15) (oi := { dst := some 65, op := Go.Op.move (Go.Operand.tmp 0), type := 22, pos := "law.go:29", after := #[{ on := 12, ground := Go.Ground.guard }], guard := some (12, true) }) (v := ?_) rfl (by kernel_rfl) (by kernel_rfl) (by kernel_rfl) (fun _ _ _ h => h) (Or.inl ⟨by rfl, ?_⟩) (Kp.refl _) ?_
    rotate_left 1
    · intro w5 hSw
      go_simp; all_goals (with_reducible rfl)
    try simp only [Act.put, List.setIfInBounds_toArray, List.set_cons_zero, List.set_cons_succ]
    refine wpAnyH_ready (rs := [16]) (by kernel_rfl) (by simp) ?_
    refine AllReadyH.cons (o := { dst := some 66, op := Go.Op.call { callee := Go.Callee.value (Go.Operand.func 9), args := #[Go.Operand.tmp 65], argTypes := #[22] }, type := 22, pos := "law.go:29", after := #[{ on := 15, ground := Go.Ground.data }, { on := 12, ground := Go.Ground.chain }, { on := 12, ground := Go.Ground.guard }], guard := some (12, true) }) rfl (fun K hK => ?_) AllReadyH.nil
    go_simp
    refine (HRW.out _ HB.out).mono ?_; rintro e Y1 ⟨a5, c5, rfl, hN5, hb⟩; have HN5 := Lib.hid hN5; have HNx := Lib.hid ((HNx.out.below hb).more hb.size); have HNz := Lib.hid ((HNz.out.below hb).more hb.size); have HNa := Lib.hid ((HNa.out.below hb).more hb.size); have HNb := Lib.hid ((HNb.out.below hb).more hb.size); have HNc := Lib.hid ((HNc.out.below hb).more hb.size); have HB := Lib.hid (keepBelow hb HB.out); have HK1 := Lib.hid hb; clear hb hN5
    go_wp2_with fail
    refine hK.out _ _ (HK1.out) (fun _ => held_more (HK1.out) ?_)
    clear hK K
    try simp only [Act.put, List.setIfInBounds_toArray, List.set_cons_zero, List.set_cons_succ]
    refine wpAnyH_take (i := 17) (oi := { dst := some 67, op := Go.Op.convert 22 9 (Go.Operand.tmp 66), type := 9, pos := "law.go:29", after := #[{ on := 16, ground := Go.Ground.data }, { on := 12, ground := Go.Ground.guard }], guard := some (12, true) }) (v := ?_) rfl (by kernel_rfl) (by kernel_rfl) (by kernel_rfl) (fun _ _ _ h => h) (Or.inl ⟨by rfl, ?_⟩) (Kp.refl _) ?_
    rotate_left 1
    · intro w5 hSw
      have hs := str_of_nums (P := Try.prog) w5 _ 22 9 5 a5 c5 X Try.underlying22 Try.underlying5 Try.underlying9 (HN5.out.below hSw) HXlt.out
      go_simp; all_goals (with_reducible rfl)
    try simp only [Act.put, List.setIfInBounds_toArray, List.set_cons_zero, List.set_cons_succ]
    refine wpAnyH_take (i := 18) (oi := { dst := some 68, op := Go.Op.binOp Go.BinOp.eql 9 (Go.Operand.tmp 64) (Go.Operand.tmp 67) 9, type := 4, pos := "law.go:29", after := #[{ on := 14, ground := Go.Ground.data }, { on := 17, ground := Go.Ground.data }, { on := 12, ground := Go.Ground.guard }], guard := some (12, true) }) (v := ?_) rfl (by kernel_rfl) (by kernel_rfl) (by kernel_rfl) (fun _ _ _ h => h) (Or.inl ⟨by rfl, ?_⟩) (Kp.refl _) ?_
    rotate_left 1
    · intro w5 hSw
      go_simp; all_goals (with_reducible rfl)
    try simp only [Act.put, List.setIfInBounds_toArray, List.set_cons_zero, List.set_cons_succ]
    refine wpAnyH_take (i := 19) (oi := { dst := some 69, op := Go.Op.pick (Go.Operand.tmp 62) (Go.Operand.tmp 68) (Go.Operand.const (Go.Value.bool false)), type := 4, pos := "law.go:29", after := #[{ on := 12, ground := Go.Ground.data }, { on := 18, ground := Go.Ground.data }], guard := none }) (v := ?_) rfl (by kernel_rfl) (by kernel_rfl) (by kernel_rfl) (fun _ _ _ h => h) (Or.inl ⟨by rfl, ?_⟩) (Kp.refl _) ?_
    rotate_left 1
    · intro w5 hSw
      go_simp; all_goals (with_reducible rfl)
    try simp only [Act.put, List.setIfInBounds_toArray, List.set_cons_zero, List.set_cons_succ]
    refine wpAnyH_take (i := 20) (oi := { dst := some 70, op := Go.Op.move (Go.Operand.tmp 69), type := 4, pos := "law.go:29", after := #[{ on := 19, ground := Go.Ground.data }, { on := 16, ground := Go.Ground.chain }], guard := none }) (v := ?_) rfl (by kernel_rfl) (by kernel_rfl) (by kernel_rfl) (fun _ _ _ h => h) (Or.inl ⟨by rfl, ?_⟩) (Kp.refl _) ?_
    rotate_left 1
    · intro w5 hSw
      go_simp; all_goals (with_reducible rfl)
    try simp only [Act.put, List.setIfInBounds_toArray, List.set_cons_zero, List.set_cons_succ]
    refine wpAnyH_take (i := 21) (oi := { dst := some 71, op := Go.Op.move (Go.Operand.tmp 10), type := 22, pos := "law.go:29", after := #[{ on := 20, ground := Go.Ground.guard }], guard := some (20, true) }) (v := ?_) rfl (by kernel_rfl) (by kernel_rfl) (by kernel_rfl) (fun _ _ _ h => h) (Or.inl ⟨by rfl, ?_⟩) (Kp.refl _) ?_
    rotate_left 1
    · intro w5 hSw
      go_simp; all_goals (with_reducible rfl)
    try simp only [Act.put, List.setIfInBounds_toArray, List.set_cons_zero, List.set_cons_succ]
    refine wpAnyH_take (i := 22) (oi := { dst := some 72, op := Go.Op.convert 22 9 (Go.Operand.tmp 71), type := 9, pos := "law.go:29", after := #[{ on := 21, ground := Go.Ground.data }, { on := 20, ground := Go.Ground.guard }], guard := some (20, true) }) (v := ?_) rfl (by kernel_rfl) (by kernel_rfl) (by kernel_rfl) (fun _ _ _ h => h) (Or.inl ⟨by rfl, ?_⟩) (Kp.refl _) ?_
    rotate_left 1
    · intro w5 hSw
      have hs := str_of_nums (P := Try.prog) w5 _ 22 9 5 a3 c3 D Try.underlying22 Try.underlying5 Try.underlying9 (HNz.out.below hSw) HZlt.out
      go_simp; all_goals (with_reducible rfl)
    try simp only [Act.put, List.setIfInBounds_toArray, List.set_cons_zero, List.set_cons_succ]
    refine wpAnyH_take (i := 23) (oi := { dst := some 73, op := Go.Op.move (Go.Operand.tmp 0), type := 22, pos := "law.go:29", after := #[{ on := 20, ground := Go.Ground.guard }], guard := some (20, true) }) (v := ?_) rfl (by kernel_rfl) (by kernel_rfl) (by kernel_rfl) (fun _ _ _ h => h) (Or.inl ⟨by rfl, ?_⟩) (Kp.refl _) ?_
    rotate_left 1
    · intro w5 hSw
      go_simp; all_goals (with_reducible rfl)
    try simp only [Act.put, List.setIfInBounds_toArray, List.set_cons_zero, List.set_cons_succ]
    refine wpAnyH_take (i := 24) (oi := { dst := some 74, op := Go.Op.convert 22 9 (Go.Operand.tmp 73), type := 9, pos := "law.go:29", after := #[{ on := 23, ground := Go.Ground.data }, { on := 20, ground := Go.Ground.guard }], guard := some (20, true) }) (v := ?_) rfl (by kernel_rfl) (by kernel_rfl) (by kernel_rfl) (fun _ _ _ h => h) (Or.inl ⟨by rfl, ?_⟩) (Kp.refl _) ?_
    rotate_left 1
    · intro w5 hSw
      have hs := str_of_nums (P := Try.prog) w5 _ 22 9 5 A ca la Try.underlying22 Try.underlying5 Try.underlying9 (HNa.out.below hSw) HAlt.out
      go_simp; all_goals (with_reducible rfl)
    try simp only [Act.put, List.setIfInBounds_toArray, List.set_cons_zero, List.set_cons_succ]
    refine wpAnyH_take (i := 25) (oi := { dst := some 75, op := Go.Op.move (Go.Operand.tmp 1), type := 22, pos := "law.go:29", after := #[{ on := 20, ground := Go.Ground.guard }], guard := some (20, true) }) (v := ?_) rfl (by kernel_rfl) (by kernel_rfl) (by kernel_rfl) (fun _ _ _ h => h) (Or.inl ⟨by rfl, ?_⟩) (Kp.refl _) ?_
    rotate_left 1
    · intro w5 hSw
      go_simp; all_goals (with_reducible rfl)
    try simp only [Act.put, List.setIfInBounds_toArray, List.set_cons_zero, List.set_cons_succ]
    refine wpAnyH_take (i := 26) (oi := { dst := some 76, op := Go.Op.convert 22 9 (Go.Operand.tmp 75), type := 9, pos := "law.go:29", after := #[{ on := 25, ground := Go.Ground.data }, { on := 20, ground := Go.Ground.guard }], guard := some (20, true) }) (v := ?_) rfl (by kernel_rfl) (by kernel_rfl) (by kernel_rfl) (fun _ _ _ h => h) (Or.inl ⟨by rfl, ?_⟩) (Kp.refl _) ?_
    rotate_left 1
    · intro w5 hSw
      have hs := str_of_nums (P := Try.prog) w5 _ 22 9 5 B cb lb Try.underlying22 Try.underlying5 Try.underlying9 (HNb.out.below hSw) HBlt.out
      go_simp; all_goals (with_reducible rfl)
    try simp only [Act.put, List.setIfInBounds_toArray, List.set_cons_zero, List.set_cons_succ]
    refine wpAnyH_take (i := 27) (oi := { dst := some 77, op := Go.Op.binOp Go.BinOp.add 9 (Go.Operand.tmp 74) (Go.Operand.tmp 76) 9, type := 9, pos := "law.go:29", after := #[{ on := 24, ground := Go.Ground.data }, { on := 26, ground := Go.Ground.data }, { on := 20, ground := Go.Ground.guard }], guard := some (20, true) }) (v := ?_) rfl (by kernel_rfl) (by kernel_rfl) (by kernel_rfl) (fun _ _ _ h => h) (Or.inl ⟨by rfl, ?_⟩) (Kp.refl _) ?_
    rotate_left 1
    · intro w5 hSw
      have hs := add_run (strOf la) (strOf lb) HSa.out HSb.out
      rw [strOf_cat, HD.out] at hs
      go_simp; all_goals (with_reducible rfl)
    try simp only [Act.put, List.setIfInBounds_toArray, List.set_cons_zero, List.set_cons_succ]
    refine wpAnyH_take (i := 28) (oi := { dst := some 78, op := Go.Op.binOp Go.BinOp.eql 9 (Go.Operand.tmp 72) (Go.Operand.tmp 77) 9, type := 4, pos := "law.go:29", after := #[{ on := 22, ground := Go.Ground.data }, { on := 27, ground := Go.Ground.data }, { on := 20, ground := Go.Ground.guard }], guard := some (20, true) }) (v := ?_) rfl (by kernel_rfl) (by kernel_rfl) (by kernel_rfl) (fun _ _ _ h => h) (Or.inl ⟨by rfl, ?_⟩) (Kp.refl _) ?_
    rotate_left 1
    · intro w5 hSw
      go_simp; all_goals (with_reducible rfl)
    try simp only [Act.put, List.setIfInBounds_toArray, List.set_cons_zero, List.set_cons_succ]
    refine wpAnyH_take (i := 29) (oi := { dst := some 79, op := Go.Op.pick (Go.Operand.tmp 70) (Go.Operand.tmp 78) (Go.Operand.const (Go.Value.bool false)), type := 4, pos := "law.go:29", after := #[{ on := 20, ground := Go.Ground.data }, { on := 28, ground := Go.Ground.data }], guard := none }) (v := ?_) rfl (by kernel_rfl) (by kernel_rfl) (by kernel_rfl) (fun _ _ _ h => h) (Or.inl ⟨by rfl, ?_⟩) (Kp.refl _) ?_
    rotate_left 1
    · intro w5 hSw
      go_simp; all_goals (with_reducible rfl)
    try simp only [Act.put, List.setIfInBounds_toArray, List.set_cons_zero, List.set_cons_succ]
    refine wpAnyH_take (i := 30) (oi := { dst := some 80, op := Go.Op.move (Go.Operand.tmp 79), type := 4, pos := "law.go:29", after := #[{ on := 29, ground := Go.Ground.data }, { on := 20, ground := Go.Ground.chain }], guard := none }) (v := ?_) rfl (by kernel_rfl) (by kernel_rfl) (by kernel_rfl) (fun _ _ _ h => h) (Or.inl ⟨by rfl, ?_⟩) (Kp.refl _) ?_
    rotate_left 1
    · intro w5 hSw
      go_simp; all_goals (with_reducible rfl)
    try simp only [Act.put, List.setIfInBounds_toArray, List.set_cons_zero, List.set_cons_succ]
    refine wpAnyH_take (i := 31) (oi := { dst := some 81, op := Go.Op.move (Go.Operand.tmp 12), type := 22, pos := "law.go:29", after := #[{ on := 30, ground := Go.Ground.guard }], guard := some (30, true) }) (v := ?_) rfl (by kernel_rfl) (by kernel_rfl) (by kernel_rfl) (fun _ _ _ h => h) (Or.inl ⟨by rfl, ?_⟩) (Kp.refl _) ?_
    rotate_left 1
    · intro w5 hSw
      go_simp; all_goals (with_reducible rfl)
    try simp only [Act.put, List.setIfInBounds_toArray, List.set_cons_zero, List.set_cons_succ]
    refine wpAnyH_take (i := 32) (oi := { dst := some 82, op := Go.Op.convert 22 9 (Go.Operand.tmp 81), type := 9, pos := "law.go:29", after := #[{ on := 31, ground := Go.Ground.data }, { on := 30, ground := Go.Ground.guard }], guard := some (30, true) }) (v := ?_) rfl (by kernel_rfl) (by kernel_rfl) (by kernel_rfl) (fun _ _ _ h => h) (Or.inl ⟨by rfl, ?_⟩) (Kp.refl _) ?_
    rotate_left 1
    · intro w5 hSw
      have hs := str_of_nums (P := Try.prog) w5 _ 22 9 5 a4 c4 la Try.underlying22 Try.underlying5 Try.underlying9 (HNc.out.below hSw) HAlt.out
      go_simp; all_goals (with_reducible rfl)
    try simp only [Act.put, List.setIfInBounds_toArray, List.set_cons_zero, List.set_cons_succ]
    refine wpAnyH_take (i := 33) (oi := { dst := some 83, op := Go.Op.move (Go.Operand.tmp 0), type := 22, pos := "law.go:29", after := #[{ on := 30, ground := Go.Ground.guard }], guard := some (30, true) }) (v := ?_) rfl (by kernel_rfl) (by kernel_rfl) (by kernel_rfl) (fun _ _ _ h => h) (Or.inl ⟨by rfl, ?_⟩) (Kp.refl _) ?_
    rotate_left 1
    · intro w5 hSw
      go_simp; all_goals (with_reducible rfl)
    try simp only [Act.put, List.setIfInBounds_toArray, List.set_cons_zero, List.set_cons_succ]
    refine wpAnyH_take (i := 34) (oi := { dst := some 84, op := Go.Op.convert 22 9 (Go.Operand.tmp 83), type := 9, pos := "law.go:29", after := #[{ on := 33, ground := Go.Ground.data }, { on := 30, ground := Go.Ground.guard }], guard := some (30, true) }) (v := ?_) rfl (by kernel_rfl) (by kernel_rfl) (by kernel_rfl) (fun _ _ _ h => h) (Or.inl ⟨by rfl, ?_⟩) (Kp.refl _) ?_
    rotate_left 1
    · intro w5 hSw
      have hs := str_of_nums (P := Try.prog) w5 _ 22 9 5 A ca la Try.underlying22 Try.underlying5 Try.underlying9 (HNa.out.below hSw) HAlt.out
      go_simp; all_goals (with_reducible rfl)
    try simp only [Act.put, List.setIfInBounds_toArray, List.set_cons_zero, List.set_cons_succ]
    refine wpAnyH_take (i := 35) (oi := { dst := some 85, op := Go.Op.binOp Go.BinOp.eql 9 (Go.Operand.tmp 82) (Go.Operand.tmp 84) 9, type := 4, pos := "law.go:29", after := #[{ on := 32, ground := Go.Ground.data }, { on := 34, ground := Go.Ground.data }, { on := 30, ground := Go.Ground.guard }], guard := some (30, true) }) (v := ?_) rfl (by kernel_rfl) (by kernel_rfl) (by kernel_rfl) (fun _ _ _ h => h) (Or.inl ⟨by rfl, ?_⟩) (Kp.refl _) ?_
    rotate_left 1
    · intro w5 hSw
      go_simp; all_goals (with_reducible rfl)
    try simp only [Act.put, List.setIfInBounds_toArray, List.set_cons_zero, List.set_cons_succ]
    refine wpAnyH_take (i := 36) (oi := { dst := some 86, op := Go.Op.pick (Go.Operand.tmp 80) (Go.Operand.tmp 85) (Go.Operand.const (Go.Value.bool false)), type := 4, pos := "law.go:29", after := #[{ on := 30, ground := Go.Ground.data }, { on := 35, ground := Go.Ground.data }], guard := none }) (v := ?_) rfl (by kernel_rfl) (by kernel_rfl) (by kernel_rfl) (fun _ _ _ h => h) (Or.inl ⟨by rfl, ?_⟩) (Kp.refl _) ?_
    rotate_left 1
    · intro w5 hSw
      go_simp; all_goals (with_reducible rfl)
    try simp only [Act.put, List.setIfInBounds_toArray, List.set_cons_zero, List.set_cons_succ]
    refine wpAnyH_take (i := 37) (oi := { dst := some 87, op := Go.Op.move (Go.Operand.tmp 86), type := 4, pos := "law.go:29", after := #[{ on := 36, ground := Go.Ground.data }, { on := 30, ground := Go.Ground.chain }], guard := none }) (v := ?_) rfl (by kernel_rfl) (by kernel_rfl) (by kernel_rfl) (fun _ _ _ h => h) (Or.inl ⟨by rfl, ?_⟩) (Kp.refl _) ?_
    rotate_left 1
    · intro w5 hSw
      go_simp; all_goals (with_reducible rfl)
    try simp only [Act.put, List.setIfInBounds_toArray, List.set_cons_zero, List.set_cons_succ]
    refine wpAnyH_take (i := 38) (oi := { dst := some 88, op := Go.Op.move (Go.Operand.tmp 5), type := 22, pos := "law.go:29", after := #[{ on := 37, ground := Go.Ground.guard }], guard := some (37, true) }) (v := ?_) rfl (by kernel_rfl) (by kernel_rfl) (by kernel_rfl) (fun _ _ _ h => h) (Or.inl ⟨by rfl, ?_⟩) (Kp.refl _) ?_
    rotate_left 1
    · intro w5 hSw
      go_simp; all_goals (with_reducible rfl)
    try simp only [Act.put, List.setIfInBounds_toArray, List.set_cons_zero, List.set_cons_succ]
    refine wpAnyH_ready (rs := [39]) (by kernel_rfl) (by simp) ?_
    refine AllReadyH.cons (o := { dst := some 89, op := Go.Op.call { callee := Go.Callee.value (Go.Operand.func 10), args := #[Go.Operand.tmp 88], argTypes := #[22] }, type := 4, pos := "law.go:29", after := #[{ on := 38, ground := Go.Ground.data }, { on := 37, ground := Go.Ground.chain }, { on := 37, ground := Go.Ground.guard }], guard := some (37, true) }) rfl (fun K hK => ?_) AllReadyH.nil
    go_simp
    refine (HIs.out _ HNx.out).mono ?_; rintro e Y ⟨rfl, rfl⟩
    go_wp2_with fail
    refine hK.out _ _ (Below.refl _ _) (fun _ => held_more (Below.refl _ _) ?_)
    clear hK K
    try simp only [Act.put, List.setIfInBounds_toArray, List.set_cons_zero, List.set_cons_succ]
    refine wpAnyH_take (i := 40) (oi := { dst := some 90, op := Go.Op.pick (Go.Operand.tmp 87) (Go.Operand.tmp 89) (Go.Operand.const (Go.Value.bool false)), type := 4, pos := "law.go:29", after := #[{ on := 37, ground := Go.Ground.data }, { on := 39, ground := Go.Ground.data }], guard := none }) (v := ?_) rfl (by kernel_rfl) (by kernel_rfl) (by kernel_rfl) (fun _ _ _ h => h) (Or.inl ⟨by rfl, ?_⟩) (Kp.refl _) ?_
    rotate_left 1
    · intro w5 hSw
      go_simp; all_goals (with_reducible rfl)
    try simp only [Act.put, List.setIfInBounds_toArray, List.set_cons_zero, List.set_cons_succ]
    refine wpAnyH_take (i := 41) (oi := { dst := some 91, op := Go.Op.move (Go.Operand.tmp 90), type := 4, pos := "law.go:29", after := #[{ on := 40, ground := Go.Ground.data }, { on := 39, ground := Go.Ground.chain }], guard := none }) (v := ?_) rfl (by kernel_rfl) (by kernel_rfl) (by kernel_rfl) (fun _ _ _ h => h) (Or.inl ⟨by rfl, ?_⟩) (Kp.refl _) ?_
    rotate_left 1
    · intro w5 hSw
      go_simp; all_goals (with_reducible rfl)
    try simp only [Act.put, List.setIfInBounds_toArray, List.set_cons_zero, List.set_cons_succ]
    refine wpAnyH_ready (rs := [42]) (by kernel_rfl) (by simp) ?_
    refine AllReadyH.cons (o := { dst := some 92, op := Go.Op.call { callee := Go.Callee.value (Go.Operand.func 5), args := #[], argTypes := #[] }, type := 4, pos := "law.go:29", after := #[{ on := 41, ground := Go.Ground.chain }, { on := 41, ground := Go.Ground.guard }], guard := some (41, true) }) rfl (fun K hK => ?_) AllReadyH.nil
    go_simp
    refine (HL.out _).mono ?_; rintro e Y9 ⟨rfl, hb⟩; have HF := Lib.hid (keepBelow hb HB.out); have HK9 := Lib.hid hb; clear hb
    go_wp2_with fail
    refine hK.out _ _ (HK9.out) (fun _ => held_more (HK9.out) ?_)
    clear hK K
    try simp only [Act.put, List.setIfInBounds_toArray, List.set_cons_zero, List.set_cons_succ]
    refine wpAnyH_take (i := 43) (oi := { dst := some 93, op := Go.Op.pick (Go.Operand.tmp 91) (Go.Operand.tmp 92) (Go.Operand.const (Go.Value.bool false)), type := 4, pos := "law.go:29", after := #[{ on := 41, ground := Go.Ground.data }, { on := 42, ground := Go.Ground.data }], guard := none }) (v := ?_) rfl (by kernel_rfl) (by kernel_rfl) (by kernel_rfl) (fun _ _ _ h => h) (Or.inl ⟨by rfl, ?_⟩) (Kp.refl _) ?_
    rotate_left 1
    · intro w5 hSw
      go_simp; all_goals (with_reducible rfl)
    try simp only [Act.put, List.setIfInBounds_toArray, List.set_cons_zero, List.set_cons_succ]
    refine wpAnyH_take (i := 44) (oi := { dst := some 4, op := Go.Op.assign (Go.Operand.tmp 93), type := 4, pos := "law.go:29", after := #[{ on := 43, ground := Go.Ground.data }, { on := 42, ground := Go.Ground.chain }, { on := 0, ground := Go.Ground.phase }, { on := 1, ground := Go.Ground.phase }, { on := 2, ground := Go.Ground.phase }, { on := 3, ground := Go.Ground.phase }, { on := 4, ground := Go.Ground.phase }, { on := 5, ground := Go.Ground.phase }, { on := 6, ground := Go.Ground.phase }, { on := 7, ground := Go.Ground.phase }, { on := 8, ground := Go.Ground.phase }, { on := 9, ground := Go.Ground.phase }, { on := 10, ground := Go.Ground.phase }, { on := 11, ground := Go.Ground.phase }, { on := 12, ground := Go.Ground.phase }, { on := 13, ground := Go.Ground.phase }, { on := 14, ground := Go.Ground.phase }, { on := 15, ground := Go.Ground.phase }, { on := 16, ground := Go.Ground.phase }, { on := 17, ground := Go.Ground.phase }, { on := 18, ground := Go.Ground.phase }, { on := 19, ground := Go.Ground.phase }, { on := 20, ground := Go.Ground.phase }, { on := 21, ground := Go.Ground.phase }, { on := 22, ground := Go.Ground.phase }, { on := 23, ground := Go.Ground.phase }, { on := 24, ground := Go.Ground.phase }, { on := 25, ground := Go.Ground.phase }, { on := 26, ground := Go.Ground.phase }, { on := 27, ground := Go.Ground.phase }, { on := 28, ground := Go.Ground.phase }, { on := 29, ground := Go.Ground.phase }, { on := 30, ground := Go.Ground.phase }, { on := 31, ground := Go.Ground.phase }, { on := 32, ground := Go.Ground.phase }, { on := 33, ground := Go.Ground.phase }, { on := 34, ground := Go.Ground.phase }, { on := 35, ground := Go.Ground.phase }, { on := 36, ground := Go.Ground.phase }, { on := 37, ground := Go.Ground.phase }, { on := 38, ground := Go.Ground.phase }, { on := 39, ground := Go.Ground.phase }, { on := 40, ground := Go.Ground.phase }, { on := 41, ground := Go.Ground.phase }, { on := 42, ground := Go.Ground.phase }, { on := 43, ground := Go.Ground.phase }], guard := none }) (v := ?_) rfl (by kernel_rfl) (by kernel_rfl) (by kernel_rfl) (fun _ _ _ h => h) (Or.inl ⟨by rfl, ?_⟩) (Kp.refl _) ?_
    rotate_left 1
    · intro w5 hSw
      go_simp; all_goals (with_reducible rfl)
    try simp only [Act.put, List.setIfInBounds_toArray, List.set_cons_zero, List.set_cons_succ]
    refine wpAnyH_done (by kernel_rfl) ?_ _
    go_wp2_with fail
    go_ret
    exact ⟨rfl, HF.out⟩
end Go.Proofs.Ytngnhkghpnamoaa
