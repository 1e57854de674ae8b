/- The statement OverSteps: the law's walk. -/
import Derived.Test.YtnajladngpphkaaOver6
import Derived.Test.YtnajladngpphkaaPathSame
namespace Go.Proofs.Ytnajladngpphkaa
open Go.RowKit
set_option linter.unusedVariables false
set_option maxRecDepth 100000

theorem tmod_nat (x p X : Nat) (hX : X = x % p) : ((x : Int)).tmod (p : Int) = (X : Int) := by rw [hX, Int.tmod_eq_emod_of_nonneg (by omega)]; exact (Int.natCast_emod x p).symm
theorem pos_ne (p : Nat) (h : 0 < p) : ((p : Int) == 0) = false := beq_eq_false_iff_ne.mpr (by omega)
theorem pos_ne2 (p : Nat) (h : 0 < p) : (p : Int) ≠ 0 := by omega
theorem sum_wrap (u m s : Nat) (hu : u < 8) (hm : m < 8) (hs : s = u + m) : IntKind.i64.wrap ((u : Int) + (m : Int)) = (s : Int) := by rw [IntWalk.i64_in _ ⟨by omega, by omega⟩]; omega
theorem i64_nat (x : Nat) (h : x < 4294967296) : IntKind.i64.wrap (x : Int) = (x : Int) := IntWalk.i64_in _ ⟨by omega, by omega⟩
theorem div_nat (X m q X1 : Nat) (hq : q = 2 ^ m) (h : X1 = X / q) : (X : Int) / (2 : Int) ^ m = (X1 : Int) := by
  have e : ((2 : Int) ^ m) = ((2 ^ m : Nat) : Int) := by rw [Int.natCast_pow]; rfl
  rw [e, ← hq, h]
  exact (Int.natCast_ediv X q).symm
theorem shl1i (k p : Nat) (h : k ≤ 30) (hp : p = 2 ^ k) : IntKind.i64.wrap ((2 : Int) ^ k) = (p : Int) := by
  have h1 := pow_le30 h
  have e : ((2 : Int) ^ k) = ((2 ^ k : Nat) : Int) := by rw [Int.natCast_pow]; rfl
  rw [e, ← hp]
  rw [← hp] at h1
  exact IntWalk.i64_in _ ⟨by omega, by omega⟩
/-- What the law's blocks hold. -/
structure LS (W : World) (s X Y u X1 Y1 m X2 Y2 : Nat) (B : Int) (g1 g2 g3 g5 : Nat) (v : Value) (l : List P2) : Prop where
  z1 : Whole W g1 25 #[.int .i64 (s : Int), .int .i64 (X : Int), .int .i64 (Y : Int), .int .i64 B]
  z2 : Whole W g2 25 #[.int .i64 (u : Int), .int .i64 (X1 : Int), .int .i64 (Y1 : Int), .int .i64 B]
  z3 : Whole W g3 25 #[.int .i64 (m : Int), .int .i64 (X2 : Int), .int .i64 (Y2 : Int), .int .i64 B]
  f : Whole W g5 30 #[.bool false, .int .u64 0, .int .i64 1, v, .slice none 0 0]
  v : RdPP W W.heap.size v [l]
theorem LS.below {W W' : World} {s X Y u X1 Y1 m X2 Y2 : Nat} {B : Int} {g1 g2 g3 g5 : Nat} {v : Value} {l : List P2} (h : LS W s X Y u X1 Y1 m X2 Y2 B g1 g2 g3 g5 v l) (hb : Below W.heap.size W W') : LS W' s X Y u X1 Y1 m X2 Y2 B g1 g2 g3 g5 v l :=
  ⟨h.z1.below hb h.z1.lt, h.z2.below hb h.z2.lt, h.z3.below hb h.z3.lt, h.f.below hb h.f.lt, (h.v.below hb).more hb.size⟩
theorem one_row {W : World} {B : Nat} {a : Option Addr} {c g : Nat} {l : List P2} (h : PAt W W.heap.size a l) (h1 : l.length ≤ c) (h2 : c ≤ maxLen) (hg : Whole W g B #[.slice a l.length c]) : RdPP W W.heap.size (.slice (some ⟨g, 0, none⟩) 1 1) [l] := by
  refine ⟨some ⟨g, 0, none⟩, 1, [.slice a l.length c], rfl, Nat.le_refl _, by unfold maxLen; omega, ⟨rfl, fun _ => ⟨g, 0, rfl, hg.lt, fun i hi => ?_⟩⟩, fun i hi => ?_⟩
  · have e : i = 0 := by have : i < 1 := hi; omega
    subst e
    exact hg.cell 0
  · have e : i = 0 := by have : i < 1 := hi; omega
    subst e
    exact ⟨_, rfl, a, c, rfl, h1, h2, h⟩
/-- What a step left, as the law keeps it. -/
def Got (W : World) (R : List P2) (t : Bool) (v : Value) : Prop := (R = [] ∧ t = false) ∨ (R ≠ [] ∧ t = true ∧ RdPP W W.heap.size v [R])
theorem Got.below {W W' : World} {R : List P2} {t : Bool} {v : Value} (h : Got W R t v) (hb : Below W.heap.size W W') : Got W' R t v := by
  rcases h with h | ⟨h1, h2, h3⟩
  · exact .inl h
  · exact .inr ⟨h1, h2, (h3.below hb).more hb.size⟩
theorem Got.made {W : World} {lo : Nat} {R : List P2} {ty : Int} {A : Option Addr} {n c : Nat} {t : Bool} (h : (R = [] ∧ ty = 0 ∧ A = none ∧ n = 0 ∧ c = 0 ∧ t = false) ∨ (R ≠ [] ∧ ty = 1 ∧ t = true ∧ PF W lo (.slice A n c) R)) : Got W R t (.slice A n c) := by
  rcases h with ⟨h1, _, _, _, _, h2⟩ | ⟨h1, _, h2, h3⟩
  · exact .inl ⟨h1, h2⟩
  · exact .inr ⟨h1, h2, h3.rd⟩
theorem alloc_past (W : World) (o : Obj) : Below W.heap.size W (W.alloc o) := (Below.refl _ _).alloc (Nat.le_refl _) o
theorem same_one (u v : Value) (R : List P2) (w : World) (hu : RdPP w w.heap.size u [R]) (hv : RdPP w w.heap.size v [R]) : Calls Try.prog 8 #[u, v] w fun e w' => e = .returned (.bool true) ∧ Below w.heap.size w w' := by
  have := refSame_any u v [R] [R] w hu hv
  rw [decide_eq_true rfl] at this
  exact this
set_option maxHeartbeats 16000000 in
theorem overSteps_walk (v : Value) (l : List P2) (A D x y : Nat) (E B : Int) (w : World) (hA : A < 256) (hD : D < 256) (hx : x < 4294967296) (hy : y < 4294967296) (hv : RdP w w.heap.size v l) :
    Calls Try.prog 3 #[v, .int .u8 (A : Int), .int .u8 (D : Int), .int .u32 (x : Int), .int .u32 (y : Int), .int .i64 E, .int .i64 B] w fun e w' => e = .returned (.bool true) ∧ Below w.heap.size w w' := by
  obtain ⟨a, c, rfl, hlc, hcm, hpt⟩ := hv
  have cA : wrap64 (A : Int) = (A : Int) := IntWalk.wrap64_in _ ⟨by omega, by omega⟩
  have cD : wrap64 (D : Int) = (D : Int) := IntWalk.wrap64_in _ ⟨by omega, by omega⟩
  have cx : wrap64 (x : Int) = (x : Int) := IntWalk.wrap64_in _ ⟨by omega, by omega⟩
  have cy : wrap64 (y : Int) = (y : Int) := IntWalk.wrap64_in _ ⟨by omega, by omega⟩
  go_enter Try.func3, Try.ntmps3
  go_upto_region 2 with (fail)
  obtain ⟨u, hu⟩ : ∃ u : Nat, ((A : Int) % 8) = (u : Int) := ⟨A % 8, by omega⟩
  obtain ⟨m, hm⟩ : ∃ m : Nat, ((D : Int) % 8) = (m : Int) := ⟨D % 8, by omega⟩
  have hu8 : u < 8 := by omega
  have hm8 : m < 8 := by omega
  rw [hu, hm]
  clear hu hm cA cD
  obtain ⟨p, hpw⟩ : ∃ p, p = 2 ^ (u + m) := ⟨_, rfl⟩
  obtain ⟨q, hqw⟩ : ∃ q, q = 2 ^ m := ⟨_, rfl⟩
  have hp := shl1w (u + m) p (by omega) hpw
  have hq := shl1w m q (by omega) hqw
  have hp0 : 0 < p := by rw [hpw]; exact Nat.two_pow_pos _
  have hq0 : 0 < q := by rw [hqw]; exact Nat.two_pow_pos _
  have hpq : p = 2 ^ u * q := by rw [hpw, hqw, Nat.pow_add]
  obtain ⟨X, hX⟩ : ∃ X, X = x % p := ⟨_, rfl⟩
  obtain ⟨Y, hY⟩ : ∃ Y, Y = y % p := ⟨_, rfl⟩
  have Htx := Lib.hid (tmod_nat x p X hX)
  have Hty := Lib.hid (tmod_nat y p Y hY)
  have Hpn := Lib.hid (pos_ne p hp0)
  have Hpz : Hid (¬ p = 0) := Nat.ne_of_gt hp0
  obtain ⟨s, hs⟩ : ∃ s, s = u + m := ⟨_, rfl⟩
  have Hs := Lib.hid hs
  have Hum := Lib.hid (sum_wrap u m s hu8 hm8 hs)
  have Hcx := Lib.hid (i64_nat x hx)
  have Hcy := Lib.hid (i64_nat y hy)
  clear hs cx cy
  obtain ⟨X1, hX1⟩ : ∃ X1, X1 = X / q := ⟨_, rfl⟩
  obtain ⟨Y1, hY1⟩ : ∃ Y1, Y1 = Y / q := ⟨_, rfl⟩
  obtain ⟨X2, hX2⟩ : ∃ X2, X2 = X % q := ⟨_, rfl⟩
  obtain ⟨Y2, hY2⟩ : ∃ Y2, Y2 = Y % q := ⟨_, rfl⟩
  have Hdx := Lib.hid (div_nat X m q X1 hqw hX1)
  have Hdy := Lib.hid (div_nat Y m q Y1 hqw hY1)
  have Htx2 := Lib.hid (tmod_nat X q X2 hX2)
  have Hty2 := Lib.hid (tmod_nat Y q Y2 hY2)
  have Hqi := Lib.hid (shl1i m q (Nat.le_trans (Nat.le_of_lt hm8) (by decide)) hqw)
  have Hqz : Hid (¬ q = 0) := Nat.ne_of_gt hq0
  have HX1 := Lib.hid hX1
  have HY1 := Lib.hid hY1
  have HX2 := Lib.hid hX2
  have HY2 := Lib.hid hY2
  clear hX1 hY1 hX2 hY2
  have HX := Lib.hid hX
  have HY := Lib.hid hY
  have Hp := Lib.hid hp
  have Hq := Lib.hid hq
  have Hp0 := Lib.hid hp0
  have Hq0 := Lib.hid hq0
  have Hpq := Lib.hid hpq
  have Hpw := Lib.hid hpw
  have Hqw := Lib.hid hqw
  clear hX hY hpq hpw hqw hp hq hp0 hq0
  go_upto_region 3 with (fail)
  rw [Hp.out]
  refine wp_region_held (S := (fun _ => True)) (by kernel_rfl) ?_
  refine wpAnyH_take (i := 0) (oi := { dst := some 38, op := Go.Op.move (Go.Operand.tmp 15), type := 3, pos := "law.go:66", after := #[], guard := none }) (v := ?_) rfl (by kernel_rfl) (by kernel_rfl) (by kernel_rfl) (fun _ _ _ h => h) (Or.inl ⟨by rfl, ?_⟩) (trivial) ?_
  rotate_left 1
  · intro w5 hSw
    go_simp; all_goals (with_reducible rfl)
  try simp only [Act.put, List.setIfInBounds_toArray, List.set_cons_zero, List.set_cons_succ]
  refine wpAnyH_take (i := 1) (oi := { dst := some 39, op := Go.Op.move (Go.Operand.tmp 16), type := 3, pos := "law.go:66", after := #[], guard := none }) (v := ?_) rfl (by kernel_rfl) (by kernel_rfl) (by kernel_rfl) (fun _ _ _ h => h) (Or.inl ⟨by rfl, ?_⟩) (trivial) ?_
  rotate_left 1
  · intro w5 hSw
    go_simp; all_goals (with_reducible rfl)
  try simp only [Act.put, List.setIfInBounds_toArray, List.set_cons_zero, List.set_cons_succ]
  refine wpAnyH_take (i := 2) (oi := { dst := some 40, op := Go.Op.binOp Go.BinOp.add 3 (Go.Operand.tmp 38) (Go.Operand.tmp 39) 3, type := 3, pos := "law.go:66", after := #[{ on := 0, ground := Go.Ground.data }, { on := 1, ground := Go.Ground.data }], guard := none }) (v := ?_) rfl (by kernel_rfl) (by kernel_rfl) (by kernel_rfl) (fun _ _ _ h => h) (Or.inl ⟨by rfl, ?_⟩) (trivial) ?_
  rotate_left 1
  · intro w5 hSw
    have um := Hum.out
    go_simp; all_goals (with_reducible rfl)
  try simp only [Act.put, List.setIfInBounds_toArray, List.set_cons_zero, List.set_cons_succ]
  refine wpAnyH_take (i := 3) (oi := { dst := some 41, op := Go.Op.move (Go.Operand.tmp 3), type := 23, pos := "law.go:66", after := #[], guard := none }) (v := ?_) rfl (by kernel_rfl) (by kernel_rfl) (by kernel_rfl) (fun _ _ _ h => h) (Or.inl ⟨by rfl, ?_⟩) (trivial) ?_
  rotate_left 1
  · intro w5 hSw
    go_simp; all_goals (with_reducible rfl)
  try simp only [Act.put, List.setIfInBounds_toArray, List.set_cons_zero, List.set_cons_succ]
  refine wpAnyH_take (i := 4) (oi := { dst := some 42, op := Go.Op.convert 23 3 (Go.Operand.tmp 41), type := 3, pos := "law.go:66", after := #[{ on := 3, ground := Go.Ground.data }], guard := none }) (v := ?_) rfl (by kernel_rfl) (by kernel_rfl) (by kernel_rfl) (fun _ _ _ h => h) (Or.inl ⟨by rfl, ?_⟩) (trivial) ?_
  rotate_left 1
  · intro w5 hSw
    have cx := Hcx.out
    go_simp; all_goals (with_reducible rfl)
  try simp only [Act.put, List.setIfInBounds_toArray, List.set_cons_zero, List.set_cons_succ]
  refine wpAnyH_take (i := 5) (oi := { dst := some 43, op := Go.Op.move (Go.Operand.tmp 17), type := 3, pos := "law.go:66", after := #[], guard := none }) (v := ?_) rfl (by kernel_rfl) (by kernel_rfl) (by kernel_rfl) (fun _ _ _ h => h) (Or.inl ⟨by rfl, ?_⟩) (trivial) ?_
  rotate_left 1
  · intro w5 hSw
    go_simp; all_goals (with_reducible rfl)
  try simp only [Act.put, List.setIfInBounds_toArray, List.set_cons_zero, List.set_cons_succ]
  refine wpAnyH_take (i := 6) (oi := { dst := some 44, op := Go.Op.binOp Go.BinOp.rem 3 (Go.Operand.tmp 42) (Go.Operand.tmp 43) 3, type := 3, pos := "law.go:66", after := #[{ on := 4, ground := Go.Ground.data }, { on := 5, ground := Go.Ground.data }], guard := none }) (v := ?_) rfl (by kernel_rfl) (by kernel_rfl) (by kernel_rfl) (fun _ _ _ h => h) (Or.inl ⟨by rfl, ?_⟩) (trivial) ?_
  rotate_left 1
  · intro w5 hSw
    have tx := Htx.out
    have pz := Hpz.out
    go_simp; all_goals (with_reducible rfl)
  try simp only [Act.put, List.setIfInBounds_toArray, List.set_cons_zero, List.set_cons_succ]
  refine wpAnyH_take (i := 7) (oi := { dst := some 45, op := Go.Op.move (Go.Operand.tmp 4), type := 23, pos := "law.go:66", after := #[], guard := none }) (v := ?_) rfl (by kernel_rfl) (by kernel_rfl) (by kernel_rfl) (fun _ _ _ h => h) (Or.inl ⟨by rfl, ?_⟩) (trivial) ?_
  rotate_left 1
  · intro w5 hSw
    go_simp; all_goals (with_reducible rfl)
  try simp only [Act.put, List.setIfInBounds_toArray, List.set_cons_zero, List.set_cons_succ]
  refine wpAnyH_take (i := 8) (oi := { dst := some 46, op := Go.Op.convert 23 3 (Go.Operand.tmp 45), type := 3, pos := "law.go:66", after := #[{ on := 7, ground := Go.Ground.data }], guard := none }) (v := ?_) rfl (by kernel_rfl) (by kernel_rfl) (by kernel_rfl) (fun _ _ _ h => h) (Or.inl ⟨by rfl, ?_⟩) (trivial) ?_
  rotate_left 1
  · intro w5 hSw
    have cy := Hcy.out
    go_simp; all_goals (with_reducible rfl)
  try simp only [Act.put, List.setIfInBounds_toArray, List.set_cons_zero, List.set_cons_succ]
  refine wpAnyH_take (i := 9) (oi := { dst := some 47, op := Go.Op.move (Go.Operand.tmp 17), type := 3, pos := "law.go:66", after := #[], guard := none }) (v := ?_) rfl (by kernel_rfl) (by kernel_rfl) (by kernel_rfl) (fun _ _ _ h => h) (Or.inl ⟨by rfl, ?_⟩) (trivial) ?_
  rotate_left 1
  · intro w5 hSw
    go_simp; all_goals (with_reducible rfl)
  try simp only [Act.put, List.setIfInBounds_toArray, List.set_cons_zero, List.set_cons_succ]
  refine wpAnyH_take (i := 10) (oi := { dst := some 48, op := Go.Op.binOp Go.BinOp.rem 3 (Go.Operand.tmp 46) (Go.Operand.tmp 47) 3, type := 3, pos := "law.go:66", after := #[{ on := 8, ground := Go.Ground.data }, { on := 9, ground := Go.Ground.data }], guard := none }) (v := ?_) rfl (by kernel_rfl) (by kernel_rfl) (by kernel_rfl) (fun _ _ _ h => h) (Or.inl ⟨by rfl, ?_⟩) (trivial) ?_
  rotate_left 1
  · intro w5 hSw
    have ty := Hty.out
    have pz := Hpz.out
    go_simp; all_goals (with_reducible rfl)
  try simp only [Act.put, List.setIfInBounds_toArray, List.set_cons_zero, List.set_cons_succ]
  refine wpAnyH_take (i := 11) (oi := { dst := some 49, op := Go.Op.move (Go.Operand.tmp 6), type := 3, pos := "law.go:66", after := #[], guard := none }) (v := ?_) rfl (by kernel_rfl) (by kernel_rfl) (by kernel_rfl) (fun _ _ _ h => h) (Or.inl ⟨by rfl, ?_⟩) (trivial) ?_
  rotate_left 1
  · intro w5 hSw
    go_simp; all_goals (with_reducible rfl)
  try simp only [Act.put, List.setIfInBounds_toArray, List.set_cons_zero, List.set_cons_succ]
  refine wpAnyH_take (i := 12) (oi := { dst := some 50, op := Go.Op.build 25 #[(0, Go.Operand.tmp 40), (1, Go.Operand.tmp 44), (2, Go.Operand.tmp 48), (3, Go.Operand.tmp 49)], type := 25, pos := "law.go:66", after := #[{ on := 2, ground := Go.Ground.data }, { on := 6, ground := Go.Ground.data }, { on := 10, ground := Go.Ground.data }, { on := 11, ground := Go.Ground.data }], guard := none }) (v := ?_) rfl (by kernel_rfl) (by kernel_rfl) (by kernel_rfl) (fun _ _ _ h => h) (Or.inl ⟨by rfl, ?_⟩) (trivial) ?_
  rotate_left 1
  · intro w5 hSw
    go_simp; all_goals (with_reducible rfl)
  try simp only [Act.put, List.setIfInBounds_toArray, List.set_cons_zero, List.set_cons_succ]
  refine wpAnyH_ready (rs := [13]) (by kernel_rfl) (by simp) ?_
  refine AllReadyH.cons (o := { dst := some 18, op := Go.Op.alloc 25, type := 0, pos := "law.go:66", after := #[], guard := none }) rfl (fun K hK => ?_) AllReadyH.nil
  go_simp
  refine hK.out _ _ (trivial) (fun _ => ?_)
  clear hK K
  try simp only [Act.put, List.setIfInBounds_toArray, List.set_cons_zero, List.set_cons_succ]
  refine wpAnyH_ready (rs := [14]) (by kernel_rfl) (by simp) ?_
  refine AllReadyH.cons (o := { dst := none, op := Go.Op.store 25 (Go.Operand.tmp 18) (Go.Operand.tmp 50), type := 0, pos := "law.go:66", after := #[{ on := 13, ground := Go.Ground.data }, { on := 12, ground := Go.Ground.data }, { on := 0, ground := Go.Ground.phase }, { on := 1, ground := Go.Ground.phase }, { on := 2, ground := Go.Ground.phase }, { on := 3, ground := Go.Ground.phase }, { on := 4, ground := Go.Ground.phase }, { on := 5, ground := Go.Ground.phase }, { on := 6, ground := Go.Ground.phase }, { on := 7, ground := Go.Ground.phase }, { on := 8, ground := Go.Ground.phase }, { on := 9, ground := Go.Ground.phase }, { on := 10, ground := Go.Ground.phase }, { on := 11, ground := Go.Ground.phase }, { on := 12, ground := Go.Ground.phase }, { on := 13, ground := Go.Ground.phase }], guard := none }) rfl (fun K hK => ?_) AllReadyH.nil
  go_simp
  refine hK.out _ _ (trivial) (fun _ => ?_)
  clear hK K
  try simp only [Act.put, List.setIfInBounds_toArray, List.set_cons_zero, List.set_cons_succ]
  refine wpAnyH_done (by kernel_rfl) ?_ _
  obtain ⟨g1, hg1⟩ : ∃ g1, g1 = w.heap.size := ⟨_, rfl⟩
  obtain ⟨W1, hW1⟩ : ∃ W1, W1 = (w.alloc (.cells #[.int .i64 (s : Int), .int .i64 (X : Int), .int .i64 (Y : Int), .int .i64 B] 25)).drew := ⟨_, rfl⟩
  have hZ1 : Whole W1 g1 25 #[.int .i64 (s : Int), .int .i64 (X : Int), .int .i64 (Y : Int), .int .i64 B] := by rw [hW1, hg1]; exact Whole.new w _ _
  have hB1 : Below w.heap.size w W1 := by
    have h := (Below.refl w.heap.size w).alloc (Nat.le_refl _) (.cells #[.int .i64 (s : Int), .int .i64 (X : Int), .int .i64 (Y : Int), .int .i64 B] 25)
    rw [hW1]
    exact ⟨h.os, h.tape, h.output, h.size, h.block⟩
  rw [← hW1, ← hg1]
  have HZ1 := Lib.hid hZ1
  have HB := Lib.hid hB1
  have Hg1 := Lib.hid hg1
  clear hZ1 hB1 hg1 hW1
  go_upto_region 4 with (fail)
  have HZ1 : Hid (Whole W1.drew g1 25 #[.int .i64 (s : Int), .int .i64 (X : Int), .int .i64 (Y : Int), .int .i64 B]) := HZ1.out
  refine wp_region_held (S := (fun V => Whole V g1 25 #[.int .i64 (s : Int), .int .i64 (X : Int), .int .i64 (Y : Int), .int .i64 B])) (by kernel_rfl) ?_
  refine wpAnyH_take (i := 0) (oi := { dst := some 51, op := Go.Op.move (Go.Operand.tmp 15), type := 3, pos := "law.go:67", after := #[], guard := none }) (v := ?_) rfl (by kernel_rfl) (by kernel_rfl) (by kernel_rfl) (fun _ _ _ h => h) (Or.inl ⟨by rfl, ?_⟩) (HZ1.out) ?_
  rotate_left 1
  · intro w5 hSw
    go_simp; all_goals (with_reducible rfl)
  try simp only [Act.put, List.setIfInBounds_toArray, List.set_cons_zero, List.set_cons_succ]
  refine wpAnyH_take (i := 1) (oi := { dst := some 52, op := Go.Op.fieldAddr 25 (Go.Operand.tmp 18) 1, type := 0, pos := "law.go:67", after := #[], guard := none }) (v := ?_) rfl (by kernel_rfl) (by kernel_rfl) (by kernel_rfl) (fun _ _ _ h => h) (Or.inl ⟨by rfl, ?_⟩) (HZ1.out) ?_
  rotate_left 1
  · intro w5 hSw
    go_simp; all_goals (with_reducible rfl)
  try simp only [Act.put, List.setIfInBounds_toArray, List.set_cons_zero, List.set_cons_succ]
  refine wpAnyH_take (i := 2) (oi := { dst := some 53, op := Go.Op.load 3 (Go.Operand.tmp 52), type := 3, pos := "law.go:67", after := #[{ on := 1, ground := Go.Ground.data }], guard := none }) (v := ?_) rfl (by kernel_rfl) (by kernel_rfl) (by kernel_rfl) (fun _ _ _ h => h) (Or.inl ⟨by rfl, ?_⟩) (HZ1.out) ?_
  rotate_left 1
  · intro w5 hSw
    have zz : w5.cell? ⟨g1, 1, none⟩ = some (.int .i64 (X : Int)) := hSw.cell 1
    go_simp; all_goals (with_reducible rfl)
  try simp only [Act.put, List.setIfInBounds_toArray, List.set_cons_zero, List.set_cons_succ]
  refine wpAnyH_take (i := 3) (oi := { dst := some 54, op := Go.Op.move (Go.Operand.tmp 16), type := 3, pos := "law.go:67", after := #[], guard := none }) (v := ?_) rfl (by kernel_rfl) (by kernel_rfl) (by kernel_rfl) (fun _ _ _ h => h) (Or.inl ⟨by rfl, ?_⟩) (HZ1.out) ?_
  rotate_left 1
  · intro w5 hSw
    go_simp; all_goals (with_reducible rfl)
  try simp only [Act.put, List.setIfInBounds_toArray, List.set_cons_zero, List.set_cons_succ]
  refine wpAnyH_take (i := 4) (oi := { dst := some 55, op := Go.Op.binOp Go.BinOp.shr 3 (Go.Operand.tmp 53) (Go.Operand.tmp 54) 3, type := 3, pos := "law.go:67", after := #[{ on := 2, ground := Go.Ground.data }, { on := 3, ground := Go.Ground.data }], guard := none }) (v := ?_) rfl (by kernel_rfl) (by kernel_rfl) (by kernel_rfl) (fun _ _ _ h => h) (Or.inl ⟨by rfl, ?_⟩) (HZ1.out) ?_
  rotate_left 1
  · intro w5 hSw
    have hd := Hdx.out
    go_simp; all_goals (with_reducible rfl)
  try simp only [Act.put, List.setIfInBounds_toArray, List.set_cons_zero, List.set_cons_succ]
  refine wpAnyH_take (i := 5) (oi := { dst := some 56, op := Go.Op.fieldAddr 25 (Go.Operand.tmp 18) 2, type := 0, pos := "law.go:67", after := #[], guard := none }) (v := ?_) rfl (by kernel_rfl) (by kernel_rfl) (by kernel_rfl) (fun _ _ _ h => h) (Or.inl ⟨by rfl, ?_⟩) (HZ1.out) ?_
  rotate_left 1
  · intro w5 hSw
    go_simp; all_goals (with_reducible rfl)
  try simp only [Act.put, List.setIfInBounds_toArray, List.set_cons_zero, List.set_cons_succ]
  refine wpAnyH_take (i := 6) (oi := { dst := some 57, op := Go.Op.load 3 (Go.Operand.tmp 56), type := 3, pos := "law.go:67", after := #[{ on := 5, ground := Go.Ground.data }], guard := none }) (v := ?_) rfl (by kernel_rfl) (by kernel_rfl) (by kernel_rfl) (fun _ _ _ h => h) (Or.inl ⟨by rfl, ?_⟩) (HZ1.out) ?_
  rotate_left 1
  · intro w5 hSw
    have zz : w5.cell? ⟨g1, 2, none⟩ = some (.int .i64 (Y : Int)) := hSw.cell 2
    go_simp; all_goals (with_reducible rfl)
  try simp only [Act.put, List.setIfInBounds_toArray, List.set_cons_zero, List.set_cons_succ]
  refine wpAnyH_take (i := 7) (oi := { dst := some 58, op := Go.Op.move (Go.Operand.tmp 16), type := 3, pos := "law.go:67", after := #[], guard := none }) (v := ?_) rfl (by kernel_rfl) (by kernel_rfl) (by kernel_rfl) (fun _ _ _ h => h) (Or.inl ⟨by rfl, ?_⟩) (HZ1.out) ?_
  rotate_left 1
  · intro w5 hSw
    go_simp; all_goals (with_reducible rfl)
  try simp only [Act.put, List.setIfInBounds_toArray, List.set_cons_zero, List.set_cons_succ]
  refine wpAnyH_take (i := 8) (oi := { dst := some 59, op := Go.Op.binOp Go.BinOp.shr 3 (Go.Operand.tmp 57) (Go.Operand.tmp 58) 3, type := 3, pos := "law.go:67", after := #[{ on := 6, ground := Go.Ground.data }, { on := 7, ground := Go.Ground.data }], guard := none }) (v := ?_) rfl (by kernel_rfl) (by kernel_rfl) (by kernel_rfl) (fun _ _ _ h => h) (Or.inl ⟨by rfl, ?_⟩) (HZ1.out) ?_
  rotate_left 1
  · intro w5 hSw
    have hd := Hdy.out
    go_simp; all_goals (with_reducible rfl)
  try simp only [Act.put, List.setIfInBounds_toArray, List.set_cons_zero, List.set_cons_succ]
  refine wpAnyH_take (i := 9) (oi := { dst := some 60, op := Go.Op.move (Go.Operand.tmp 6), type := 3, pos := "law.go:67", after := #[], guard := none }) (v := ?_) rfl (by kernel_rfl) (by kernel_rfl) (by kernel_rfl) (fun _ _ _ h => h) (Or.inl ⟨by rfl, ?_⟩) (HZ1.out) ?_
  rotate_left 1
  · intro w5 hSw
    go_simp; all_goals (with_reducible rfl)
  try simp only [Act.put, List.setIfInBounds_toArray, List.set_cons_zero, List.set_cons_succ]
  refine wpAnyH_take (i := 10) (oi := { dst := some 61, op := Go.Op.build 25 #[(0, Go.Operand.tmp 51), (1, Go.Operand.tmp 55), (2, Go.Operand.tmp 59), (3, Go.Operand.tmp 60)], type := 25, pos := "law.go:67", after := #[{ on := 0, ground := Go.Ground.data }, { on := 4, ground := Go.Ground.data }, { on := 8, ground := Go.Ground.data }, { on := 9, ground := Go.Ground.data }], guard := none }) (v := ?_) rfl (by kernel_rfl) (by kernel_rfl) (by kernel_rfl) (fun _ _ _ h => h) (Or.inl ⟨by rfl, ?_⟩) (HZ1.out) ?_
  rotate_left 1
  · intro w5 hSw
    go_simp; all_goals (with_reducible rfl)
  try simp only [Act.put, List.setIfInBounds_toArray, List.set_cons_zero, List.set_cons_succ]
  refine wpAnyH_ready (rs := [11]) (by kernel_rfl) (by simp) ?_
  refine AllReadyH.cons (o := { dst := some 19, op := Go.Op.alloc 25, type := 0, pos := "law.go:67", after := #[], guard := none }) rfl (fun K hK => ?_) AllReadyH.nil
  go_simp
  refine hK.out _ _ (HZ1.out.alloc _) (fun _ => ?_)
  clear hK K
  try simp only [Act.put, List.setIfInBounds_toArray, List.set_cons_zero, List.set_cons_succ]
  refine wpAnyH_ready (rs := [12]) (by kernel_rfl) (by simp) ?_
  refine AllReadyH.cons (o := { dst := none, op := Go.Op.store 25 (Go.Operand.tmp 19) (Go.Operand.tmp 61), type := 0, pos := "law.go:67", after := #[{ on := 11, ground := Go.Ground.data }, { on := 10, ground := Go.Ground.data }, { on := 0, ground := Go.Ground.phase }, { on := 1, ground := Go.Ground.phase }, { on := 2, ground := Go.Ground.phase }, { on := 3, ground := Go.Ground.phase }, { on := 4, ground := Go.Ground.phase }, { on := 5, ground := Go.Ground.phase }, { on := 6, ground := Go.Ground.phase }, { on := 7, ground := Go.Ground.phase }, { on := 8, ground := Go.Ground.phase }, { on := 9, ground := Go.Ground.phase }, { on := 10, ground := Go.Ground.phase }, { on := 11, ground := Go.Ground.phase }], guard := none }) rfl (fun K hK => ?_) AllReadyH.nil
  go_simp
  refine hK.out _ _ (HZ1.out.alloc _) (fun _ => ?_)
  clear hK K
  try simp only [Act.put, List.setIfInBounds_toArray, List.set_cons_zero, List.set_cons_succ]
  refine wpAnyH_done (by kernel_rfl) ?_ _
  obtain ⟨g2, hg2⟩ : ∃ g2, g2 = W1.heap.size := ⟨_, rfl⟩
  obtain ⟨W2, hW2⟩ : ∃ W2, W2 = (W1.alloc (.cells #[.int .i64 (u : Int), .int .i64 (X1 : Int), .int .i64 (Y1 : Int), .int .i64 B] 25)).drew := ⟨_, rfl⟩
  have hZ2 : Whole W2 g2 25 #[.int .i64 (u : Int), .int .i64 (X1 : Int), .int .i64 (Y1 : Int), .int .i64 B] := by rw [hW2, hg2]; exact Whole.new W1 _ _
  have hZ1 : Whole W2 g1 25 #[.int .i64 (s : Int), .int .i64 (X : Int), .int .i64 (Y : Int), .int .i64 B] := by rw [hW2]; exact (show Whole W1 g1 _ _ from HZ1.out).alloc _
  have hB2 : Below w.heap.size w W2 := by
    have h := HB.out.alloc HB.out.size (.cells #[.int .i64 (u : Int), .int .i64 (X1 : Int), .int .i64 (Y1 : Int), .int .i64 B] 25)
    rw [hW2]
    exact ⟨h.os, h.tape, h.output, h.size, h.block⟩
  rw [← hW2, ← hg2]
  have HZ1 := Lib.hid hZ1
  have HZ2 := Lib.hid hZ2
  have HB := Lib.hid hB2
  clear hZ1 hZ2 hB2 hg2 hW2
  go_upto_region 5 with (fail)
  have HZ1 : Hid (Whole W2.drew g1 25 #[.int .i64 (s : Int), .int .i64 (X : Int), .int .i64 (Y : Int), .int .i64 B]) := HZ1.out
  refine wp_region_held (S := (fun V => Whole V g1 25 #[.int .i64 (s : Int), .int .i64 (X : Int), .int .i64 (Y : Int), .int .i64 B])) (by kernel_rfl) ?_
  refine wpAnyH_take (i := 0) (oi := { dst := some 62, op := Go.Op.move (Go.Operand.tmp 16), type := 3, pos := "law.go:68", after := #[], guard := none }) (v := ?_) rfl (by kernel_rfl) (by kernel_rfl) (by kernel_rfl) (fun _ _ _ h => h) (Or.inl ⟨by rfl, ?_⟩) (HZ1.out) ?_
  rotate_left 1
  · intro w5 hSw
    go_simp; all_goals (with_reducible rfl)
  try simp only [Act.put, List.setIfInBounds_toArray, List.set_cons_zero, List.set_cons_succ]
  refine wpAnyH_take (i := 1) (oi := { dst := some 63, op := Go.Op.fieldAddr 25 (Go.Operand.tmp 18) 1, type := 0, pos := "law.go:68", after := #[], guard := none }) (v := ?_) rfl (by kernel_rfl) (by kernel_rfl) (by kernel_rfl) (fun _ _ _ h => h) (Or.inl ⟨by rfl, ?_⟩) (HZ1.out) ?_
  rotate_left 1
  · intro w5 hSw
    go_simp; all_goals (with_reducible rfl)
  try simp only [Act.put, List.setIfInBounds_toArray, List.set_cons_zero, List.set_cons_succ]
  refine wpAnyH_take (i := 2) (oi := { dst := some 64, op := Go.Op.load 3 (Go.Operand.tmp 63), type := 3, pos := "law.go:68", after := #[{ on := 1, ground := Go.Ground.data }], guard := none }) (v := ?_) rfl (by kernel_rfl) (by kernel_rfl) (by kernel_rfl) (fun _ _ _ h => h) (Or.inl ⟨by rfl, ?_⟩) (HZ1.out) ?_
  rotate_left 1
  · intro w5 hSw
    have zz : w5.cell? ⟨g1, 1, none⟩ = some (.int .i64 (X : Int)) := hSw.cell 1
    go_simp; all_goals (with_reducible rfl)
  try simp only [Act.put, List.setIfInBounds_toArray, List.set_cons_zero, List.set_cons_succ]
  refine wpAnyH_take (i := 3) (oi := { dst := some 65, op := Go.Op.move (Go.Operand.tmp 16), type := 3, pos := "law.go:68", after := #[], guard := none }) (v := ?_) rfl (by kernel_rfl) (by kernel_rfl) (by kernel_rfl) (fun _ _ _ h => h) (Or.inl ⟨by rfl, ?_⟩) (HZ1.out) ?_
  rotate_left 1
  · intro w5 hSw
    go_simp; all_goals (with_reducible rfl)
  try simp only [Act.put, List.setIfInBounds_toArray, List.set_cons_zero, List.set_cons_succ]
  refine wpAnyH_take (i := 4) (oi := { dst := some 66, op := Go.Op.binOp Go.BinOp.shl 3 (Go.Operand.const (Go.Value.int Go.IntKind.i64 1)) (Go.Operand.tmp 65) 3, type := 3, pos := "law.go:68", after := #[{ on := 3, ground := Go.Ground.data }], guard := none }) (v := ?_) rfl (by kernel_rfl) (by kernel_rfl) (by kernel_rfl) (fun _ _ _ h => h) (Or.inl ⟨by rfl, ?_⟩) (HZ1.out) ?_
  rotate_left 1
  · intro w5 hSw
    have hd := Hqi.out
    go_simp; all_goals (with_reducible rfl)
  try simp only [Act.put, List.setIfInBounds_toArray, List.set_cons_zero, List.set_cons_succ]
  refine wpAnyH_take (i := 5) (oi := { dst := some 67, op := Go.Op.binOp Go.BinOp.rem 3 (Go.Operand.tmp 64) (Go.Operand.tmp 66) 3, type := 3, pos := "law.go:68", after := #[{ on := 2, ground := Go.Ground.data }, { on := 4, ground := Go.Ground.data }], guard := none }) (v := ?_) rfl (by kernel_rfl) (by kernel_rfl) (by kernel_rfl) (fun _ _ _ h => h) (Or.inl ⟨by rfl, ?_⟩) (HZ1.out) ?_
  rotate_left 1
  · intro w5 hSw
    have hd := Htx2.out
    have hz := Hqz.out
    go_simp; all_goals (with_reducible rfl)
  try simp only [Act.put, List.setIfInBounds_toArray, List.set_cons_zero, List.set_cons_succ]
  refine wpAnyH_take (i := 6) (oi := { dst := some 68, op := Go.Op.fieldAddr 25 (Go.Operand.tmp 18) 2, type := 0, pos := "law.go:68", after := #[], guard := none }) (v := ?_) rfl (by kernel_rfl) (by kernel_rfl) (by kernel_rfl) (fun _ _ _ h => h) (Or.inl ⟨by rfl, ?_⟩) (HZ1.out) ?_
  rotate_left 1
  · intro w5 hSw
    go_simp; all_goals (with_reducible rfl)
  try simp only [Act.put, List.setIfInBounds_toArray, List.set_cons_zero, List.set_cons_succ]
  refine wpAnyH_take (i := 7) (oi := { dst := some 69, op := Go.Op.load 3 (Go.Operand.tmp 68), type := 3, pos := "law.go:68", after := #[{ on := 6, ground := Go.Ground.data }], guard := none }) (v := ?_) rfl (by kernel_rfl) (by kernel_rfl) (by kernel_rfl) (fun _ _ _ h => h) (Or.inl ⟨by rfl, ?_⟩) (HZ1.out) ?_
  rotate_left 1
  · intro w5 hSw
    have zz : w5.cell? ⟨g1, 2, none⟩ = some (.int .i64 (Y : Int)) := hSw.cell 2
    go_simp; all_goals (with_reducible rfl)
  try simp only [Act.put, List.setIfInBounds_toArray, List.set_cons_zero, List.set_cons_succ]
  refine wpAnyH_take (i := 8) (oi := { dst := some 70, op := Go.Op.move (Go.Operand.tmp 16), type := 3, pos := "law.go:68", after := #[], guard := none }) (v := ?_) rfl (by kernel_rfl) (by kernel_rfl) (by kernel_rfl) (fun _ _ _ h => h) (Or.inl ⟨by rfl, ?_⟩) (HZ1.out) ?_
  rotate_left 1
  · intro w5 hSw
    go_simp; all_goals (with_reducible rfl)
  try simp only [Act.put, List.setIfInBounds_toArray, List.set_cons_zero, List.set_cons_succ]
  refine wpAnyH_take (i := 9) (oi := { dst := some 71, op := Go.Op.binOp Go.BinOp.shl 3 (Go.Operand.const (Go.Value.int Go.IntKind.i64 1)) (Go.Operand.tmp 70) 3, type := 3, pos := "law.go:68", after := #[{ on := 8, ground := Go.Ground.data }], guard := none }) (v := ?_) rfl (by kernel_rfl) (by kernel_rfl) (by kernel_rfl) (fun _ _ _ h => h) (Or.inl ⟨by rfl, ?_⟩) (HZ1.out) ?_
  rotate_left 1
  · intro w5 hSw
    have hd := Hqi.out
    go_simp; all_goals (with_reducible rfl)
  try simp only [Act.put, List.setIfInBounds_toArray, List.set_cons_zero, List.set_cons_succ]
  refine wpAnyH_take (i := 10) (oi := { dst := some 72, op := Go.Op.binOp Go.BinOp.rem 3 (Go.Operand.tmp 69) (Go.Operand.tmp 71) 3, type := 3, pos := "law.go:68", after := #[{ on := 7, ground := Go.Ground.data }, { on := 9, ground := Go.Ground.data }], guard := none }) (v := ?_) rfl (by kernel_rfl) (by kernel_rfl) (by kernel_rfl) (fun _ _ _ h => h) (Or.inl ⟨by rfl, ?_⟩) (HZ1.out) ?_
  rotate_left 1
  · intro w5 hSw
    have hd := Hty2.out
    have hz := Hqz.out
    go_simp; all_goals (with_reducible rfl)
  try simp only [Act.put, List.setIfInBounds_toArray, List.set_cons_zero, List.set_cons_succ]
  refine wpAnyH_take (i := 11) (oi := { dst := some 73, op := Go.Op.move (Go.Operand.tmp 6), type := 3, pos := "law.go:68", after := #[], guard := none }) (v := ?_) rfl (by kernel_rfl) (by kernel_rfl) (by kernel_rfl) (fun _ _ _ h => h) (Or.inl ⟨by rfl, ?_⟩) (HZ1.out) ?_
  rotate_left 1
  · intro w5 hSw
    go_simp; all_goals (with_reducible rfl)
  try simp only [Act.put, List.setIfInBounds_toArray, List.set_cons_zero, List.set_cons_succ]
  refine wpAnyH_take (i := 12) (oi := { dst := some 74, op := Go.Op.build 25 #[(0, Go.Operand.tmp 62), (1, Go.Operand.tmp 67), (2, Go.Operand.tmp 72), (3, Go.Operand.tmp 73)], type := 25, pos := "law.go:68", after := #[{ on := 0, ground := Go.Ground.data }, { on := 5, ground := Go.Ground.data }, { on := 10, ground := Go.Ground.data }, { on := 11, ground := Go.Ground.data }], guard := none }) (v := ?_) rfl (by kernel_rfl) (by kernel_rfl) (by kernel_rfl) (fun _ _ _ h => h) (Or.inl ⟨by rfl, ?_⟩) (HZ1.out) ?_
  rotate_left 1
  · intro w5 hSw
    go_simp; all_goals (with_reducible rfl)
  try simp only [Act.put, List.setIfInBounds_toArray, List.set_cons_zero, List.set_cons_succ]
  refine wpAnyH_ready (rs := [13]) (by kernel_rfl) (by simp) ?_
  refine AllReadyH.cons (o := { dst := some 20, op := Go.Op.alloc 25, type := 0, pos := "law.go:68", after := #[], guard := none }) rfl (fun K hK => ?_) AllReadyH.nil
  go_simp
  refine hK.out _ _ (HZ1.out.alloc _) (fun _ => ?_)
  clear hK K
  try simp only [Act.put, List.setIfInBounds_toArray, List.set_cons_zero, List.set_cons_succ]
  refine wpAnyH_ready (rs := [14]) (by kernel_rfl) (by simp) ?_
  refine AllReadyH.cons (o := { dst := none, op := Go.Op.store 25 (Go.Operand.tmp 20) (Go.Operand.tmp 74), type := 0, pos := "law.go:68", after := #[{ on := 13, ground := Go.Ground.data }, { on := 12, ground := Go.Ground.data }, { on := 0, ground := Go.Ground.phase }, { on := 1, ground := Go.Ground.phase }, { on := 2, ground := Go.Ground.phase }, { on := 3, ground := Go.Ground.phase }, { on := 4, ground := Go.Ground.phase }, { on := 5, ground := Go.Ground.phase }, { on := 6, ground := Go.Ground.phase }, { on := 7, ground := Go.Ground.phase }, { on := 8, ground := Go.Ground.phase }, { on := 9, ground := Go.Ground.phase }, { on := 10, ground := Go.Ground.phase }, { on := 11, ground := Go.Ground.phase }, { on := 12, ground := Go.Ground.phase }, { on := 13, ground := Go.Ground.phase }], guard := none }) rfl (fun K hK => ?_) AllReadyH.nil
  go_simp
  refine hK.out _ _ (HZ1.out.alloc _) (fun _ => ?_)
  clear hK K
  try simp only [Act.put, List.setIfInBounds_toArray, List.set_cons_zero, List.set_cons_succ]
  refine wpAnyH_done (by kernel_rfl) ?_ _
  obtain ⟨g3, hg3⟩ : ∃ g3, g3 = W2.heap.size := ⟨_, rfl⟩
  obtain ⟨W3, hW3⟩ : ∃ W3, W3 = (W2.alloc (.cells #[.int .i64 (m : Int), .int .i64 (X2 : Int), .int .i64 (Y2 : Int), .int .i64 B] 25)).drew := ⟨_, rfl⟩
  have hZ3 : Whole W3 g3 25 #[.int .i64 (m : Int), .int .i64 (X2 : Int), .int .i64 (Y2 : Int), .int .i64 B] := by rw [hW3, hg3]; exact Whole.new W2 _ _
  have hZ1 : Whole W3 g1 25 #[.int .i64 (s : Int), .int .i64 (X : Int), .int .i64 (Y : Int), .int .i64 B] := by rw [hW3]; exact (show Whole W2 g1 _ _ from HZ1.out).alloc _
  have hZ2 : Whole W3 g2 25 #[.int .i64 (u : Int), .int .i64 (X1 : Int), .int .i64 (Y1 : Int), .int .i64 B] := by rw [hW3]; exact HZ2.out.alloc _
  have hB3 : Below w.heap.size w W3 := by
    have h := HB.out.alloc HB.out.size (.cells #[.int .i64 (m : Int), .int .i64 (X2 : Int), .int .i64 (Y2 : Int), .int .i64 B] 25)
    rw [hW3]
    exact ⟨h.os, h.tape, h.output, h.size, h.block⟩
  rw [← hW3, ← hg3]
  have HZ1 := Lib.hid hZ1
  have HZ2 := Lib.hid hZ2
  have HZ3 := Lib.hid hZ3
  have HB := Lib.hid hB3
  clear hZ1 hZ2 hZ3 hB3 hg3 hW3
  have hXs : X < 2 ^ s := by rw [HX.out, Hs.out, ← Hpw.out]; exact Nat.mod_lt _ Hp0.out
  have hYs : Y < 2 ^ s := by rw [HY.out, Hs.out, ← Hpw.out]; exact Nat.mod_lt _ Hp0.out
  have hX1 : X1 < 2 ^ u := by rw [HX1.out]; exact Nat.div_lt_of_lt_mul (by rw [Nat.mul_comm, ← Hpq.out, Hpw.out, ← Hs.out]; exact hXs)
  have hY1 : Y1 < 2 ^ u := by rw [HY1.out]; exact Nat.div_lt_of_lt_mul (by rw [Nat.mul_comm, ← Hpq.out, Hpw.out, ← Hs.out]; exact hYs)
  have hX2 : X2 < 2 ^ m := by rw [HX2.out, ← Hqw.out]; exact Nat.mod_lt _ Hq0.out
  have hY2 : Y2 < 2 ^ m := by rw [HY2.out, ← Hqw.out]; exact Nat.mod_lt _ Hq0.out
  have hps : 2 ^ s = 2 ^ u * q := by rw [Hs.out, ← Hpw.out]; exact Hpq.out
  have HXs := Lib.hid hXs
  have HYs := Lib.hid hYs
  have HX1l := Lib.hid hX1
  have HY1l := Lib.hid hY1
  have HX2l := Lib.hid hX2
  have HY2l := Lib.hid hY2
  have Hps := Lib.hid hps
  clear hXs hYs hX1 hY1 hX2 hY2 hps
  have hs14 : s ≤ 14 := by have := Hs.out; omega
  have HL := Lib.hid live28_any
  have HRR := Lib.hid fun W => refRight_any s X Y E B W (Nat.le_trans hs14 (by decide)) HXs.out HYs.out
  clear Htx Hty Hpn Hpz Hum Hcx Hcy Hdx Hdy Htx2 Hty2 Hqi Hqz Hp Hq
  go_upto_region 7 with (fail)
  obtain ⟨g4, hg4⟩ : ∃ g4, g4 = W3.heap.size := ⟨_, rfl⟩
  obtain ⟨W4, hW4⟩ : ∃ W4, W4 = (W3.alloc (.cells #[.slice a l.length c] 22)).alloc (.cells #[.bool false, .int .u64 0, .int .i64 1, .slice (some ⟨W3.heap.size, 0, none⟩) 1 1, .slice none 0 0] 30) := ⟨_, rfl⟩
  have hB4 : Below W3.heap.size W3 W4 := by
    rw [hW4]
    have h1 := (Below.refl W3.heap.size W3).alloc (Nat.le_refl _) (.cells #[.slice a l.length c] 22)
    exact h1.alloc h1.size _
  have hrow : Whole W4 g4 22 #[.slice a l.length c] := by rw [hW4, hg4]; exact (Whole.new W3 _ _).alloc _
  have hf : Whole W4 (g4 + 1) 30 #[.bool false, .int .u64 0, .int .i64 1, .slice (some ⟨g4, 0, none⟩) 1 1, .slice none 0 0] := by
    rw [hW4, hg4]
    have := Whole.new (W3.alloc (.cells #[.slice a l.length c] 22)) 30 #[.bool false, .int .u64 0, .int .i64 1, .slice (some ⟨W3.heap.size, 0, none⟩) 1 1, .slice none 0 0]
    rw [show (W3.alloc (.cells #[.slice a l.length c] 22)).heap.size = W3.heap.size + 1 by simp] at this
    exact this
  have hBw := keepBelow hB4 HB.out
  have HS := Lib.hid (⟨HZ1.out.below hB4 HZ1.out.lt, HZ2.out.below hB4 HZ2.out.lt, HZ3.out.below hB4 HZ3.out.lt, hf, one_row ((hpt.below hBw).more hBw.size) hlc hcm hrow⟩ : LS W4 s X Y u X1 Y1 m X2 Y2 B g1 g2 g3 (g4 + 1) (.slice (some ⟨g4, 0, none⟩) 1 1) l)
  have HB := Lib.hid hBw
  rw [← hW4, ← hg4]
  obtain ⟨g5, hg5⟩ : ∃ g5, g5 = g4 + 1 := ⟨_, rfl⟩
  rw [← hg5] at HS ⊢
  obtain ⟨v, hv⟩ : ∃ v, v = Value.slice (some ⟨g4, 0, none⟩) 1 1 := ⟨_, rfl⟩
  clear hB4 hrow hf hBw hW4 hg4 hg5 hpt HZ1 HZ2 HZ3
  rw [← hv] at HS ⊢
  clear hv
  have z0 : W4.cell? ⟨g1, 0, none⟩ = some (.int .i64 (s : Int)) := HS.out.z1.cell 0
  have z1 : W4.cell? ⟨g1, 1, none⟩ = some (.int .i64 (X : Int)) := HS.out.z1.cell 1
  have z2 : W4.cell? ⟨g1, 2, none⟩ = some (.int .i64 (Y : Int)) := HS.out.z1.cell 2
  have z3 : W4.cell? ⟨g1, 3, none⟩ = some (.int .i64 B) := HS.out.z1.cell 3
  by_cases h100 : 100 < l.length
  · have d1 : decide ((100 : Int) < (l.length : Int)) = true := decide_eq_true (by omega)
    have d2 : decide (100 < l.length) = true := decide_eq_true h100
    clear h100
    go_wp2_with fail
    refine (HL.out _).mono ?_
    rintro e W5 ⟨rfl, hb⟩
    have HB := Lib.hid (keepBelow hb HB.out)
    clear hb
    go_wp2_with fail
    go_ret
    exact ⟨rfl, HB.out⟩
  · have d1 : decide ((100 : Int) < (l.length : Int)) = false := decide_eq_false (by omega)
    have d2 : decide (100 < l.length) = false := decide_eq_false h100
    cases hE : okE E B with
    | false =>
      rw [hE] at HRR
      clear h100 hE
      go_wp2_with fail
      refine (HRR.out _).mono ?_
      rintro e W5 ⟨rfl, hb⟩
      have HB := Lib.hid (keepBelow hb HB.out)
      clear hb z0 z1 z2 z3
      go_wp2_with fail
      refine (HL.out _).mono ?_
      rintro e W6 ⟨rfl, hb⟩
      have HB := Lib.hid (keepBelow hb HB.out)
      clear hb
      go_wp2_with fail
      go_ret
      exact ⟨rfl, HB.out⟩
    | true =>
      rw [hE] at HRR
      have HE := Lib.hid hE
      have HlenL : Hid (l.length ≤ 1000) := by show _ ≤ _; omega
      clear h100 hE
      go_wp2_with fail
      refine (HRR.out _).mono ?_
      rintro e W5 ⟨rfl, hb⟩
      have HB := Lib.hid (keepBelow hb HB.out)
      have HS := Lib.hid (HS.out.below hb)
      clear hb z0 z1 z2 z3
      have c3 : W5.cell? ⟨g5, 3, none⟩ = some v := HS.out.f.cell 3
      have HPr := Lib.hid (rright_any 1 v [l] W5 HS.out.v (by show 1 ≤ _; omega) (fun x hx => by simp at hx; subst hx; exact Nat.le_trans HlenL.out (by decide)) (by omega))
      obtain ⟨r, hr⟩ : ∃ r, r = rightP 1 [l] := ⟨_, rfl⟩
      have Hr := Lib.hid hr
      rw [← hr] at HPr
      clear hr
      go_wp2_with fail
      refine HPr.out.mono ?_
      rintro e W6 ⟨rfl, hb⟩
      have HB := Lib.hid (keepBelow hb HB.out)
      have HS := Lib.hid (HS.out.below hb)
      clear hb HPr c3
      by_cases hr0 : r = 0
      · have e0 : ((r : Int) != 0) = false := by rw [hr0]; rfl
        subst hr0
        have hri : rightP 1 [l] = 0 := Hr.out.symm
        obtain ⟨hne, hin⟩ := right_ok hri
        have hE2 := HE.out
        unfold okE at hE2
        obtain ⟨hE1, hE3, hB0, hB1⟩ := of_decide_eq_true hE2
        obtain ⟨R0, hR0⟩ : ∃ R, (l.map (scP ((2 ^ s : Nat) : Int) X Y E)).filter (insB (-B) (E + B)) = R := ⟨_, rfl⟩
        obtain ⟨R1, hR1⟩ : ∃ R, (l.map (scP ((2 ^ u : Nat) : Int) X1 Y1 E)).filter (insB (-B) (E + B)) = R := ⟨_, rfl⟩
        have h12 : (R1.map (scP ((2 ^ m : Nat) : Int) X2 Y2 E)).filter (insB (-B) (E + B)) = R0 := by
          rw [← hR0, ← hR1, ← Hqw.out]
          exact two_steps hE1 hB0 Hq0.out HX1.out HY1.out HX2.out HY2.out Hps.out l
        have hl1 : R1.length ≤ 1000 := by rw [← hR1]; exact Nat.le_trans (List.length_filter_le _ _) (by rw [List.length_map]; exact HlenL.out)
        have hok1 : ∀ p ∈ R1, okPt p := by rw [← hR1]; exact in_ok HE.out
        have hu14 : u ≤ 14 := Nat.le_trans (Nat.le_of_lt hu8) (by decide)
        have hm14 : m ≤ 14 := Nat.le_trans (Nat.le_of_lt hm8) (by decide)
        have HF0 := Lib.hid fun W hv => feature_yes s X Y E B hs14 HXs.out HYs.out HE.out v l HlenL.out hin hri W hv R0 hR0
        have HF1 := Lib.hid fun W hv => feature_yes u X1 Y1 E B hu14 HX1l.out HY1l.out HE.out v l HlenL.out hin hri W hv R1 hR1
        have HF2 := Lib.hid fun W v2 (h : R1 ≠ []) hv => feature_yes m X2 Y2 E B hm14 HX2l.out HY2l.out HE.out v2 R1 hl1 hok1 (ok_right h hok1) W hv R0 h12
        have HFz := Lib.hid fun W => feature_zero m X2 Y2 E B hm14 HX2l.out HY2l.out HE.out W
        have H10 : Hid (R1 = [] → R0 = []) := fun e => by rw [← h12, e]; rfl
        clear hri hne hin hE2 hE1 hE3 hB0 hB1 hR0 hR1 h12 hl1 hok1 hu14 hm14 Hr
        have z0 : W6.cell? ⟨g1, 0, none⟩ = some (.int .i64 (s : Int)) := HS.out.z1.cell 0
        have z1 : W6.cell? ⟨g1, 1, none⟩ = some (.int .i64 (X : Int)) := HS.out.z1.cell 1
        have z2 : W6.cell? ⟨g1, 2, none⟩ = some (.int .i64 (Y : Int)) := HS.out.z1.cell 2
        have z3 : W6.cell? ⟨g1, 3, none⟩ = some (.int .i64 B) := HS.out.z1.cell 3
        have f0 : W6.cell? ⟨g5, 0, none⟩ = some (.bool false) := HS.out.f.cell 0
        have f1 : W6.cell? ⟨g5, 1, none⟩ = some (.int .u64 0) := HS.out.f.cell 1
        have f2 : W6.cell? ⟨g5, 2, none⟩ = some (.int .i64 1) := HS.out.f.cell 2
        have f3 : W6.cell? ⟨g5, 3, none⟩ = some (v) := HS.out.f.cell 3
        have f4 : W6.cell? ⟨g5, 4, none⟩ = some (.slice none 0 0) := HS.out.f.cell 4
        go_wp2_with fail
        refine (HF0.out W6 HS.out.v).mono ?_
        rintro e W7 ⟨hb, hcase⟩
        obtain ⟨ty0, A0, n0, c0, t0, he, hc⟩ := fpost_val hcase
        clear hcase
        subst he
        have HB := Lib.hid (keepBelow hb HB.out)
        have HS := Lib.hid (HS.out.below hb)
        have HG0 := Lib.hid (Got.made hc)
        clear hb hc HF0 z0 z1 z2 z3 f0 f1 f2 f3 f4
        go_upto_region 10 with (fail)
        obtain ⟨g7, hg7⟩ : ∃ g, g = W7.heap.size := ⟨_, rfl⟩
        have ha := alloc_past W7 (.cells #[.bool false, .int .u64 0, .int .i64 ty0, .slice A0 n0 c0, .slice none 0 0] 30)
        have hw := Whole.new W7 30 #[.bool false, .int .u64 0, .int .i64 ty0, .slice A0 n0 c0, .slice none 0 0]
        obtain ⟨W8, hW8⟩ : ∃ W, W = W7.alloc (.cells #[.bool false, .int .u64 0, .int .i64 ty0, .slice A0 n0 c0, .slice none 0 0] 30) := ⟨_, rfl⟩
        rw [← hW8] at ha hw ⊢
        rw [← hg7] at hw ⊢
        have HB := Lib.hid (keepBelow ha HB.out)
        have HS := Lib.hid (HS.out.below ha)
        have HG0 := Lib.hid (HG0.out.below ha)
        have HW7 := Lib.hid hw
        clear ha hw hW8 hg7
        have z0 : W8.cell? ⟨g2, 0, none⟩ = some (.int .i64 (u : Int)) := HS.out.z2.cell 0
        have z1 : W8.cell? ⟨g2, 1, none⟩ = some (.int .i64 (X1 : Int)) := HS.out.z2.cell 1
        have z2 : W8.cell? ⟨g2, 2, none⟩ = some (.int .i64 (Y1 : Int)) := HS.out.z2.cell 2
        have z3 : W8.cell? ⟨g2, 3, none⟩ = some (.int .i64 B) := HS.out.z2.cell 3
        have f0 : W8.cell? ⟨g5, 0, none⟩ = some (.bool false) := HS.out.f.cell 0
        have f1 : W8.cell? ⟨g5, 1, none⟩ = some (.int .u64 0) := HS.out.f.cell 1
        have f2 : W8.cell? ⟨g5, 2, none⟩ = some (.int .i64 1) := HS.out.f.cell 2
        have f3 : W8.cell? ⟨g5, 3, none⟩ = some (v) := HS.out.f.cell 3
        have f4 : W8.cell? ⟨g5, 4, none⟩ = some (.slice none 0 0) := HS.out.f.cell 4
        go_wp2_with fail
        refine (HF1.out W8 HS.out.v).mono ?_
        rintro e W9 ⟨hb, hcase⟩
        obtain ⟨ty1, A1, n1, c1, t1, he, hc⟩ := fpost_val hcase
        clear hcase
        subst he
        have HB := Lib.hid (keepBelow hb HB.out)
        have HS := Lib.hid (HS.out.below hb)
        have HG0 := Lib.hid (HG0.out.below hb)
        have HW7 := Lib.hid (HW7.out.below hb HW7.out.lt)
        have Hc := Lib.hid hc
        clear hb hc HF1 z0 z1 z2 z3 f0 f1 f2 f3 f4
        go_upto_region 11 with (fail)
        obtain ⟨g9, hg9⟩ : ∃ g, g = W9.heap.size := ⟨_, rfl⟩
        have ha := alloc_past W9 (.cells #[.bool false, .int .u64 0, .int .i64 ty1, .slice A1 n1 c1, .slice none 0 0] 30)
        have hw := Whole.new W9 30 #[.bool false, .int .u64 0, .int .i64 ty1, .slice A1 n1 c1, .slice none 0 0]
        obtain ⟨W10, hW10⟩ : ∃ W, W = W9.alloc (.cells #[.bool false, .int .u64 0, .int .i64 ty1, .slice A1 n1 c1, .slice none 0 0] 30) := ⟨_, rfl⟩
        rw [← hW10] at ha hw ⊢
        rw [← hg9] at hw ⊢
        have HB := Lib.hid (keepBelow ha HB.out)
        have HS := Lib.hid (HS.out.below ha)
        have HG0 := Lib.hid (HG0.out.below ha)
        have HW7 := Lib.hid (HW7.out.below ha HW7.out.lt)
        have Ha := Lib.hid ha
        have k0 : W10.cell? ⟨g9, 0, none⟩ = some (.bool false) := hw.cell 0
        have k1 : W10.cell? ⟨g9, 1, none⟩ = some (.int .u64 0) := hw.cell 1
        have k2 : W10.cell? ⟨g9, 2, none⟩ = some (.int .i64 ty1) := hw.cell 2
        have k3 : W10.cell? ⟨g9, 3, none⟩ = some (.slice A1 n1 c1) := hw.cell 3
        have k4 : W10.cell? ⟨g9, 4, none⟩ = some (.slice none 0 0) := hw.cell 4
        clear ha hw hW10 hg9
        have z0 : W10.cell? ⟨g3, 0, none⟩ = some (.int .i64 (m : Int)) := HS.out.z3.cell 0
        have z1 : W10.cell? ⟨g3, 1, none⟩ = some (.int .i64 (X2 : Int)) := HS.out.z3.cell 1
        have z2 : W10.cell? ⟨g3, 2, none⟩ = some (.int .i64 (Y2 : Int)) := HS.out.z3.cell 2
        have z3 : W10.cell? ⟨g3, 3, none⟩ = some (.int .i64 B) := HS.out.z3.cell 3
        rcases Hc.out with ⟨q1, q2, q3, q4, q5, q6⟩ | ⟨q1, q2, q3, q4⟩
        · subst q2 q3 q4 q5 q6
          have hR00 := H10.out q1
          obtain rfl : t0 = false := by
            rcases HG0.out with ⟨_, h⟩ | ⟨h, _, _⟩
            · exact h
            · exact absurd hR00 h
          clear Hc Ha HF2 H10 q1 hR00 HG0 HW7
          go_wp2_with fail
          refine (HFz.out W10).mono ?_
          rintro e W11 ⟨hb, hcase⟩
          obtain ⟨ty2, A2, n2, c2, t2, he, hc⟩ := fpost_val hcase
          clear hcase
          subst he
          obtain rfl : t2 = false := by
            rcases hc with ⟨_, _, _, _, _, h⟩ | ⟨h, _⟩
            · exact h
            · exact absurd rfl h
          have HB := Lib.hid (keepBelow hb HB.out)
          have HB := Lib.hid (HB.out.alloc HB.out.size (.cells #[.bool false, .int .u64 0, .int .i64 ty2, .slice A2 n2 c2, .slice none 0 0] 30))
          clear hb hc HFz z0 z1 z2 z3 k0 k1 k2 k3 k4
          go_wp2_with fail
          refine (HL.out _).mono ?_
          rintro e W20 ⟨rfl, hb⟩
          have HB := Lib.hid (keepBelow hb HB.out)
          clear hb
          go_wp2_with fail
          go_ret
          exact ⟨rfl, HB.out⟩
        · subst q2 q3
          have hpf := q4.below Ha.out
          have HF2 := Lib.hid (HF2.out W10 (.slice A1 n1 c1) q1 hpf.rd)
          clear Hc Ha HFz H10 q1 q4 hpf
          go_wp2_with fail
          refine HF2.out.mono ?_
          rintro e W11 ⟨hb, hcase⟩
          obtain ⟨ty2, A2, n2, c2, t2, he, hc⟩ := fpost_val hcase
          clear hcase
          subst he
          have HB := Lib.hid (keepBelow hb HB.out)
          have HG0 := Lib.hid (HG0.out.below hb)
          have HW7 := Lib.hid (HW7.out.below hb HW7.out.lt)
          have HG2 := Lib.hid (Got.made hc)
          clear hb hc HF2 z0 z1 z2 z3 k0 k1 k2 k3 k4
          go_upto_region 12 with (fail)
          obtain ⟨g11, hg11⟩ : ∃ g, g = W11.heap.size := ⟨_, rfl⟩
          have ha := alloc_past W11 (.cells #[.bool false, .int .u64 0, .int .i64 ty2, .slice A2 n2 c2, .slice none 0 0] 30)
          have hw := Whole.new W11 30 #[.bool false, .int .u64 0, .int .i64 ty2, .slice A2 n2 c2, .slice none 0 0]
          obtain ⟨W12, hW12⟩ : ∃ W, W = W11.alloc (.cells #[.bool false, .int .u64 0, .int .i64 ty2, .slice A2 n2 c2, .slice none 0 0] 30) := ⟨_, rfl⟩
          rw [← hW12] at ha hw ⊢
          rw [← hg11] at hw ⊢
          have HB := Lib.hid (keepBelow ha HB.out)
          have HG0 := Lib.hid (HG0.out.below ha)
          have HG2 := Lib.hid (HG2.out.below ha)
          have HW7 := HW7.out.below ha HW7.out.lt
          have c0' : W12.cell? ⟨g7, 3, none⟩ = some (.slice A0 n0 c0) := HW7.cell 3
          have c2' : W12.cell? ⟨g11, 3, none⟩ = some (.slice A2 n2 c2) := hw.cell 3
          clear ha hw hW12 hg11 HW7
          rcases HG0.out with ⟨w1, w2⟩ | ⟨w1, w2, w3⟩
          · obtain rfl : t2 = false := by
              rcases HG2.out with ⟨_, h⟩ | ⟨h, _, _⟩
              · exact h
              · exact absurd w1 h
            subst w2
            clear w1 HG0 HG2
            go_wp2_with fail
            refine (HL.out _).mono ?_
            rintro e W20 ⟨rfl, hb⟩
            have HB := Lib.hid (keepBelow hb HB.out)
            clear hb
            go_wp2_with fail
            go_ret
            exact ⟨rfl, HB.out⟩
          · obtain ⟨w4, w5⟩ : t2 = true ∧ RdPP W12 W12.heap.size (.slice A2 n2 c2) [R0] := by
              rcases HG2.out with ⟨h, _⟩ | ⟨_, h1, h2⟩
              · exact absurd h w1
              · exact ⟨h1, h2⟩
            subst w2 w4
            have HSm := Lib.hid (same_one (.slice A0 n0 c0) (.slice A2 n2 c2) R0 W12 w3 w5)
            clear w1 w3 w5 HG0 HG2
            go_wp2_with fail
            refine HSm.out.mono ?_
            rintro e W13 ⟨rfl, hb⟩
            have HB := Lib.hid (keepBelow hb HB.out)
            clear hb HSm c0' c2'
            go_wp2_with fail
            refine (HL.out _).mono ?_
            rintro e W20 ⟨rfl, hb⟩
            have HB := Lib.hid (keepBelow hb HB.out)
            clear hb
            go_wp2_with fail
            go_ret
            exact ⟨rfl, HB.out⟩
      · have e0 : ((r : Int) != 0) = true := by simp [hr0]
        go_wp2_with fail
        refine (HL.out _).mono ?_
        rintro e W7 ⟨rfl, hb⟩
        have HB := Lib.hid (keepBelow hb HB.out)
        clear hb
        go_wp2_with fail
        go_ret
        exact ⟨rfl, HB.out⟩
theorem overSteps_walk2 (v : Value) (A D x y : Nat) (E B : Int) (w : World) (g : ∃ l, RdP w w.heap.size v l) (hA : A < 256) (hD : D < 256) (hx : x < 4294967296) (hy : y < 4294967296) (_ : -9223372036854775808 ≤ E ∧ E < 9223372036854775808) (_ : -9223372036854775808 ≤ B ∧ B < 9223372036854775808) :
    Calls Try.prog 3 #[v, .int .u8 (A : Int), .int .u8 (D : Int), .int .u32 (x : Int), .int .u32 (y : Int), .int .i64 E, .int .i64 B] w fun e w' => e = .returned (.bool true) ∧ Below w.heap.size w w' := by
  obtain ⟨l, hl⟩ := g
  exact overSteps_walk v l A D x y E B w hA hD hx hy hl
end Go.Proofs.Ytnajladngpphkaa
