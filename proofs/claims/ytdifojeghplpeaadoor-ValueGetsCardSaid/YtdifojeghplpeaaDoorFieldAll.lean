/- Walks over layer 7: field. -/
import Derived.Test.YtdifojeghplpeaaDoorField
namespace Go.Proofs.YtdifojeghplpeaaDoor
open Go.RowKit Var
set_option linter.unusedVariables false
set_option maxRecDepth 100000

/-- What field hands back. -/
def FldPost (w : World) (r : Nat × F × Nat) (e : Ending) (w' : World) : Prop :=
  ∃ a c, e = .returned (.tuple #[.agg #[.int .i64 (r.2.1.num : Int), .int .i64 (r.2.1.kind : Int), .int .u64 (r.2.1.int : Int), .slice a r.2.1.data.length c], .int .i64 (r.2.2 : Int), .int .i64 (r.1 : Int)]) ∧ Nums .u8 w' w'.heap.size a r.2.1.data ∧ (∀ x, a = some x → w.heap.size ≤ x.block) ∧ Below w.heap.size w w'

theorem modI (x k : Nat) (h : x % 8 = k) : (x : Int) % 8 = (k : Int) := by omega

set_option maxHeartbeats 2000000 in
theorem field_e0 (a : Option Addr) (L c p X y z : Nat) (w : World) (HV : Hid (∀ W, Below w.heap.size w W → Calls Tryd.prog 51 #[.slice a L c, .int .i64 (p : Int)] W (Three X y z W))) (hz : z ≠ 0) :
    Calls Tryd.prog 42 #[.slice a L c, .int .i64 (p : Int)] w (FldPost w (z, ⟨0, 0, 0, []⟩, 0)) := by
  have hz0 : ((z : Int) != 0) = true := by simp; omega
  clear hz
  go_enter Tryd.func42, Tryd.ntmps42
  go_wp2_with fail
  refine (HV.out _ ((Below.refl _ _).alloc (Nat.le_refl _) _)).mono ?_
  rintro e W ⟨rfl, rfl⟩
  go_wp2_with fail
  go_returns
  exact ⟨none, 0, rfl, Nums.nil_, (fun x e => by cases e), by go_grown⟩

set_option maxHeartbeats 2000000 in
theorem field_form (a : Option Addr) (L c p X y : Nat) (w : World) (HV : Hid (∀ W, Below w.heap.size w W → Calls Tryd.prog 51 #[.slice a L c, .int .i64 (p : Int)] W (Three X y 0 W))) (hX : X < 18446744073709551616) (hn : X / 8 < 1 ∨ 536870911 < X / 8) :
    Calls Tryd.prog 42 #[.slice a L c, .int .i64 (p : Int)] w (FldPost w (3, ⟨0, 0, 0, []⟩, 0)) := by
  have hz : ((0 : Int) != 0) = false := by decide
  rcases (show X / 8 < 1 ∨ (¬ X / 8 < 1 ∧ 536870911 < X / 8) by omega) with h1 | ⟨h1, h2⟩
  · have g1 : decide ((X : Int) / 8 < 1) = true := decide_eq_true (by omega)
    clear hn h1
    go_enter Tryd.func42, Tryd.ntmps42
    go_wp2_with fail
    refine (HV.out _ ((Below.refl _ _).alloc (Nat.le_refl _) _)).mono ?_
    rintro e W ⟨rfl, rfl⟩
    go_wp2_with fail
    go_returns
    exact ⟨none, 0, rfl, Nums.nil_, (fun x e => by cases e), by go_grown⟩

  · have g1 : decide ((X : Int) / 8 < 1) = false := decide_eq_false (by omega)
    have g2 : decide ((536870911 : Int) < (X : Int) / 8) = true := decide_eq_true (by omega)
    clear hn h1 h2
    go_enter Tryd.func42, Tryd.ntmps42
    go_wp2_with fail
    refine (HV.out _ ((Below.refl _ _).alloc (Nat.le_refl _) _)).mono ?_
    rintro e W ⟨rfl, rfl⟩
    go_wp2_with fail
    go_returns
    exact ⟨none, 0, rfl, Nums.nil_, (fun x e => by cases e), by go_grown⟩

set_option maxHeartbeats 4000000 in
theorem field_other (a : Option Addr) (L c p X y : Nat) (w : World) (HV : Hid (∀ W, Below w.heap.size w W → Calls Tryd.prog 51 #[.slice a L c, .int .i64 (p : Int)] W (Three X y 0 W))) (hX : X < 18446744073709551616) (hn1 : 1 ≤ X / 8) (hn2 : X / 8 ≤ 536870911) (k0 : ¬ X % 8 = 0) (k1 : ¬ X % 8 = 1) (k5 : ¬ X % 8 = 5) (k2 : ¬ X % 8 = 2) :
    Calls Tryd.prog 42 #[.slice a L c, .int .i64 (p : Int)] w (FldPost w (3, ⟨0, 0, 0, []⟩, 0)) := by
  have hz : ((0 : Int) != 0) = false := by decide
  have g1 : decide ((X : Int) / 8 < 1) = false := decide_eq_false (by omega)
  have g2 : decide ((536870911 : Int) < (X : Int) / 8) = false := decide_eq_false (by omega)
  have q0 : ((X : Int) % 8 == 0) = false := by simp; omega
  have q1 : ((X : Int) % 8 == 1) = false := by simp; omega
  have q5 : ((X : Int) % 8 == 5) = false := by simp; omega
  have q2 : ((X : Int) % 8 == 2) = false := by simp; omega
  clear k0 k1 k5 k2
  go_enter Tryd.func42, Tryd.ntmps42
  go_wp2_with fail
  refine (HV.out _ ((Below.refl _ _).alloc (Nat.le_refl _) _)).mono ?_
  rintro e W ⟨rfl, rfl⟩
  go_wp2_with fail
  go_returns
  exact ⟨none, 0, rfl, Nums.nil_, (fun x e => by cases e), by go_grown⟩

set_option maxHeartbeats 4000000 in
theorem field_var_ok (a : Option Addr) (L c p X y : Nat) (w : World) (HV : Hid (∀ W, Below w.heap.size w W → Calls Tryd.prog 51 #[.slice a L c, .int .i64 (p : Int)] W (Three X y 0 W))) (hX : X < 18446744073709551616) (hn1 : 1 ≤ X / 8) (hn2 : X / 8 ≤ 536870911) (hk : X % 8 = 0) (v q E : Nat) (hv : v < 18446744073709551616) (HW : Hid (∀ W, Below w.heap.size w W → Calls Tryd.prog 51 #[.slice a L c, .int .i64 (y : Int)] W (Three v q E W))) (hE : E = 0) :
    Calls Tryd.prog 42 #[.slice a L c, .int .i64 (p : Int)] w (FldPost w (0, ⟨X / 8, 0, v, []⟩, q)) := by
  have hz : ((0 : Int) != 0) = false := by decide
  have g1 : decide ((X : Int) / 8 < 1) = false := decide_eq_false (by omega)
  have g2 : decide ((536870911 : Int) < (X : Int) / 8) = false := decide_eq_false (by omega)
  have hdiv : (X : Int) / 8 = ((X / 8 : Nat) : Int) := by omega
  obtain ⟨D, hD⟩ : ∃ D, D = X / 8 := ⟨_, rfl⟩
  rw [← hD] at hdiv hn1 hn2 ⊢
  have hmod := modI X 0 hk
  clear hk hD
  subst hE
  go_enter Tryd.func42, Tryd.ntmps42
  go_wp2_with fail
  refine (HV.out _ ((Below.refl _ _).alloc (Nat.le_refl _) _)).mono ?_
  rintro e W ⟨rfl, rfl⟩
  go_wp2_with fail
  refine (HW.out _ (by go_grown)).mono ?_
  rintro e W ⟨rfl, rfl⟩
  go_wp2_with fail
  go_returns
  exact ⟨none, 0, rfl, Nums.nil_, (fun x e => by cases e), by go_grown⟩

set_option maxHeartbeats 4000000 in
theorem field_var_err (a : Option Addr) (L c p X y : Nat) (w : World) (HV : Hid (∀ W, Below w.heap.size w W → Calls Tryd.prog 51 #[.slice a L c, .int .i64 (p : Int)] W (Three X y 0 W))) (hX : X < 18446744073709551616) (hn1 : 1 ≤ X / 8) (hn2 : X / 8 ≤ 536870911) (hk : X % 8 = 0) (v q E : Nat) (hv : v < 18446744073709551616) (HW : Hid (∀ W, Below w.heap.size w W → Calls Tryd.prog 51 #[.slice a L c, .int .i64 (y : Int)] W (Three v q E W))) (hE : E ≠ 0) :
    Calls Tryd.prog 42 #[.slice a L c, .int .i64 (p : Int)] w (FldPost w (E, ⟨0, 0, 0, []⟩, 0)) := by
  have hz : ((0 : Int) != 0) = false := by decide
  have g1 : decide ((X : Int) / 8 < 1) = false := decide_eq_false (by omega)
  have g2 : decide ((536870911 : Int) < (X : Int) / 8) = false := decide_eq_false (by omega)
  have hdiv : (X : Int) / 8 = ((X / 8 : Nat) : Int) := by omega
  obtain ⟨D, hD⟩ : ∃ D, D = X / 8 := ⟨_, rfl⟩
  rw [← hD] at hdiv hn1 hn2
  have hmod := modI X 0 hk
  clear hk hD
  have hE0 : ((E : Int) != 0) = true := by simp; omega
  clear hE
  go_enter Tryd.func42, Tryd.ntmps42
  go_wp2_with fail
  refine (HV.out _ ((Below.refl _ _).alloc (Nat.le_refl _) _)).mono ?_
  rintro e W ⟨rfl, rfl⟩
  go_wp2_with fail
  refine (HW.out _ (by go_grown)).mono ?_
  rintro e W ⟨rfl, rfl⟩
  go_wp2_with fail
  go_returns
  exact ⟨none, 0, rfl, Nums.nil_, (fun x e => by cases e), by go_grown⟩

set_option maxHeartbeats 4000000 in
theorem field_w8_ok (a : Option Addr) (L c p X y : Nat) (w : World) (HV : Hid (∀ W, Below w.heap.size w W → Calls Tryd.prog 51 #[.slice a L c, .int .i64 (p : Int)] W (Three X y 0 W))) (hX : X < 18446744073709551616) (hn1 : 1 ≤ X / 8) (hn2 : X / 8 ≤ 536870911) (hk : X % 8 = 1) (v q E : Nat) (hv : v < 18446744073709551616) (HW : Hid (∀ W, Below w.heap.size w W → Calls Tryd.prog 52 #[.slice a L c, .int .i64 (y : Int), .int .i64 8] W (Three v q E W))) (hE : E = 0) :
    Calls Tryd.prog 42 #[.slice a L c, .int .i64 (p : Int)] w (FldPost w (0, ⟨X / 8, 1, v, []⟩, q)) := by
  have hz : ((0 : Int) != 0) = false := by decide
  have g1 : decide ((X : Int) / 8 < 1) = false := decide_eq_false (by omega)
  have g2 : decide ((536870911 : Int) < (X : Int) / 8) = false := decide_eq_false (by omega)
  have hdiv : (X : Int) / 8 = ((X / 8 : Nat) : Int) := by omega
  obtain ⟨D, hD⟩ : ∃ D, D = X / 8 := ⟨_, rfl⟩
  rw [← hD] at hdiv hn1 hn2 ⊢
  have hmod := modI X 1 hk
  clear hk hD
  subst hE
  go_enter Tryd.func42, Tryd.ntmps42
  go_wp2_with fail
  refine (HV.out _ ((Below.refl _ _).alloc (Nat.le_refl _) _)).mono ?_
  rintro e W ⟨rfl, rfl⟩
  go_wp2_with fail
  refine (HW.out _ (by go_grown)).mono ?_
  rintro e W ⟨rfl, rfl⟩
  go_wp2_with fail
  go_returns
  exact ⟨none, 0, rfl, Nums.nil_, (fun x e => by cases e), by go_grown⟩

set_option maxHeartbeats 4000000 in
theorem field_w8_err (a : Option Addr) (L c p X y : Nat) (w : World) (HV : Hid (∀ W, Below w.heap.size w W → Calls Tryd.prog 51 #[.slice a L c, .int .i64 (p : Int)] W (Three X y 0 W))) (hX : X < 18446744073709551616) (hn1 : 1 ≤ X / 8) (hn2 : X / 8 ≤ 536870911) (hk : X % 8 = 1) (v q E : Nat) (hv : v < 18446744073709551616) (HW : Hid (∀ W, Below w.heap.size w W → Calls Tryd.prog 52 #[.slice a L c, .int .i64 (y : Int), .int .i64 8] W (Three v q E W))) (hE : E ≠ 0) :
    Calls Tryd.prog 42 #[.slice a L c, .int .i64 (p : Int)] w (FldPost w (E, ⟨0, 0, 0, []⟩, 0)) := by
  have hz : ((0 : Int) != 0) = false := by decide
  have g1 : decide ((X : Int) / 8 < 1) = false := decide_eq_false (by omega)
  have g2 : decide ((536870911 : Int) < (X : Int) / 8) = false := decide_eq_false (by omega)
  have hdiv : (X : Int) / 8 = ((X / 8 : Nat) : Int) := by omega
  obtain ⟨D, hD⟩ : ∃ D, D = X / 8 := ⟨_, rfl⟩
  rw [← hD] at hdiv hn1 hn2
  have hmod := modI X 1 hk
  clear hk hD
  have hE0 : ((E : Int) != 0) = true := by simp; omega
  clear hE
  go_enter Tryd.func42, Tryd.ntmps42
  go_wp2_with fail
  refine (HV.out _ ((Below.refl _ _).alloc (Nat.le_refl _) _)).mono ?_
  rintro e W ⟨rfl, rfl⟩
  go_wp2_with fail
  refine (HW.out _ (by go_grown)).mono ?_
  rintro e W ⟨rfl, rfl⟩
  go_wp2_with fail
  go_returns
  exact ⟨none, 0, rfl, Nums.nil_, (fun x e => by cases e), by go_grown⟩

set_option maxHeartbeats 4000000 in
theorem field_w4_ok (a : Option Addr) (L c p X y : Nat) (w : World) (HV : Hid (∀ W, Below w.heap.size w W → Calls Tryd.prog 51 #[.slice a L c, .int .i64 (p : Int)] W (Three X y 0 W))) (hX : X < 18446744073709551616) (hn1 : 1 ≤ X / 8) (hn2 : X / 8 ≤ 536870911) (hk : X % 8 = 5) (v q E : Nat) (hv : v < 18446744073709551616) (HW : Hid (∀ W, Below w.heap.size w W → Calls Tryd.prog 52 #[.slice a L c, .int .i64 (y : Int), .int .i64 4] W (Three v q E W))) (hE : E = 0) :
    Calls Tryd.prog 42 #[.slice a L c, .int .i64 (p : Int)] w (FldPost w (0, ⟨X / 8, 5, v, []⟩, q)) := by
  have hz : ((0 : Int) != 0) = false := by decide
  have g1 : decide ((X : Int) / 8 < 1) = false := decide_eq_false (by omega)
  have g2 : decide ((536870911 : Int) < (X : Int) / 8) = false := decide_eq_false (by omega)
  have hdiv : (X : Int) / 8 = ((X / 8 : Nat) : Int) := by omega
  obtain ⟨D, hD⟩ : ∃ D, D = X / 8 := ⟨_, rfl⟩
  rw [← hD] at hdiv hn1 hn2 ⊢
  have hmod := modI X 5 hk
  clear hk hD
  subst hE
  go_enter Tryd.func42, Tryd.ntmps42
  go_wp2_with fail
  refine (HV.out _ ((Below.refl _ _).alloc (Nat.le_refl _) _)).mono ?_
  rintro e W ⟨rfl, rfl⟩
  go_wp2_with fail
  refine (HW.out _ (by go_grown)).mono ?_
  rintro e W ⟨rfl, rfl⟩
  go_wp2_with fail
  go_returns
  exact ⟨none, 0, rfl, Nums.nil_, (fun x e => by cases e), by go_grown⟩

set_option maxHeartbeats 4000000 in
theorem field_w4_err (a : Option Addr) (L c p X y : Nat) (w : World) (HV : Hid (∀ W, Below w.heap.size w W → Calls Tryd.prog 51 #[.slice a L c, .int .i64 (p : Int)] W (Three X y 0 W))) (hX : X < 18446744073709551616) (hn1 : 1 ≤ X / 8) (hn2 : X / 8 ≤ 536870911) (hk : X % 8 = 5) (v q E : Nat) (hv : v < 18446744073709551616) (HW : Hid (∀ W, Below w.heap.size w W → Calls Tryd.prog 52 #[.slice a L c, .int .i64 (y : Int), .int .i64 4] W (Three v q E W))) (hE : E ≠ 0) :
    Calls Tryd.prog 42 #[.slice a L c, .int .i64 (p : Int)] w (FldPost w (E, ⟨0, 0, 0, []⟩, 0)) := by
  have hz : ((0 : Int) != 0) = false := by decide
  have g1 : decide ((X : Int) / 8 < 1) = false := decide_eq_false (by omega)
  have g2 : decide ((536870911 : Int) < (X : Int) / 8) = false := decide_eq_false (by omega)
  have hdiv : (X : Int) / 8 = ((X / 8 : Nat) : Int) := by omega
  obtain ⟨D, hD⟩ : ∃ D, D = X / 8 := ⟨_, rfl⟩
  rw [← hD] at hdiv hn1 hn2
  have hmod := modI X 5 hk
  clear hk hD
  have hE0 : ((E : Int) != 0) = true := by simp; omega
  clear hE
  go_enter Tryd.func42, Tryd.ntmps42
  go_wp2_with fail
  refine (HV.out _ ((Below.refl _ _).alloc (Nat.le_refl _) _)).mono ?_
  rintro e W ⟨rfl, rfl⟩
  go_wp2_with fail
  refine (HW.out _ (by go_grown)).mono ?_
  rintro e W ⟨rfl, rfl⟩
  go_wp2_with fail
  go_returns
  exact ⟨none, 0, rfl, Nums.nil_, (fun x e => by cases e), by go_grown⟩

set_option maxHeartbeats 4000000 in
theorem field_bytes_ok (a : Option Addr) (L c p X y : Nat) (w : World) (HV : Hid (∀ W, Below w.heap.size w W → Calls Tryd.prog 51 #[.slice a L c, .int .i64 (p : Int)] W (Three X y 0 W))) (hX : X < 18446744073709551616) (hn1 : 1 ≤ X / 8) (hn2 : X / 8 ≤ 536870911) (hk : X % 8 = 2) (d : List Nat) (q E : Nat) (HW : Hid (∀ W, Below w.heap.size w W → Calls Tryd.prog 53 #[.slice a L c, .int .i64 (y : Int)] W (ContPost W d q E))) (hE : E = 0) :
    Calls Tryd.prog 42 #[.slice a L c, .int .i64 (p : Int)] w (FldPost w (0, ⟨X / 8, 2, 0, d⟩, q)) := by
  have hz : ((0 : Int) != 0) = false := by decide
  have g1 : decide ((X : Int) / 8 < 1) = false := decide_eq_false (by omega)
  have g2 : decide ((536870911 : Int) < (X : Int) / 8) = false := decide_eq_false (by omega)
  have hdiv : (X : Int) / 8 = ((X / 8 : Nat) : Int) := by omega
  obtain ⟨D, hD⟩ : ∃ D, D = X / 8 := ⟨_, rfl⟩
  rw [← hD] at hdiv hn1 hn2 ⊢
  have hmod := modI X 2 hk
  clear hk hD
  subst hE
  go_enter Tryd.func42, Tryd.ntmps42
  go_wp2_with fail
  refine (HV.out _ ((Below.refl _ _).alloc (Nat.le_refl _) _)).mono ?_
  rintro e W ⟨rfl, rfl⟩
  go_wp2_with fail
  refine (HW.out _ (by go_grown)).mono ?_
  rintro e W1 ⟨v1, rfl, ho, hb⟩
  obtain ⟨hA, hB, hbw, hsz⟩ := two_kept hb
  have hS : Hid (∀ b, v1.ownBlock = some b → ¬ (b = w.heap.size ∨ b = w.heap.size + 1)) := fun b e => by
    have := (ho.lt b e).1
    simp at this
    omega
  have hlo : Hid (∀ b, v1.ownBlock = some b → w.heap.size ≤ b) := fun b e => by
    have := (ho.lt b e).1
    simp at this
    omega
  obtain ⟨a1, c1, rfl, _, _, _, hN⟩ := ho.nums
  have Ho := Lib.hid ho
  have HB := Lib.hid hbw
  have cb0 := hB.cell 0
  have cb1 := hB.cell 1
  have cb2 := hB.cell 2
  have fb3 := hB.frozen 3
  have fa0 := hA.frozen 0
  have fa1 := hA.frozen 1
  have fa2 := hA.frozen 2
  have fa3 := hA.frozen 3
  have ca0 := hA.cell 0
  have ca1 := hA.cell 1
  have ca2 := hA.cell 2
  have ca3 := hA.cell 3
  have cb3 := hB.cell 3
  simp only [List.getElem?_toArray, List.getElem?_cons_zero, List.getElem?_cons_succ] at ca0 ca1 ca2 ca3 cb0 cb1 cb2 cb3
  clear ho hb hA hB hbw hN HV HW
  go_wp2_with fail
  refine bodyPost_ret (v := .tuple #[.agg #[.int .i64 (D : Int), .int .i64 2, .int .u64 0, .slice a1 d.length c1], .int .i64 (q : Int), .int .i64 0]) (by simp [results, Tryd.results42, go_sem, ca0, ca1, ca2, ca3]) rfl ?_
  have hO : Only (fun b => b = w.heap.size ∨ b = w.heap.size + 1) W1 _ := ((((Only.refl _ W1).setCell (p := ⟨w.heap.size + 1, 3, none⟩) (fun _ => .inr rfl) (.slice a1 d.length c1)).setCell (p := ⟨w.heap.size, 0, none⟩) (fun _ => .inl rfl) (.int .i64 (D : Int))).setCell (p := ⟨w.heap.size, 1, none⟩) (fun _ => .inl rfl) (.int .i64 2)).setCell (p := ⟨w.heap.size, 2, none⟩) (fun _ => .inl rfl) (.int .u64 0) |>.setCell (p := ⟨w.heap.size, 3, none⟩) (fun _ => .inl rfl) (.slice a1 d.length c1)
  obtain ⟨a2, c2, e2, _, _, _, hN2⟩ := (Ho.out.only hO hS.out).nums
  injection e2 with e2 _ e3
  subst e2 e3
  exact ⟨_, _, rfl, hN2, (fun x e => hlo.out x.block (by subst e; rfl)), HB.out.trans (hO.below (B := w.heap.size) (fun b hb e => by omega) HB.out.size)⟩

set_option maxHeartbeats 4000000 in
theorem field_bytes_err (a : Option Addr) (L c p X y : Nat) (w : World) (HV : Hid (∀ W, Below w.heap.size w W → Calls Tryd.prog 51 #[.slice a L c, .int .i64 (p : Int)] W (Three X y 0 W))) (hX : X < 18446744073709551616) (hn1 : 1 ≤ X / 8) (hn2 : X / 8 ≤ 536870911) (hk : X % 8 = 2) (d : List Nat) (q E : Nat) (HW : Hid (∀ W, Below w.heap.size w W → Calls Tryd.prog 53 #[.slice a L c, .int .i64 (y : Int)] W (ContPost W d q E))) (hE : E ≠ 0) :
    Calls Tryd.prog 42 #[.slice a L c, .int .i64 (p : Int)] w (FldPost w (E, ⟨0, 0, 0, []⟩, 0)) := by
  have hz : ((0 : Int) != 0) = false := by decide
  have g1 : decide ((X : Int) / 8 < 1) = false := decide_eq_false (by omega)
  have g2 : decide ((536870911 : Int) < (X : Int) / 8) = false := decide_eq_false (by omega)
  have hdiv : (X : Int) / 8 = ((X / 8 : Nat) : Int) := by omega
  obtain ⟨D, hD⟩ : ∃ D, D = X / 8 := ⟨_, rfl⟩
  rw [← hD] at hdiv hn1 hn2
  have hmod := modI X 2 hk
  clear hk hD
  have hE0 : ((E : Int) != 0) = true := by simp; omega
  clear hE
  go_enter Tryd.func42, Tryd.ntmps42
  go_wp2_with fail
  refine (HV.out _ ((Below.refl _ _).alloc (Nat.le_refl _) _)).mono ?_
  rintro e W ⟨rfl, rfl⟩
  go_wp2_with fail
  refine (HW.out _ (by go_grown)).mono ?_
  rintro e W1 ⟨v1, rfl, ho, hb⟩
  obtain ⟨hA, hB, hbw, hsz⟩ := two_kept hb
  have hS : Hid (∀ b, v1.ownBlock = some b → ¬ (b = w.heap.size ∨ b = w.heap.size + 1)) := fun b e => by
    have := (ho.lt b e).1
    simp at this
    omega
  have hlo : Hid (∀ b, v1.ownBlock = some b → w.heap.size ≤ b) := fun b e => by
    have := (ho.lt b e).1
    simp at this
    omega
  obtain ⟨a1, c1, rfl, _, _, _, hN⟩ := ho.nums
  have Ho := Lib.hid ho
  have HB := Lib.hid hbw
  have cb0 := hB.cell 0
  have cb1 := hB.cell 1
  have cb2 := hB.cell 2
  have fb3 := hB.frozen 3
  have fa0 := hA.frozen 0
  have fa1 := hA.frozen 1
  have fa2 := hA.frozen 2
  have fa3 := hA.frozen 3
  have ca0 := hA.cell 0
  have ca1 := hA.cell 1
  have ca2 := hA.cell 2
  have ca3 := hA.cell 3
  have cb3 := hB.cell 3
  simp only [List.getElem?_toArray, List.getElem?_cons_zero, List.getElem?_cons_succ] at ca0 ca1 ca2 ca3 cb0 cb1 cb2 cb3
  clear ho hb hA hB hbw hN HV HW
  go_wp2_with fail
  refine bodyPost_ret (v := .tuple #[.agg #[.int .i64 0, .int .i64 0, .int .u64 0, .slice none 0 0], .int .i64 0, .int .i64 (E : Int)]) (by simp [results, Tryd.results42, go_sem, ca0, ca1, ca2, ca3]) rfl ?_
  exact ⟨none, 0, rfl, Nums.nil_, (fun x e => by cases e), HB.out.trans (((((((Only.refl (fun b => b = w.heap.size ∨ b = w.heap.size + 1) W1).setCell (p := ⟨w.heap.size + 1, 3, none⟩) (fun _ => .inr rfl) _).setCell (p := ⟨w.heap.size, 0, none⟩) (fun _ => .inl rfl) _).setCell (p := ⟨w.heap.size, 1, none⟩) (fun _ => .inl rfl) _).setCell (p := ⟨w.heap.size, 2, none⟩) (fun _ => .inl rfl) _).setCell (p := ⟨w.heap.size, 3, none⟩) (fun _ => .inl rfl) _).below (B := w.heap.size) (fun b hb e => by omega) HB.out.size)⟩

set_option maxHeartbeats 1000000 in
theorem field_any (a : Option Addr) (l : List Nat) (c p : Nat) (w : World) (hN : Nums .u8 w w.heap.size a l) (hd : ∀ x ∈ l, x < 256) (hc : l.length ≤ c) (hp : p < l.length) (hL : l.length ≤ 1000000) :
    Calls Tryd.prog 42 #[.slice a l.length c, .int .i64 (p : Int)] w (FldPost w (fld l p)) := by
  have hV : ∀ q, q ≤ l.length → Hid (∀ W, Below w.heap.size w W → Calls Tryd.prog 51 #[.slice a l.length c, .int .i64 (q : Int)] W (Three (vat l q).1 (vat l q).2.1 (vat l q).2.2 W)) := fun q hq W hb =>
    varint_vat a l c q W (cells8 ((hN.below hb).more hb.size) hd) (by omega) hq
  have hb := vat_bound l p
  have hy := vat_next (Nat.le_of_lt hp)
  have hVp := hV p (Nat.le_of_lt hp)
  unfold fld
  split
  · next h => exact field_e0 a l.length c p _ _ _ w hVp h
  · next h =>
    have h' : (vat l p).2.2 = 0 := by simpa using h
    rw [h'] at hVp
    split
    · next hn => exact field_form a l.length c p _ _ w hVp hb hn
    · next hn =>
      have hn1 : 1 ≤ (vat l p).1 / 8 := by omega
      have hn2 : (vat l p).1 / 8 ≤ 536870911 := by omega
      split
      · next hk =>
        split
        · next g => exact field_var_err a l.length c p _ _ w hVp hb hn1 hn2 hk _ _ _ (vat_bound _ _) (hV _ hy) g
        · next g => exact field_var_ok a l.length c p _ _ w hVp hb hn1 hn2 hk _ _ _ (vat_bound _ _) (hV _ hy) (by simpa using g)
      · split
        · next hk =>
          split
          · next g => exact field_w8_err a l.length c p _ _ w hVp hb hn1 hn2 hk 0 0 2 (by omega) (fun W _ => word_short a l.length c _ 8 W hy hL (by omega) g) (by omega)
          · next g =>
            have h3 := le_lt (cut l (vat l p).2.1 8) (cut_lt _ _ hd)
            rw [cut_length (by omega), pow8] at h3
            exact field_w8_ok a l.length c p _ _ w hVp hb hn1 hn2 hk _ _ 0 h3 (fun W hb => word_ok a l c _ 8 W (cells8 ((hN.below hb).more hb.size) hd) hd hy hL (by omega) g) rfl
        · split
          · next hk =>
            split
            · next g => exact field_w4_err a l.length c p _ _ w hVp hb hn1 hn2 hk 0 0 2 (by omega) (fun W _ => word_short a l.length c _ 4 W hy hL (by omega) g) (by omega)
            · next g =>
              have h3 := le_lt (cut l (vat l p).2.1 4) (cut_lt _ _ hd)
              rw [cut_length (by omega), pow4] at h3
              exact field_w4_ok a l.length c p _ _ w hVp hb hn1 hn2 hk _ _ 0 (by omega) (fun W hb => word_ok a l c _ 4 W (cells8 ((hN.below hb).more hb.size) hd) hd hy hL (by omega) g) rfl
          · split
            · next hk =>
              split
              · next g => exact field_bytes_err a l.length c p _ _ w hVp hb hn1 hn2 hk [] 0 _ (fun W hb => content_err a l c _ W (cells8 ((hN.below hb).more hb.size) hd) hy hL g) g
              · next g =>
                have g' : (vat l (vat l p).2.1).2.2 = 0 := by simpa using g
                split
                · next k => exact field_bytes_err a l.length c p _ _ w hVp hb hn1 hn2 hk [] 0 2 (fun W hb => content_short a l c _ W (cells8 ((hN.below hb).more hb.size) hd) hy hL g' k) (by omega)
                · next k => exact field_bytes_ok a l.length c p _ _ w hVp hb hn1 hn2 hk _ _ 0 (fun W hb => content_ok a l c _ W ((hN.below hb).more hb.size) hd hc (by have := vat_step hy g'; omega) hL g' k) rfl
            · next k1 k2 k3 k4 => exact field_other a l.length c p _ _ w hVp hb hn1 hn2 k1 k2 k3 k4
end Go.Proofs.YtdifojeghplpeaaDoor
