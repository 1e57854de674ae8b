/- HRead -/
import Derived.Test.YtngnhkghpnamoaaGc16
import Derived.Test.YtngnhkghpnamoaaGc02
import Derived.BigQuiet
import Derived.Deep.QuietTactic
import Derived.Outline
namespace Go.Proofs.Ytngnhkghpnamoaa
open Go.RowKit Bit
set_option linter.unusedVariables false
set_option maxRecDepth 100000

theorem Only.belowOf {S : Nat → Prop} {B : Nat} {w w1 W : World} (ho : Only S w1 W) (hb : Below B w w1) (hS : ∀ b, S b → B ≤ b) (hB : B ≤ w1.heap.size) : Below B w W :=
  hb.trans (ho.below (fun b hlt h => by have := hS b h; omega) hB)
theorem touch_le {g B : Nat} {v : Value} (hg : B ≤ g) (hv : ∀ k, v.ownBlock = some k → B ≤ k) : ∀ b, touch g v b → B ≤ b := by
  rintro b (rfl | e)
  · exact hg
  · exact hv b e
theorem own_le {B s : Nat} {v v' : Value} (hv : ∀ k, v.ownBlock = some k → B ≤ k) (hat : v'.ownBlock = v.ownBlock ∨ ∃ k, v'.ownBlock = some k ∧ s ≤ k) (hB : B ≤ s) : ∀ k, v'.ownBlock = some k → B ≤ k := by
  intro k e
  rcases hat with h | ⟨j, h, hj⟩
  · exact hv k (by rw [← h, e])
  · rw [h] at e; injection e with e; omega


def ClonePost (w : World) (l : List Nat) (e : Ending) (w' : World) : Prop := ∃ a' c', e = .returned (.slice a' l.length c') ∧ Nums .u8 w' w'.heap.size a' l ∧ (a' = none → c' = 0 ∧ l = []) ∧ Below w.heap.size w w'

theorem clone2_any (a : Option Addr) (c : Nat) (l : List Nat) (w : World) (h : Nums .u8 w w.heap.size a l) (hl : l.length ≤ 1000000000000) (hc : a = none → c = 0 ∧ l = []) :
    Calls Try.prog 48 #[.slice a l.length c] w (ClonePost w l) := by
  obtain ⟨i0, hi0, hz0, hz1, hz2⟩ := info_parts u8info
  have hnil : ∀ (W : World) (A : Option Addr) (m k : Nat), (binOp .eql 22 (.slice A m k) (.slice none 0 0)).run Try.prog W = .ok (.bool A.isNone) W := fun W A m k => by apply Lib.run_eql_slice_nil; exact Try.underlying22
  cases a with
  | none =>
    obtain ⟨rfl, rfl⟩ := hc rfl
    go_enter Try.func48, Try.ntmps48
    go_wp2_with fail
    go_ret
    exact ⟨none, 0, rfl, h, fun _ => ⟨rfl, rfl⟩, Below.refl _ _⟩
  | some A =>
    have Hl1 : Hid (0 + l.length ≤ maxLen) := by unfold Hid maxLen; omega
    have Hl2 : Hid ((0 + l.length) * 1 ≤ 140737488355328) := by unfold Hid; omega
    clear hc
    have hV : Vals (w.alloc (.cells #[] 5)) w.heap.size 1 (some A) l.length (u8s l) := (Vals.of_nums h).only ((Only.refl _ _).alloc _ : Only (fun _ => False) w _) (Nat.le_refl _) (fun _ _ h => h)
    have hown : ∀ t : TypeId, (w.alloc (.cells #[] t)).ownsRow w.heap.size t 1 (.slice (some ⟨w.heap.size, 0, none⟩) 0 0) 0 [] := fun t => ⟨rfl, .inr ⟨w.heap.size, 0, #[], rfl, Nat.le_refl _, heap_alloc_new _ _, Nat.le_refl _, Nat.zero_le _, rfl, rfl⟩⟩
    have Hone : Hid (∀ u ∈ u8s l, u.oneCell' = true) := by
      intro u hu
      simp only [u8s, List.mem_map] at hu
      obtain ⟨n, _, rfl⟩ := hu
      rfl
    go_enter Try.func48, Try.ntmps48
    go_wp2_with (at_builtin; refine app_vals rfl (.tmp 5) (.tmp 6) 22 rfl w.heap.size 5 i0 _ 1 1 Try.underlying22 hi0 hz0 hz1 hz2 rfl (by omega) (.slice (some ⟨w.heap.size, 0, none⟩) 0 0) 0 [] rfl (hown _) w.heap.size _ _ _ _ rfl hV Hone.out Hl1.out Hl2.out (by simp) ?_)
    intro v' w' h2 h3 h5
    have hnone : v'.ownBlock = none → v' = .slice none 0 0 ∧ u8s l = [] := by
      intro e
      obtain ⟨hl', (⟨e', h0⟩ | ⟨k, cap, cur, rfl, _⟩)⟩ := h2
      · exact ⟨e', by rw [h0] at hl'; simpa using hl'⟩
      · cases e
    obtain ⟨a', c', rfl, _, _, h6⟩ := Vals.of_own h2
    have hb : Below w.heap.size w w' := ((Only.refl (fun _ => False) w).alloc _ |>.trans (Only.of_grown (S := fun k => k = w.heap.size) h3 (fun b e => by simp [Value.ownBlock] at e; exact e.symm)) (fun b hb e => by omega)).below (fun _ _ h => h) (Nat.le_refl _)
    have hn := Vals.to_nums h6
    have hfin : ClonePost w l (.returned (.slice a' l.length c')) w' := ⟨a', c', rfl, hn, fun e => by
      subst e
      obtain ⟨e1, e2⟩ := hnone rfl
      injection e1 with _ _ e3
      exact ⟨e3, by simpa [u8s] using e2⟩, hb⟩
    have Hfin := Lib.hid hfin
    clear h2 h3 h5 h6 hnone hn hb hfin
    go_wp2
    go_ret
    exact Hfin.out

theorem wbytes2_any (g N n : Nat) (v : Value) (w : World) (h : Wr w g v N n) (hn : n < 1000000000000) :
    Calls Try.prog 22 #[.pointer (some ⟨g, 0, none⟩)] w (ClonePost w (bytesOf N n)) := by
  obtain ⟨hW, hown, hN, hne⟩ := h
  have hlen : (bytesOf N n).length ≤ 1000000000000 := by rw [bytesOf, bytesTo_length]; omega
  have hnil : v.ownBlock = none → v = .slice none 0 0 ∧ bytesOf N n = [] := by
    intro e
    obtain ⟨hl, (⟨rfl, h0⟩ | ⟨k, cap, cur, rfl, _⟩)⟩ := hown
    · exact ⟨rfl, List.eq_nil_of_length_eq_zero h0⟩
    · cases e
  obtain ⟨a, c, rfl, _, _, hV⟩ := Vals.of_own hown
  have hcl := Lib.hid (clone2_any a c (bytesOf N n) w (Vals.to_nums hV) hlen (fun e => by subst e; obtain ⟨h1, h2⟩ := hnil rfl; injection h1 with _ _ h3; exact ⟨h3, h2⟩))
  have c0 := hW.cell 0
  have c0' : w.cell? ⟨g, 0, none⟩ = some (.slice a (bytesOf N n).length c) := c0
  clear c0 hnil hown hne hV hlen hN
  go_enter Try.func22, Try.ntmps22
  go_wp2_with fail
  refine hcl.out.mono ?_
  rintro e w' ⟨a', c', rfl, h1⟩
  have Hf := Lib.hid (show ClonePost w (bytesOf N n) (.returned (.slice a' (bytesOf N n).length c')) w' from ⟨a', c', rfl, h1⟩)
  clear h1
  go_wp2_with fail
  go_ret
  exact Hf.out

/-- Block g is a reader of the bytes l, at bit p. -/
def Rd (w : World) (g : Nat) (a : Option Addr) (c : Nat) (l : List Nat) (p : Nat) : Prop := Whole w g 123 #[.slice a l.length c, .int .i64 (p : Int)] ∧ Nums .u8 w w.heap.size a l
theorem Rd.below {w w' : World} {g : Nat} {a : Option Addr} {c : Nat} {l : List Nat} {p : Nat} (h : Rd w g a c l p) (hb : Below w.heap.size w w') : Rd w' g a c l p := ⟨h.1.below hb h.1.lt, (h.2.below hb).more hb.size⟩
theorem nums_put8 {w : World} {B g : Nat} {t : TypeId} {a a0 : Option Addr} {n0 c0 : Nat} {p : Int} {l : List Nat} (h : Nums .u8 w B a l) (hW : Whole w g t #[.slice a0 n0 c0, .int .i64 p]) (i : Nat) (u : Value) : Nums .u8 (w.setCell ⟨g, i, none⟩ u) B a l := fun hl => by
  obtain ⟨b, off, rfl, hb, hc⟩ := h hl
  refine ⟨b, off, rfl, hb, fun j hj => ?_⟩
  have hj' := hc j hj
  have hne : b ≠ g := by
    rintro rfl
    rw [hW.cell] at hj'
    generalize off + j = x at hj'
    rcases x with _ | _ | x <;> simp at hj'
  rw [← hj']
  exact World.cell?_of_block (w := w) (Below.heap_setCell w _ u b hne)
theorem Rd.step {w : World} {g : Nat} {a : Option Addr} {c : Nat} {l : List Nat} {p : Nat} (h : Rd w g a c l p) (q : Nat) (z : Int) (hz : z = (q : Int)) : Rd (w.setCell ⟨g, 1, none⟩ (.int .i64 z)) g a c l q := by
  subst hz
  refine ⟨?_, (nums_put8 h.2 h.1 1 _).more (by simp [World.setCell])⟩
  have := h.1.set 1 (.int .i64 (q : Int))
  simpa using this
theorem Rd.drawn {w : World} {g : Nat} {a : Option Addr} {c : Nat} {l : List Nat} {p : Nat} (h : Rd w g a c l p) (n : Nat) : Rd (w.drewN n) g a c l p := h

def bitOf (l : List Nat) (p : Nat) : Nat := l.getD (p / 8) 0 / 2 ^ (p % 8) % 2
def valOf (l : List Nat) (p : Nat) : Nat → Nat
  | 0 => 0
  | k + 1 => valOf l p k + bitOf l (p + k) * 2 ^ k
theorem bitOf_lt (l : List Nat) (p : Nat) : bitOf l p < 2 := Nat.mod_lt _ (by omega)
theorem valOf_lt (l : List Nat) (p k : Nat) : valOf l p k < 2 ^ k := by
  induction k with
  | zero => simp [valOf]
  | succ k ih =>
    have h3 : bitOf l (p + k) * 2 ^ k ≤ 1 * 2 ^ k := Nat.mul_le_mul_right _ (by have := bitOf_lt l (p + k); omega)
    simp only [valOf, Nat.pow_succ]
    omega

theorem newReader_any (a : Option Addr) (c : Nat) (l : List Nat) (w : World) (h : Nums .u8 w w.heap.size a l) (hl : l.length ≤ 1000000000000) (hc : a = none → c = 0 ∧ l = []) :
    Calls Try.prog 75 #[.slice a l.length c] w
      fun e w' => ∃ g a' c', e = .returned (.pointer (some ⟨g, 0, none⟩)) ∧ Rd w' g a' c' l 0 ∧ w.heap.size ≤ g ∧ Below w.heap.size w w' := by
  have hcl := Lib.hid (clone2_any a c l w h hl hc)
  clear h hc
  go_enter Try.func75, Try.ntmps75
  go_wp2_with fail
  refine hcl.out.mono ?_
  rintro e W ⟨a', c', rfl, h1, h2, h3⟩
  have Hn := Lib.hid h1
  have Hb := Lib.hid h3
  clear h1 h2 h3 hcl
  go_wp2_with fail
  go_ret
  have hb2 : Below W.heap.size W (W.alloc (.cells #[.slice a' l.length c', .int .i64 0] 123)) := (Below.refl _ _).alloc (Nat.le_refl _) _
  exact ⟨_, a', c', rfl, ⟨Whole.new W _ _, (Hn.out.below hb2).more hb2.size⟩, Hb.out.size, keepBelow hb2 Hb.out⟩

def NextPost (w : World) (g : Nat) (a : Option Addr) (c : Nat) (l : List Nat) (p : Nat) (e : Ending) (w' : World) : Prop :=
  e = .returned (.int .u32 ((bitOf l p : Nat) : Int)) ∧ Rd w' g a c l (p + 1) ∧ Only (fun k => k = g) w w'
theorem u8_and_one (x : Nat) (hx : x < 256) : bits .and .u8 (x : Int) 1 = ((x % 2 : Nat) : Int) := by
  rw [show (1 : Int) = ((1 : Nat) : Int) from rfl, u8_and_nat x 1 hx (by omega), Nat.and_one_is_mod]

set_option maxHeartbeats 2000000 in
theorem next_any (g : Nat) (a : Option Addr) (c : Nat) (l : List Nat) (p : Nat) (w : World) (h : Rd w g a c l p) (hl : l.length ≤ 1000000) (hd : ∀ x ∈ l, x < 256) (hp : p < 8 * l.length) :
    Calls Try.prog 98 #[.pointer (some ⟨g, 0, none⟩)] w (NextPost w g a c l p) := by
  obtain ⟨b, off, rfl, hlb, hcc⟩ := h.2 (by omega)
  have hc := hcc (p / 8) (by omega)
  have hx : l.getD (p / 8) 0 < 256 := by
    have : p / 8 < l.length := by omega
    simp only [List.getD_eq_getElem?_getD, List.getElem?_eq_getElem this, Option.getD_some]
    exact hd _ (List.getElem_mem this)
  have c0 : w.cell? ⟨g, 0, none⟩ = some (.slice (some ⟨b, off, none⟩) l.length c) := h.1.cell 0
  have c1 : w.cell? ⟨g, 1, none⟩ = some (.int .i64 (p : Int)) := h.1.cell 1
  have f1 := h.1.frozen 1
  have hbit : bitOf l p = l.getD (p / 8) 0 / 2 ^ (p % 8) % 2 := rfl
  obtain ⟨q, hq⟩ : ∃ q, q = p / 8 := ⟨_, rfl⟩
  obtain ⟨r, hr⟩ : ∃ r, r = p % 8 := ⟨_, rfl⟩
  rw [← hq] at hc hx hbit
  rw [← hr] at hbit
  generalize l.getD q 0 = x at *
  have hx2 : x / 2 ^ r < 256 := Nat.lt_of_le_of_lt (Nat.div_le_self _ _) hx
  have Hand : Hid (bits .and .u8 ((x : Int) / 2 ^ r) 1 = ((x / 2 ^ r % 2 : Nat) : Int)) := by
    show _ = _
    rw [show ((x : Int) / 2 ^ r) = ((x / 2 ^ r : Nat) : Int) by simp]
    exact u8_and_one _ hx2
  have hqi : (p : Int) / 8 = (q : Int) := by omega
  have hri : (p : Int) % 8 = (r : Int) := by omega
  have hq0 : (0 : Int) ≤ (q : Int) := by omega
  have hq1 : (q : Int) < (l.length : Int) := by omega
  have hr9 : r < 8 := by omega
  have Hbit := Lib.hid hbit
  have Hx2 := Lib.hid hx2
  have H := Lib.hid h
  clear hq hr hbit hcc hd hx2 h
  unfold NextPost
  generalize hB : bitOf l p = B at *
  go_enter Try.func98, Try.ntmps98
  go_wp2_with fail
  go_quiet (fail)
  rw [Hand.out, ← Hbit.out]
  have hBl : B < 2 := by rw [← hB]; exact bitOf_lt _ _
  have HB := Lib.hid hB
  clear hB hc hqi hri
  go_wp2_with fail
  go_ret
  refine ⟨rfl, (H.out.drawn _).step (p + 1) _ (by simp), ((Only.refl (fun k => k = g) w).drewN _).setCell (fun _ => rfl) _⟩

theorem below_drawn {B : Nat} {w w' : World} (h : Below B w w') (n : Nat) : Below B w (w'.drewN n) := ⟨h.os, h.tape, h.output, h.size, h.block⟩
theorem left_any (g : Nat) (a : Option Addr) (c : Nat) (l : List Nat) (p : Nat) (w : World) (h : Rd w g a c l p) (hl : l.length ≤ 1000000) (hp : p ≤ 8 * l.length) :
    Calls Try.prog 97 #[.pointer (some ⟨g, 0, none⟩)] w
      fun e w' => e = .returned (.int .i64 ((8 * l.length - p : Nat) : Int)) ∧ Below w.heap.size w w' := by
  have c0 : w.cell? ⟨g, 0, none⟩ = some (.slice a l.length c) := h.1.cell 0
  have c1 : w.cell? ⟨g, 1, none⟩ = some (.int .i64 (p : Int)) := h.1.cell 1
  have h1 : IntKind.i64.wrap (8 * (l.length : Int)) = 8 * (l.length : Int) := IntWalk.i64_in _ ⟨by omega, by omega⟩
  have h2 : IntKind.i64.wrap (8 * (l.length : Int) - (p : Int)) = 8 * (l.length : Int) - (p : Int) := IntWalk.i64_in _ ⟨by omega, by omega⟩
  have h3 : Hid (8 * (l.length : Int) - (p : Int) = ((8 * l.length - p : Nat) : Int)) := by show _ = _; omega
  clear h hl hp
  go_enter Try.func97, Try.ntmps97
  go_wp2_with fail
  go_quiet (fail)
  go_wp2_with fail
  go_ret
  exact ⟨ret_int h3.out, below_drawn (Below.refl _ _) _⟩

def BitsPost (w : World) (g : Nat) (a : Option Addr) (c : Nat) (l : List Nat) (p m : Nat) (e : Ending) (w' : World) : Prop :=
  e = .returned (.tuple #[.int .u32 ((valOf l p m : Nat) : Int), .int .i64 0]) ∧ Rd w' g a c l (p + m) ∧ Only (fun k => k = g) w w'

set_option maxHeartbeats 4000000 in
theorem bits_any (g : Nat) (a : Option Addr) (c : Nat) (l : List Nat) (p m : Nat) (w : World) (h : Rd w g a c l p) (hl : l.length ≤ 1000000) (hd : ∀ x ∈ l, x < 256) (hm : m ≤ 32) (hp : p + m ≤ 8 * l.length) :
    Calls Try.prog 86 #[.pointer (some ⟨g, 0, none⟩), .int .i64 (m : Int)] w (BitsPost w g a c l p m) := by
  have Hleft := Lib.hid (left_any g a c l p w h hl (by omega))
  have Hnext := Lib.hid fun W i (hR : Rd W g a c l (p + i)) (hi : i < m) => next_any g a c l (p + i) W hR hl hd (by omega)
  have hlm : ¬ (8 * l.length - p < m) := by omega
  have H := Lib.hid h
  clear h hd hp
  go_enter Try.func86, Try.ntmps86
  go_wp2_with fail
  refine Hleft.out.mono ?_
  rintro e W ⟨rfl, hb⟩
  have HR := Lib.hid (H.out.below hb)
  have HO : Hid (Only (fun k => k = g) w W) := Only.of_below hb _
  clear hb H Hleft
  go_wp2_with fail
  go_loopw [6, 24] (fun v i X => ∃ k : Nat, k ≤ m ∧ i = .int .i64 (k : Int) ∧ v = .int .u32 ((valOf l p k : Nat) : Int) ∧ Rd X g a c l (p + k) ∧ Only (fun k => k = g) w X) (fun _ i _ => m - (intOf i).toNat)
  case atStart => exact ⟨0, by omega, rfl, rfl, HR.out, HO.out⟩
  case round =>
    obtain ⟨k, hk, rfl, rfl, hR, hO⟩ := hrel
    by_cases hlt : k < m
    · have hn := Lib.hid (Hnext.out _ k hR hlt)
      have hvl := valOf_lt l p k
      have hbl := bitOf_lt l (p + k)
      have hpw : 2 ^ k ≤ 2147483648 := by
        have := Nat.pow_le_pow_right (n := 2) (by omega) (show k ≤ 31 by omega)
        simpa using this
      have hsm : bitOf l (p + k) * 2 ^ k ≤ 1 * 2 ^ k := Nat.mul_le_mul_right _ (by omega)
      have hv : valOf l p (k + 1) = valOf l p k + bitOf l (p + k) * 2 ^ k := rfl
      have hor := or_add (valOf l p k) (bitOf l (p + k)) k hvl
      generalize hBB : bitOf l (p + k) = bb at *
      generalize hVV : valOf l p k = vv at *
      have hw1 : IntKind.u32.wrap ((bb : Int) * 2 ^ k) = ((bb * 2 ^ k : Nat) : Int) := by
        rw [show ((bb : Int) * 2 ^ k) = ((bb * 2 ^ k : Nat) : Int) by simp]
        exact IntWalk.u32_in _ ⟨by omega, by omega⟩
      obtain ⟨z, hz⟩ : ∃ z, z = bb * 2 ^ k := ⟨_, rfl⟩
      rw [← hz] at hw1 hsm hv hor
      have hor2 : bits .or .u32 (vv : Int) (z : Int) = ((vv + z : Nat) : Int) := by rw [u32_or_nat _ _ (by omega) (by omega), hor]
      have Hv := Lib.hid hv
      have HBB := Lib.hid hBB
      have HVV := Lib.hid hVV
      have HO2 := Lib.hid hO
      have hk31 : k < 32 := by omega
      clear hz hv hor hvl hbl hpw hsm hR hBB hVV hO Hnext hlm
      go_wp2_with fail
      refine hn.out.mono ?_
      rintro e X ⟨rfl, hR2, hO3⟩
      have HR2 := Lib.hid hR2
      have HO4 : Hid (Only (fun k => k = g) w X) := HO2.out.trans hO3 (fun _ _ h => h)
      clear hR2 hO3 hn
      rw [HBB.out]
      go_wp2_with fail
      go_roundw
      case rel => exact ⟨k + 1, hlt, by go_num, by rw [Hv.out]; simp, by have := HR2.out; rwa [Nat.add_assoc] at this, HO4.out⟩
      case measure => simp [intOf] <;> omega
    · obtain rfl : k = m := by omega
      have HR2 := Lib.hid hR
      have HO2 := Lib.hid hO
      clear hR hO Hnext
      go_wp2_with fail
      go_ret2
      exact ⟨rfl, HR2.out, HO2.out⟩

/-! What was written is read -/
theorem digit_bit (N q r : Nat) (hr : r < 8) : N / 256 ^ q % 256 / 2 ^ r % 2 = N / 2 ^ (8 * q + r) % 2 := by
  have h1 : N / 2 ^ (8 * q + r) = N / 256 ^ q / 2 ^ r := by rw [Nat.pow_add, p256, Nat.div_div_eq_div_mul]
  rw [h1]
  generalize N / 256 ^ q = X
  have h2 : 256 = 2 ^ r * 2 ^ (8 - r) := by rw [← Nat.pow_add, show r + (8 - r) = 8 by omega]
  have h3 : X % 256 / 2 ^ r = X / 2 ^ r % 2 ^ (8 - r) := by rw [h2, Nat.mod_mul_right_div_self]
  rw [h3]
  exact Nat.mod_mod_of_dvd _ (by
    have : 8 - r = (7 - r) + 1 := by omega
    rw [this, Nat.pow_succ]
    exact Nat.dvd_mul_left ..)
theorem bitOf_bytes (N n p : Nat) (hp : p < 8 * ((n + 7) / 8)) : bitOf (bytesOf N n) p = N / 2 ^ p % 2 := by
  have hq : p / 8 < (n + 7) / 8 := by omega
  have hg : (bytesOf N n).getD (p / 8) 0 = N / 256 ^ (p / 8) % 256 := by
    rw [List.getD_eq_getElem?_getD, bytesOf, bytesTo_get _ _ _ hq]; rfl
  unfold bitOf
  rw [hg, digit_bit N (p / 8) (p % 8) (Nat.mod_lt _ (by omega)), Nat.div_add_mod]
theorem valOf_bytes (N n p m : Nat) (hp : p + m ≤ 8 * ((n + 7) / 8)) : valOf (bytesOf N n) p m = N / 2 ^ p % 2 ^ m := by
  induction m with
  | zero => simp [valOf, Nat.mod_one]
  | succ m ih =>
    simp only [valOf]
    rw [ih (by omega), bitOf_bytes N n (p + m) (by omega), Nat.pow_succ, Nat.mod_mul, Nat.pow_add, Nat.div_div_eq_div_mul, Nat.mul_comm (2 ^ m)]
end Go.Proofs.Ytngnhkghpnamoaa
