/- Layer 9: Right. -/
import Derived.Test.YtohgdlhijgjdkaaPathRd7
namespace Go.Proofs.Ytohgdlhijgjdkaa
open Go.RowKit
set_option linter.unusedVariables false
set_option maxRecDepth 100000

def outP (p : P2) : Bool := !(okC p.1) || !(okC p.2)
theorem outside_any (p : P2) (w : World) : Calls Try.prog 25 #[.agg #[.int .i64 p.1, .int .i64 p.2]] w fun e w' => e = .returned (.bool (outP p)) ∧ Below w.heap.size w w' := by
  obtain ⟨x, y⟩ := p
  have HWi := Lib.hid fun n W => within_any n W
  unfold outP
  cases h1 : okC x with
  | false =>
    go_enter Try.func25, Try.ntmps25
    go_wp2_with fail
    refine (HWi.out _ _).mono ?_
    rintro e X ⟨rfl, rfl⟩
    go_wp2_with fail
    go_ret
    exact ⟨by simp [h1], (Below.refl _ _).alloc (Nat.le_refl _) _⟩
  | true =>
    go_enter Try.func25, Try.ntmps25
    go_wp2_with fail
    refine (HWi.out _ _).mono ?_
    rintro e X ⟨rfl, rfl⟩
    go_wp2_with fail
    refine (HWi.out _ _).mono ?_
    rintro e X ⟨rfl, rfl⟩
    go_wp2_with fail
    go_ret
    exact ⟨by simp [h1], (Below.refl _ _).alloc (Nat.le_refl _) _⟩
theorem any_next {l : List P2} {k : Nat} (h : k < l.length) : (l.drop k).any outP = (outP l[k] || (l.drop (k + 1)).any outP) := by
  rw [List.drop_eq_getElem_cons h]; rfl
/-- The place of the first point that is outside, or -1. -/
theorem indexFunc_any (a : Option Addr) (c : Nat) (l : List P2) (w : World) (hp : PAt w w.heap.size a l) (hl : l.length ≤ 1000000) :
    Calls Try.prog 35 #[.slice a l.length c, .func (.func 25) #[] #[]] w fun e w' => (∃ n : Int, e = .returned (.int .i64 n) ∧ (0 ≤ n ∧ n ≤ 1000000 ∧ l.any outP = true ∨ n = -1 ∧ l.any outP = false)) ∧ Below w.heap.size w w' := by
  obtain ⟨L, hL⟩ : ∃ L, L = l.length := ⟨_, rfl⟩
  have HL := Lib.hid hL
  have HP := Lib.hid hp
  have HO := Lib.hid outside_any
  rw [← hL] at hl ⊢
  clear hL hp
  go_enter Try.func35, Try.ntmps35
  go_wp2_with fail
  go_loopw [8] (fun i W => ∃ k : Nat, k ≤ L ∧ i = .int .i64 (k : Int) ∧ Hid (Below w.heap.size w W) ∧ Hid (l.any outP = (l.drop k).any outP)) (fun i _ => L - (intOf i).toNat)
  case atStart => exact ⟨0, Nat.zero_le _, rfl, Below.refl _ _, rfl⟩
  case round =>
    obtain ⟨k, hk, rfl, hbw, ht⟩ := hrel
    by_cases hlt : k < L
    · have hkl : k < l.length := by have := HL.out; omega
      obtain ⟨b1, o1, rfl, h1, p0, p1⟩ := (HP.out.below hbw.out).at k hkl
      have hn := any_next hkl
      have hOp : ∀ W, Calls Try.prog 25 #[.agg #[.int .i64 (l[k]'hkl).1, .int .i64 (l[k]'hkl).2]] W fun e w' => e = .returned (.bool (outP (l[k]'hkl))) ∧ Below W.heap.size W w' := fun W => HO.out _ W
      generalize l[k]'hkl = f at *
      obtain ⟨x, y⟩ := f
      simp only at p0 p1 hOp
      have hk0 : (0 : Int) ≤ (k : Int) := by omega
      have hk1 : (k : Int) < (L : Int) := by omega
      have Hn := Lib.hid hn
      have HOp := Lib.hid hOp
      clear hn hOp hkl
      go_wp2_with fail
      refine (HOp.out _).mono ?_
      rintro e X ⟨rfl, hX⟩
      have HX := Lib.hid (hbw.out.trans (hX.mono hbw.out.size))
      clear hX p0 p1
      cases ho : outP (x, y) with
      | true =>
        go_wp2_with fail
        go_ret
        exact ⟨⟨_, rfl, .inl ⟨by omega, by omega, by rw [ht.out, Hn.out, ho]; rfl⟩⟩, HX.out⟩
      | false =>
        have Ht2 : Hid (l.any outP = (l.drop (k + 1)).any outP) := by show _ = _; rw [ht.out, Hn.out, ho]; rfl
        go_wp2_with fail
        go_roundw
        case rel => exact ⟨k + 1, by omega, by go_num, HX, Ht2⟩
        case measure => simp [intOf]; omega
    · have hkL : k = L := by omega
      have hf : l.any outP = false := by rw [ht.out, List.drop_eq_nil_of_le (by have := HL.out; omega)]; rfl
      subst hkL
      have Hf := Lib.hid hf
      clear hf
      go_wp2_with fail
      go_ret
      exact ⟨⟨_, rfl, .inr ⟨rfl, Hf.out⟩⟩, hbw.out⟩
theorem containsFunc_any (a : Option Addr) (c : Nat) (l : List P2) (w : World) (hp : PAt w w.heap.size a l) (hl : l.length ≤ 1000000) :
    Calls Try.prog 24 #[.slice a l.length c, .func (.func 25) #[] #[]] w fun e w' => e = .returned (.bool (l.any outP)) ∧ Below w.heap.size w w' := by
  have Hq := Lib.hid (indexFunc_any a c l w hp hl)
  obtain ⟨L, hL⟩ : ∃ L, L = l.length := ⟨_, rfl⟩
  rw [← hL] at Hq ⊢
  obtain ⟨t, ht⟩ : ∃ t, t = l.any outP := ⟨_, rfl⟩
  rw [← ht] at Hq ⊢
  clear hp hL ht hl
  go_enter Try.func24, Try.ntmps24
  go_wp2_with fail
  refine Hq.out.mono ?_
  rintro e X ⟨⟨n, rfl, hn⟩, hX⟩
  have HX := Lib.hid hX
  clear hX
  rcases hn with ⟨h0, h1, rfl⟩ | ⟨rfl, rfl⟩
  · have d0 : decide (0 ≤ n) = true := decide_eq_true h0
    go_wp2_with fail
    go_ret
    exact ⟨by simp [h0], HX.out⟩
  · go_wp2_with fail
    go_ret
    exact ⟨rfl, HX.out⟩
def shortP (K : Int) (l : List P2) : Bool := decide ((l.length : Int) < leastN K)
def rightP (K : Int) (ll : List (List P2)) : Nat :=
  if K < 1 ∨ 3 < K then 1 else if ll.length = 0 ∨ (K = 1 ∧ 1 < ll.length) then 3 else if ll.any (shortP K) = true then 3 else if ll.any (fun l => l.any outP) = true then 8 else 0
theorem any_nextP {f : List P2 → Bool} {l : List (List P2)} {k : Nat} (h : k < l.length) : (l.drop k).any f = (f l[k] || (l.drop (k + 1)).any f) := by
  rw [List.drop_eq_getElem_cons h]; rfl
end Go.Proofs.Ytohgdlhijgjdkaa
