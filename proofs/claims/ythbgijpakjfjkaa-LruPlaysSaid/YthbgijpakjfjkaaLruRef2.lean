/- Layer 34: the reference's Put. -/
import Derived.Test.YthbgijpakjfjkaaLruRef1
import Derived.BigQuiet
namespace Go.Proofs.Ythbgijpakjfjkaa
open Go.RowKit
set_option linter.unusedVariables false
set_option maxRecDepth 100000

def evictR (ent sz : Nat) : Nat → List REn → List REn
  | 0, es => es
  | f + 1, es => if ent < es.length ∨ sz < rtot es then evictR ent sz f es.dropLast else es
theorem evictR_stop {ent sz f : Nat} {es : List REn} (h1 : ¬ ent < es.length) (h2 : ¬ sz < rtot es) : evictR ent sz f es = es := by
  cases f with
  | zero => rfl
  | succ f => unfold evictR; rw [if_neg (by omega)]
theorem evictR_go {ent sz f : Nat} {es : List REn} (h : ent < es.length ∨ sz < rtot es) : evictR ent sz (f + 1) es = evictR ent sz f es.dropLast := by
  conv => lhs; unfold evictR
  rw [if_pos h]
theorem rwo_le (es : List REn) (s : ByteArray) : rtot (rwo es s) ≤ rtot es := by
  induction es with
  | nil => simp [rwo, rtot]
  | cons e es ih =>
    unfold rwo at ih ⊢
    rw [List.filter_cons]
    unfold rtot at ih ⊢
    split
    · simp at ih ⊢; omega
    · simp at ih ⊢; omega
theorem RBy.one {w : World} {B : Nat} {rl : List REn} (h : RBy w B rl) : ∀ r ∈ rl, r.v.oneCell' = true := fun r hr => by
  obtain ⟨ad, cc, h1, _⟩ := h r hr
  rw [h1]; rfl
theorem rcells_one {rl : List REn} (h : ∀ r ∈ rl, r.v.oneCell' = true) : ∀ u ∈ rcells rl, u.oneCell' = true := by
  intro u hu
  unfold rcells at hu
  rw [List.mem_flatMap] at hu
  obtain ⟨r, hr, hu⟩ := hu
  simp at hu
  rcases hu with rfl | rfl
  · rfl
  · exact h r hr
theorem rcells_take (rl : List REn) (k : Nat) : (rcells rl).take (k * 2) = rcells (rl.take k) := by
  induction rl generalizing k with
  | nil => simp [rcells]
  | cons p L ih =>
    cases k with
    | zero => simp [rcells]
    | succ k =>
      have e : rcells (p :: L) = Value.string p.key :: p.v :: rcells L := rfl
      have e2 : rcells ((p :: L).take (k + 1)) = Value.string p.key :: p.v :: rcells (L.take k) := rfl
      rw [e, e2, show (k + 1) * 2 = k * 2 + 1 + 1 by omega, List.take_succ_cons, List.take_succ_cons, ih]
/-- l[:n-1] of a row of the call's own. -/
theorem own_pop {w : World} {base : Nat} {a : Option Addr} {c : Nat} {rl : List REn} (h : w.ownsRow base 43 2 (.slice a rl.length c) rl.length (rcells rl)) (hl : 0 < rl.length) : w.ownsRow base 43 2 (.slice a (rl.length - 1) c) rl.dropLast.length (rcells rl.dropLast) := by
  obtain ⟨h1, (⟨h2, h3⟩ | ⟨g, cap, cur, h2, hg, hh, hc, hm, hs, ht⟩)⟩ := h
  · omega
  · injection h2 with h2 h3 h4
    subst h2 h4
    have e : rl.dropLast = rl.take (rl.length - 1) := List.dropLast_eq_take
    have e2 : rl.dropLast.length = rl.length - 1 := List.length_dropLast
    refine ⟨by rw [rcells_length], .inr ⟨g, c, cur, by rw [e2], hg, hh, by rw [e2]; omega, hm, hs, ?_⟩⟩
    rw [e2, e, ← rcells_take, ← ht, List.take_take]
    congr 1
    omega
theorem putR_no (en sn hh mm n cc : Nat) (ad : Option Addr) (lv : Value) (s : ByteArray) (w : World) (h1 : lv.oneCell' = true) (hs : s.size ≤ 1000000000) (hn : n ≤ 1000000000) (hno : en = 0 ∨ sn < s.size + n) (a : Option Addr) (m c : Nat) (hlv : lv = .slice a m c) :
    Calls Try.prog 12 #[.agg #[lv, .int .i64 (en : Int), .int .i64 (sn : Int), .int .i64 (hh : Int), .int .i64 (mm : Int)], .string s, .slice ad n cc] w fun e w' => e = .returned (.tuple #[.agg #[lv, .int .i64 (en : Int), .int .i64 (sn : Int), .int .i64 (hh : Int), .int .i64 (mm : Int)], .bool false]) ∧ Below w.heap.size w w' := by
  subst hlv
  by_cases h0 : en = 0
  · subst h0
    go_enter Try.func12, Try.ntmps12
    go_wp2_with fail
    exact bodyPost_ret (by simp [results, Try.results12, go_sem]) rfl ⟨rfl, by first | exact (((Below.refl _ _).alloc (Nat.le_refl _) _).alloc (by simp) _) | exact (((Below.refl _ _).alloc (Nat.le_refl _) _).alloc (by simp) _).setCell (by simp) _⟩
  · have d0 : decide ((en : Int) = 0) = false := decide_eq_false (by omega)
    have d1 : decide ((sn : Int) < ((s.size : Int) + (n : Int))) = true := decide_eq_true (by omega)
    go_enter Try.func12, Try.ntmps12
    go_wp2_with fail
    exact bodyPost_ret (by simp [results, Try.results12, go_sem]) rfl ⟨rfl, by first | exact (((Below.refl _ _).alloc (Nat.le_refl _) _).alloc (by simp) _) | exact (((Below.refl _ _).alloc (Nat.le_refl _) _).alloc (by simp) _).setCell (by simp) _⟩
end Go.Proofs.Ythbgijpakjfjkaa
