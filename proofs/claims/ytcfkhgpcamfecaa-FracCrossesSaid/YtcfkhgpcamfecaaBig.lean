/- The reference's big numbers in memory: words, cut, made, Sign. -/
import Derived.Test.YtcfkhgpcamfecaaRows
import Derived.Test.YtcfkhgpcamfecaaOwn
import Derived.Test.YtcfkhgpcamfecaaBigMath
import Derived.WalkKit
import Derived.Handy
import Derived.Lib.Hide
import Derived.Deep.RegionHeld3
import Derived.Deep.DrawnRows
import Derived.WalkLawsBesides
import Derived.WalkSpells
import Derived.RegionTactic
import Derived.BigRegion
import Derived.BigQuiet
import Derived.Deep.QuietTactic
namespace Go.Proofs.Ytcfkhgpcamfecaa
open Go.RowKit Big
set_option linter.unusedVariables false

def u64s (l : List Nat) : List Value := l.map fun n : Nat => Value.int .u64 (n : Int)
theorem u64info : (Try.prog.info? 22).map (fun i => (i.zero, i.size, i.bytes)) = some (some (.int .u64 0), 1, 8) := by kernel_rfl

theorem Nums.cell {k : IntKind} {w : World} {B : Nat} {a : Option Addr} {l : List Nat} (h : Nums k w B a l) (i : Nat) (hi : i < l.length) :
    ∃ b off, a = some ⟨b, off, none⟩ ∧ b < B ∧ w.cell? ⟨b, off + i, none⟩ = some (.int k ((l.getD i 0 : Nat) : Int)) := by
  obtain ⟨b, off, rfl, hb, hc⟩ := h (by omega)
  exact ⟨b, off, rfl, hb, hc i hi⟩
theorem Nums.take {k : IntKind} {w : World} {B : Nat} {a : Option Addr} {l : List Nat} (h : Nums k w B a l) (n : Nat) : Nums k w B a (l.take n) := fun hl => by
  have hl' : 0 < l.length := by simp at hl; omega
  obtain ⟨b, off, rfl, hb, hc⟩ := h hl'
  refine ⟨b, off, rfl, hb, fun i hi => ?_⟩
  simp at hi
  rw [hc i (by omega)]
  simp [show i < n by omega]

/-- A slice of words that reads as l. -/
def Wd (w : World) (B : Nat) (a : Option Addr) (c : Nat) (l : List Nat) : Prop := Nums .u64 w B a l ∧ Dig l ∧ l.length ≤ c ∧ l.length ≤ 1000000 ∧ (a = none → c = 0)
theorem Wd.keep {w w' : World} {B : Nat} {a : Option Addr} {c : Nat} {l : List Nat} (h : Wd w B a c l) (hb : Below B w w') : Wd w' B a c l := ⟨h.1.below hb, h.2⟩
theorem Wd.more {w : World} {B B' : Nat} {a : Option Addr} {c : Nat} {l : List Nat} (h : Wd w B a c l) (hB : B ≤ B') : Wd w B' a c l := ⟨h.1.more hB, h.2⟩

/-- v is the number z, of no more than k words; it lies below block B. -/
def IsBig (w : World) (B : Nat) (v : Value) (z : Int) (k : Nat) : Prop :=
  ∃ neg a c l, v = .agg #[.bool neg, .slice a l.length c] ∧ Wd w B a c l ∧ Norm l ∧ l.length ≤ k ∧ z = sv neg l ∧ (neg = true → l ≠ [])
theorem IsBig.keep {w w' : World} {B : Nat} {v : Value} {z : Int} {k : Nat} (h : IsBig w B v z k) (hb : Below B w w') : IsBig w' B v z k := by
  obtain ⟨neg, a, c, l, rfl, h1, h2⟩ := h
  exact ⟨neg, a, c, l, rfl, h1.keep hb, h2⟩
theorem IsBig.more {w : World} {B B' : Nat} {v : Value} {z : Int} {k k' : Nat} (h : IsBig w B v z k) (hB : B ≤ B') (hk : k ≤ k') : IsBig w B' v z k' := by
  obtain ⟨neg, a, c, l, rfl, h1, h2, h3, h4⟩ := h
  exact ⟨neg, a, c, l, rfl, h1.more hB, h2, by omega, h4⟩

def CutPost (a : Option Addr) (c : Nat) (l : List Nat) (w : World) (e : Ending) (w' : World) : Prop :=
  ∃ n, n ≤ l.length ∧ e = .returned (.slice a n c) ∧ Norm (l.take n) ∧ val (l.take n) = val l ∧ w = w'

set_option maxRecDepth 100000 in
set_option maxHeartbeats 1000000 in
theorem cut_any (B : Nat) (a : Option Addr) (c : Nat) (l : List Nat) (w : World) (h : Wd w B a c l) :
    Calls Try.prog 64 #[.slice a l.length c] w (CutPost a c l w) := by
  obtain ⟨hn, hd, hlc, hcm, hnil⟩ := h
  cases a with
  | none =>
    have hc0 := hnil rfl
    subst hc0
    have hl : l = [] := List.eq_nil_of_length_eq_zero (by omega)
    subst hl
    clear hn hd hlc hcm hnil
    go_enter Try.func64, Try.ntmps64
    go_wp2_with fail
    go_loop [3] (fun i => i = .int .i64 0) (fun i => (intOf i).toNat)
    case atStart => rfl
    case round =>
      subst hrel
      go_wp2_with fail
      go_ret
      exact ⟨0, Nat.le_refl _, rfl, ⟨by simp [Dig], fun h => absurd rfl h⟩, rfl, rfl⟩
  | some A =>
    clear hnil
    obtain ⟨L, hL⟩ : ∃ L, L = l.length := ⟨_, rfl⟩
    have hcell : ∀ i, i < L → w.cell? ⟨A.block, A.off + i, none⟩ = some (.int .u64 ((l.getD i 0 : Nat) : Int)) ∧ A = ⟨A.block, A.off, none⟩ := fun i hi => by
      obtain ⟨b, off, e, _, hc⟩ := hn.cell i (by omega)
      injection e with e
      subst e
      exact ⟨hc, rfl⟩
    have Hend : Hid (∀ n, n ≤ L → (n = 0 ∨ l.getD (n - 1) 0 ≠ 0) → val (l.take n) = val l → n ≤ l.length ∧ Norm (l.take n) ∧ val (l.take n) = val l) :=
      fun n h1 h2 h3 => ⟨by omega, norm_take l n hd (by omega) h2, h3⟩
    have Hstep : Hid (∀ n, n < L → l.getD n 0 = 0 → val (l.take (n + 1)) = val l → val (l.take n) = val l) := fun n h1 h2 h3 => by
      have := cut_step l (n + 1) (by omega) (by simpa using h2)
      simp at this
      rw [this]; exact h3
    have h0 : val (l.take L) = val l := val_all l L (by omega)
    rw [← hL] at hlc hcm
    rw [show (Value.slice (some A) l.length c) = Value.slice (some A) L c by rw [hL]]
    have Hcell := Lib.hid hcell
    have Hd := Lib.hid hd
    have H0 := Lib.hid h0
    have HL := Lib.hid hL
    clear hcell hn hd h0 hL
    go_enter Try.func64, Try.ntmps64
    go_wp2_with fail
    go_loop [3] (fun i => ∃ n : Nat, n ≤ L ∧ i = .int .i64 (n : Int) ∧ Hid (val (l.take n) = val l)) (fun i => (intOf i).toNat)
    case atStart => exact ⟨L, Nat.le_refl _, rfl, H0⟩
    case round =>
      obtain ⟨n, hn, rfl, hv⟩ := hrel
      by_cases h0 : n = 0
      · subst h0
        go_wp2_with fail
        go_ret
        obtain ⟨h1, h2, h3⟩ := Hend.out 0 (Nat.zero_le _) (.inl rfl) hv.out
        exact ⟨0, h1, rfl, h2, h3, rfl⟩
      · obtain ⟨j, hj⟩ : ∃ j, n = j + 1 := ⟨n - 1, by omega⟩
        obtain ⟨hc, hA⟩ := Hcell.out j (by omega)
        have hdlt := Hd.out.get j
        have hx : ((n : Int) - 1) = (j : Int) := by omega
        have hpos : (0 : Int) < (n : Int) := by omega
        have hn0 : (0 : Int) ≤ (j : Int) := by omega
        have hn1 : (j : Int) < (L : Int) := by omega
        have HJ := Lib.hid hj
        clear hj h0
        obtain ⟨b, off, sp⟩ := A
        injection hA with _ _ hsp
        subst hsp
        by_cases hz : l.getD j 0 = 0
        · rw [hz] at hc
          have hc' : w.cell? ⟨b, off + j, none⟩ = some (.int .u64 0) := hc
          have HZ := Lib.hid hz
          clear hc hz hdlt
          go_wp2_with fail
          go_round
          case rel => exact ⟨j, by omega, rfl, Hstep.out j (by omega) HZ.out (by rw [← HJ.out]; exact hv.out)⟩
          case measure => have := HJ.out; simp [intOf] <;> omega
        · have hc' : w.cell? ⟨b, off + j, none⟩ = some (.int .u64 ((l.getD j 0 : Nat) : Int)) := hc
          have HZ := Lib.hid hz
          clear hc hz
          obtain ⟨x, hxx⟩ : ∃ x, x = l.getD j 0 := ⟨_, rfl⟩
          rw [← hxx] at hc' hdlt
          have hxz : ((x : Int) == 0) = false := by
            have := HZ.out
            simp only [beq_eq_false_iff_ne]; omega
          have HX := Lib.hid hxx
          clear hxx
          go_wp2_with fail
          go_ret
          obtain ⟨h1, h2, h3⟩ := Hend.out n hn (.inr (by rw [HJ.out]; simpa using HZ.out)) hv.out
          exact ⟨n, h1, rfl, h2, h3, rfl⟩
end Go.Proofs.Ytcfkhgpcamfecaa
