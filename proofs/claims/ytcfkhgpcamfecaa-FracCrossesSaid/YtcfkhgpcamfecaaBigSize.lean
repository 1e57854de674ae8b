/- The reference's big numbers: size. -/
import Derived.Test.YtcfkhgpcamfecaaBigPlus
namespace Go.Proofs.Ytcfkhgpcamfecaa
open Go.RowKit Big
set_option linter.unusedVariables false
set_option maxRecDepth 100000

theorem Below.drawn {B : Nat} {w w' : World} (h : Below B w w') (n : Nat) : Below B w (w'.drewN n) := ⟨h.os, h.tape, h.output, h.size, h.block⟩

def cmpN (x y : Nat) : Int := if x < y then -1 else if y < x then 1 else 0
theorem cmpN_lt {x y : Nat} (h : x < y) : cmpN x y = -1 := by simp [cmpN, h]
theorem cmpN_gt {x y : Nat} (h : y < x) : cmpN x y = 1 := by simp [cmpN, h, show ¬ x < y by omega]
theorem cmpN_eq {x y : Nat} (h : x = y) : cmpN x y = 0 := by simp [cmpN, h]

set_option maxHeartbeats 4000000 in
theorem size_any (a : Option Addr) (c : Nat) (la : List Nat) (a' : Option Addr) (c' : Nat) (lb : List Nat) (w : World) (ha : Wd w w.heap.size a c la) (hb : Wd w w.heap.size a' c' lb) (na : Norm la) (nb : Norm lb) :
    Calls Try.prog 62 #[.slice a la.length c, .slice a' lb.length c'] w fun e w' => e = .returned (.int .i64 (cmpN (val la) (val lb))) ∧ Below w.heap.size w w' := by
  have HA := Lib.hid ha.cellOf
  have HB := Lib.hid hb.cellOf
  have h1000 := ha.2.2.2.1
  have Hsh : Hid (la.length < lb.length → cmpN (val la) (val lb) = -1) := fun h => cmpN_lt (shorter_less na.1 nb h)
  have Hsh' : Hid (lb.length < la.length → cmpN (val la) (val lb) = 1) := fun h => cmpN_gt (shorter_less nb.1 na h)
  have Hlt : Hid (la.length = lb.length → ∀ i, i < la.length → (∀ j, i < j → j < la.length → la.getD j 0 = lb.getD j 0) → la.getD i 0 < lb.getD i 0 → cmpN (val la) (val lb) = -1) := fun hl i hi hs h => cmpN_lt (word_less na.1 hl i hi hs h)
  have Hgt : Hid (la.length = lb.length → ∀ i, i < la.length → (∀ j, i < j → j < la.length → la.getD j 0 = lb.getD j 0) → lb.getD i 0 < la.getD i 0 → cmpN (val la) (val lb) = 1) := fun hl i hi hs h => cmpN_gt (word_less nb.1 hl.symm i (by omega) (fun j h1 h2 => (hs j h1 (by omega)).symm) h)
  have Hsame : Hid (la.length = lb.length → (∀ j, j < la.length → la.getD j 0 = lb.getD j 0) → cmpN (val la) (val lb) = 0) := fun hl hs => cmpN_eq (by rw [words_same hl hs])
  clear ha hb na nb
  generalize cmpN (val la) (val lb) = R at *
  obtain ⟨L1, hL1⟩ : ∃ L1, L1 = la.length := ⟨_, rfl⟩
  obtain ⟨L2, hL2⟩ : ∃ L2, L2 = lb.length := ⟨_, rfl⟩
  rw [← hL1] at h1000 HA Hlt Hgt Hsame Hsh Hsh' ⊢
  rw [← hL2] at HB Hlt Hgt Hsame Hsh Hsh' ⊢
  clear hL1 hL2
  by_cases hne : L1 = L2
  · subst hne
    have KL := Lib.hid (Hlt.out rfl)
    have KG := Lib.hid (Hgt.out rfl)
    have KS := Lib.hid (Hsame.out rfl)
    clear Hlt Hgt Hsame Hsh Hsh'
    have hwr : IntKind.i64.wrap ((L1 : Int) - 1) = (L1 : Int) - 1 := IntWalk.i64_in _ ⟨by omega, by omega⟩
    go_enter Try.func62, Try.ntmps62
    go_wp2_with fail
    clear hwr
    go_loopw [5] (fun i W => ∃ (k : Nat), k ≤ L1 ∧ i = .int .i64 ((k : Int) - 1) ∧ Hid (∀ j, k ≤ j → j < L1 → la.getD j 0 = lb.getD j 0) ∧ Below w.heap.size w W) (fun i _ => (intOf i + 1).toNat)
    case atStart => exact ⟨L1, Nat.le_refl _, rfl, fun j h1 h2 => by omega, Below.refl _ _⟩
    case round =>
      obtain ⟨k, hk, rfl, hs, hb⟩ := hrel
      by_cases h0 : k = 0
      · subst h0
        have hR := KS.out (fun j hj => hs.out j (Nat.zero_le _) hj)
        clear KS KL KG
        rw [show (((0 : Nat) : Int) - 1) = -1 from rfl]

        go_wp2_with fail

        go_ret
        exact ⟨ret_int hR.symm, hb⟩
      · obtain ⟨j, hj⟩ : ∃ j, k = j + 1 := ⟨k - 1, by omega⟩
        obtain ⟨b, off, rfl, hlb, hc, hxl⟩ := HA.out j (by omega)
        obtain ⟨b2, off2, rfl, hlb2, hc2, hyl⟩ := HB.out j (by omega)
        have HltJ : Hid (la.getD j 0 < lb.getD j 0 → R = -1) := KL.out j (by omega) (fun i h1 h2 => hs.out i (by omega) h2)
        have HgtJ : Hid (lb.getD j 0 < la.getD j 0 → R = 1) := KG.out j (by omega) (fun i h1 h2 => hs.out i (by omega) h2)
        have Heq : Hid (la.getD j 0 = lb.getD j 0 → ∀ i, j ≤ i → i < L1 → la.getD i 0 = lb.getD i 0) := fun h i h1 h2 => by
          by_cases e : i = j
          · subst e; exact h
          · exact hs.out i (by omega) h2
        have hcW : wr.cell? ⟨b, off + j, none⟩ = some (.int .u64 ((la.getD j 0 : Nat) : Int)) := (hb.cell hlb).trans hc
        have hcW2 : wr.cell? ⟨b2, off2 + j, none⟩ = some (.int .u64 ((lb.getD j 0 : Nat) : Int)) := (hb.cell hlb2).trans hc2
        obtain ⟨x, hx⟩ : ∃ x, x = la.getD j 0 := ⟨_, rfl⟩
        obtain ⟨y, hy⟩ : ∃ y, y = lb.getD j 0 := ⟨_, rfl⟩
        rw [← hx] at hcW hxl HltJ HgtJ Heq
        rw [← hy] at hcW2 hyl HltJ HgtJ Heq
        clear hc hc2 hx hy hs KL KG KS
        have hji : (k : Int) - 1 = (j : Int) := by omega
        have hj0 : (0 : Int) ≤ (j : Int) := by omega
        have hj1 : (j : Int) < (L1 : Int) := by omega
        have hwj : IntKind.i64.wrap ((j : Int) - 1) = (j : Int) - 1 := IntWalk.i64_in _ ⟨by omega, by omega⟩
        rw [hji]
        have HJ := Lib.hid hj
        clear hj hji h0
        by_cases hxy : x < y
        · have hR := HltJ.out hxy
          clear HltJ HgtJ Heq
          go_wp2_with fail
          go_quiet (fail)
          go_wp2_with fail
          go_ret
          exact ⟨ret_int hR.symm, by first | exact Below.drawn hb _ | exact Below.drawn (Below.drawn hb _) _⟩
        · by_cases hyx : y < x
          · have hR := HgtJ.out hyx
            clear HltJ HgtJ Heq
            go_wp2_with fail
            go_quiet (fail)
            go_wp2_with fail
            go_quiet (fail)
            go_wp2_with fail
            go_ret
            exact ⟨ret_int hR.symm, by first | exact Below.drawn hb _ | exact Below.drawn (Below.drawn hb _) _⟩
          · have hE := Lib.hid (Heq.out (by omega))
            clear HltJ HgtJ Heq
            go_wp2_with fail
            go_quiet (fail)
            go_wp2_with fail
            go_quiet (fail)
            go_wp2_with fail
            go_roundw
            case rel => exact ⟨j, by omega, rfl, hE.out, Below.drawn hb _⟩
            case measure => have := HJ.out; simp [intOf] <;> omega
  · by_cases hlt : L1 < L2
    · have hR := Hsh.out hlt
      have hne' : ((L1 : Int) == (L2 : Int)) = false := by simp; omega
      clear Hsh Hsh' Hlt Hgt Hsame HA HB
      go_enter Try.func62, Try.ntmps62
      go_wp2_with fail
      go_ret
      exact ⟨ret_int hR.symm, Below.refl _ _⟩
    · have hR := Hsh'.out (by omega)
      have hne' : ((L1 : Int) == (L2 : Int)) = false := by simp; omega
      clear Hsh Hsh' Hlt Hgt Hsame HA HB
      go_enter Try.func62, Try.ntmps62
      go_wp2_with fail
      go_ret
      exact ⟨ret_int hR.symm, Below.refl _ _⟩
end Go.Proofs.Ytcfkhgpcamfecaa
