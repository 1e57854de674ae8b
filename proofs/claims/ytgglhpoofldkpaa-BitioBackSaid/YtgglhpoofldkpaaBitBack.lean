/- The statement BitioBack: the law's walk. -/
import Derived.Test.YtgglhpoofldkpaaBitRead
import Derived.Test.YtgglhpoofldkpaaActs
namespace Go.Proofs.Ytgglhpoofldkpaa
open Go.RowKit Bit
set_option linter.unusedVariables false
set_option maxRecDepth 100000

/-- What has been written after k calls: the number, and how many bits. -/
def acc (f : Nat → Int × Nat × Int) : Nat → Nat × Nat
  | 0 => (0, 0)
  | k + 1 => if 0 ≤ (f k).2.2 ∧ (f k).2.2 ≤ 32 then ((acc f k).1 + (f k).2.1 % 2 ^ (f k).2.2.toNat * 2 ^ (acc f k).2, (acc f k).2 + (f k).2.2.toNat) else acc f k
theorem acc_no (f : Nat → Int × Nat × Int) (k : Nat) (h : ¬ (0 ≤ (f k).2.2 ∧ (f k).2.2 ≤ 32)) : acc f (k + 1) = acc f k := by simp only [acc, if_neg h]
theorem acc_yes (f : Nat → Int × Nat × Int) (k m : Nat) (h : (f k).2.2 = (m : Int)) (hm : m ≤ 32) : acc f (k + 1) = ((acc f k).1 + (f k).2.1 % 2 ^ m * 2 ^ (acc f k).2, (acc f k).2 + m) := by
  have h' : 0 ≤ (f k).2.2 ∧ (f k).2.2 ≤ 32 := by omega
  have e : (f k).2.2.toNat = m := by omega
  simp only [acc, if_pos h', e]
theorem acc_small (f : Nat → Int × Nat × Int) (k : Nat) : (acc f k).2 ≤ 32 * k := by
  induction k with
  | zero => simp [acc]
  | succ k ih =>
    by_cases h : 0 ≤ (f k).2.2 ∧ (f k).2.2 ≤ 32
    · simp only [acc, if_pos h]; omega
    · rw [acc_no f k h]; omega
theorem acc_more (f : Nat → Int × Nat × Int) (k j : Nat) : ∃ M, (acc f (k + j)).1 = (acc f k).1 + 2 ^ (acc f k).2 * M ∧ (acc f k).2 ≤ (acc f (k + j)).2 := by
  induction j with
  | zero => exact ⟨0, by simp, Nat.le_refl _⟩
  | succ j ih =>
    obtain ⟨M, h1, h2⟩ := ih
    by_cases h : 0 ≤ (f (k + j)).2.2 ∧ (f (k + j)).2.2 ≤ 32
    · have e : acc f (k + (j + 1)) = ((acc f (k + j)).1 + (f (k + j)).2.1 % 2 ^ (f (k + j)).2.2.toNat * 2 ^ (acc f (k + j)).2, (acc f (k + j)).2 + (f (k + j)).2.2.toNat) := by
        show acc f (k + j + 1) = _
        simp only [acc, if_pos h]
      rw [e]
      refine ⟨M + (f (k + j)).2.1 % 2 ^ (f (k + j)).2.2.toNat * 2 ^ ((acc f (k + j)).2 - (acc f k).2), ?_, by simp only; omega⟩
      simp only
      have e2 : 2 ^ (acc f (k + j)).2 = 2 ^ (acc f k).2 * 2 ^ ((acc f (k + j)).2 - (acc f k).2) := by rw [← Nat.pow_add]; congr 1; omega
      rw [h1, e2, Nat.mul_add, Nat.add_assoc]
      congr 2
      rw [Nat.mul_left_comm]
    · rw [show k + (j + 1) = k + j + 1 by omega, acc_no f (k + j) h]
      exact ⟨M, h1, h2⟩
theorem acc_lt (f : Nat → Int × Nat × Int) (k : Nat) : (acc f k).1 < 2 ^ (acc f k).2 := by
  induction k with
  | zero => simp [acc]
  | succ k ih =>
    by_cases h : 0 ≤ (f k).2.2 ∧ (f k).2.2 ≤ 32
    · simp only [acc, if_pos h]
      have h1 : (f k).2.1 % 2 ^ (f k).2.2.toNat < 2 ^ (f k).2.2.toNat := Nat.mod_lt _ (Nat.pow_pos (by omega))
      have h2 : ((f k).2.1 % 2 ^ (f k).2.2.toNat + 1) * 2 ^ (acc f k).2 ≤ 2 ^ (f k).2.2.toNat * 2 ^ (acc f k).2 := Nat.mul_le_mul_right _ h1
      rw [Nat.add_mul] at h2
      rw [Nat.pow_add, Nat.mul_comm (2 ^ (acc f k).2)]
      omega
    · rw [acc_no f k h]; exact ih
/-- What was written k-th is found where it was written. -/
theorem acc_read (f : Nat → Int × Nat × Int) (k m L : Nat) (h : (f k).2.2 = (m : Int)) (hm : m ≤ 32) (hk : k < L) :
    (acc f L).1 / 2 ^ (acc f k).2 % 2 ^ m = (f k).2.1 % 2 ^ m ∧ (acc f k).2 + m ≤ (acc f L).2 := by
  obtain ⟨M, h1, h2⟩ := acc_more f (k + 1) (L - (k + 1))
  rw [show k + 1 + (L - (k + 1)) = L by omega, acc_yes f k m h hm] at h1 h2
  simp only at h1 h2
  refine ⟨?_, h2⟩
  have hp : 0 < 2 ^ (acc f k).2 := Nat.pow_pos (by omega)
  have e : (acc f L).1 = (acc f k).1 + 2 ^ (acc f k).2 * ((f k).2.1 % 2 ^ m + 2 ^ m * M) := by
    rw [h1, Nat.pow_add, Nat.mul_add, Nat.mul_assoc, Nat.mul_comm ((f k).2.1 % 2 ^ m)]
    omega
  rw [e, Nat.add_mul_div_left _ _ hp, Nat.div_eq_of_lt (acc_lt f k), Nat.zero_add, Nat.add_mul_mod_self_left, Nat.mod_mod]

theorem acells {W : World} {b off i : Nat} {v0 v1 v2 : Value} (h0 : W.cell? ⟨b, off + i * 3 + 1, none⟩ = some v1) (h1 : W.cell? ⟨b, off + i * 3 + 2, none⟩ = some v2) : W.cell? ⟨b, off + i * 3 + 1, none⟩ = some v1 ∧ W.cell? ⟨b, off + i * 3 + 2, none⟩ = some v2 := ⟨h0, h1⟩

set_option maxHeartbeats 8000000 in
theorem bitioBack_walk (a : Option Addr) (L c : Nat) (f : Nat → Int × Nat × Int) (w : World) (hA : Acts w w.heap.size a L f) (hLc : L ≤ c) (hL : L ≤ 200) :
    Calls Try.prog 5 #[.slice a L c] w fun e w' => e = .returned (.bool true) ∧ Below w.heap.size w w' := by
  have HA := Lib.hid hA
  clear hA
  go_enter Try.func5, Try.ntmps5
  go_wp2_with fail
  refine (newWriter_any _).mono ?_
  rintro e w1 ⟨rfl, hW0, hb0⟩
  have HW0 := Lib.hid hW0
  have Hb0 := Lib.hid hb0
  obtain ⟨g, hg⟩ : ∃ g, g = w.heap.size := ⟨_, rfl⟩
  rw [← hg] at HW0
  have Hg := Lib.hid hg
  clear hW0 hb0
  rw [← hg]
  clear hg
  go_wp2_with fail
  go_loopw [4] (fun i W => ∃ (k : Nat) (v : Value), k ≤ L ∧ i = .int .i64 (k : Int) ∧ Hid (Wr W g v (acc f k).1 (acc f k).2) ∧ Hid (∀ b, v.ownBlock = some b → w.heap.size ≤ b) ∧ Hid (Below w.heap.size w W)) (fun i _ => L - (intOf i).toNat)
  case atStart => exact ⟨0, _, Nat.zero_le _, rfl, HW0.out, (fun b e => by cases e), Hb0.out⟩
  case round =>
    obtain ⟨k, v, hk, rfl, hW, hv, hb⟩ := hrel
    clear HW0 Hb0
    by_cases hlt : k < L
    · obtain ⟨b, off, rfl, hbl, c0, c1, c2, hV, hc1, hc2⟩ := HA.out k hlt
      have HW1 := Lib.hid c1
      have HW2 := Lib.hid c2
      replace c0 := (hb.out.cell (p := ⟨b, off + k * 3, none⟩) hbl).trans c0
      replace c1 := (hb.out.cell (p := ⟨b, off + k * 3 + 1, none⟩) hbl).trans c1
      replace c2 := (hb.out.cell (p := ⟨b, off + k * 3 + 2, none⟩) hbl).trans c2
      have hk0 : (0 : Int) ≤ (k : Int) := by omega
      have hk1 : (k : Int) < (L : Int) := by omega
      have hks := acc_small f k
      by_cases hn : (f k).2.2 < 0
      · have hno := Lib.hid (acc_no f k (by omega))
        have hd : decide (0 ≤ (f k).2.2) = false := by simp; omega
        generalize hcc : (f k).2.2 = cc at *
        clear hn hcc c0 c1 hks
        go_wp2_with fail
        go_quiet (fail)
        go_wp2_with fail
        go_roundw
        case rel => exact ⟨k + 1, v, hlt, by go_num, by rw [hno.out]; exact hW.out, hv.out, below_drawn hb.out _⟩
        case measure => simp [intOf] <;> omega
      · by_cases hn2 : 32 < (f k).2.2
        · have hno := Lib.hid (acc_no f k (by omega))
          have hd : decide (0 ≤ (f k).2.2) = true := by simp; omega
          have hd2 : decide ((f k).2.2 ≤ 32) = false := by simp; omega
          generalize hcc : (f k).2.2 = cc at *
          clear hn hn2 hcc c0 c1 hks
          go_wp2_with fail
          go_quiet (fail)
          go_wp2_with fail
          go_roundw
          case rel => exact ⟨k + 1, v, hlt, by go_num, by rw [hno.out]; exact hW.out, hv.out, below_drawn hb.out _⟩
          case measure => simp [intOf] <;> omega
        · obtain ⟨m, hm⟩ : ∃ m : Nat, (f k).2.2 = (m : Int) := ⟨(f k).2.2.toNat, by omega⟩
          have hm32 : m ≤ 32 := by omega
          have hyes := Lib.hid (acc_yes f k m hm hm32)
          rw [hm] at c2
          have HW2 := Lib.hid (show w.cell? ⟨b, off + k * 3 + 2, none⟩ = some (.int .i64 (m : Int)) from by rw [← hm]; exact HW2.out)
          have hwb := Lib.hid (wbits_ok g (acc f k).1 (acc f k).2 (f k).2.1 m v wr.drew hW.out (by omega) hV hm32)
          have hd : decide (0 ≤ (m : Int)) = true := by simp
          have hd2 : decide ((m : Int) ≤ 32) = true := by simp; omega
          have Hbl := Lib.hid hbl
          generalize hVV : (f k).2.1 = V at *
          clear hn hn2 hm c0 hks hVV hc1 hc2 hV
          go_wp2_with fail
          go_region_held3 (fun X => X.cell? ⟨b, off + k * 3 + 1, none⟩ = some (.int .u32 (V : Int)) ∧ X.cell? ⟨b, off + k * 3 + 2, none⟩ = some (.int .i64 (m : Int)))
            (first | exact ⟨c1, c2⟩ | exact ⟨d1, d2⟩)
            (first
              | (go_at_call 21; refine hwb.out.mono ?_; rintro e X1 ⟨rfl, v1, hW1, ho1, hat1⟩; (have hB1 : Hid (Below w.heap.size w X1) := ho1.belowOf (below_drawn hb.out 1) (touch_le (by have := Hg.out; omega) hv.out) hb.out.size); (have d1 : X1.cell? ⟨b, off + k * 3 + 1, none⟩ = some (.int .u32 (V : Int)) := (hB1.out.cell (p := ⟨b, off + k * 3 + 1, none⟩) Hbl.out).trans HW1.out); (have d2 : X1.cell? ⟨b, off + k * 3 + 2, none⟩ = some (.int .i64 (m : Int)) := (hB1.out.cell (p := ⟨b, off + k * 3 + 2, none⟩) Hbl.out).trans HW2.out))
              | (go_at_call 13; refine (code_any _ _).mono ?_; rintro e w' ⟨rfl, rfl⟩))
          have Hv1 := Lib.hid (own_le hv.out hat1 (Nat.le_trans hb.out.size (Nat.le_refl _)))
          have HW1' := Lib.hid hW1
          clear hW1 ho1 hat1 d1 d2 c1 c2
          go_wp2_with fail
          go_roundw
          case rel => exact ⟨k + 1, v1, hlt, by go_num, by rw [hyes.out]; exact HW1'.out, Hv1.out, hB1.out⟩
          case measure => simp [intOf] <;> omega
    · obtain rfl : k = L := by omega
      have hNn := acc_small f k
      have hby := Lib.hid (wbytes2_any g (acc f k).1 (acc f k).2 v wr hW.out (by omega))
      have hlenB : (bytesOf (acc f k).1 (acc f k).2).length = ((acc f k).2 + 7) / 8 := by rw [bytesOf, bytesTo_length]
      have HlenB := Lib.hid hlenB
      have Hread : Hid (∀ (j m : Nat), (f j).2.2 = (m : Int) → m ≤ 32 → j < k → valOf (bytesOf (acc f k).1 (acc f k).2) (acc f j).2 m = (f j).2.1 % 2 ^ m ∧ (acc f j).2 + m ≤ 8 * (bytesOf (acc f k).1 (acc f k).2).length) := fun j m h1 h2 h3 => by
        obtain ⟨e1, e2⟩ := acc_read f j m k h1 h2 h3
        have h5 : (acc f j).2 + m ≤ 8 * (((acc f k).2 + 7) / 8) := by omega
        exact ⟨by rw [valOf_bytes _ _ _ _ h5]; exact e1, by rw [hlenB]; exact h5⟩
      have Hdig : Hid (∀ x ∈ bytesOf (acc f k).1 (acc f k).2, x < 256) := bytesTo_lt _ _
      have hlb : (bytesOf (acc f k).1 (acc f k).2).length ≤ 1000 := by rw [hlenB]; omega
      have Hlast : Hid (8 * (bytesOf (acc f k).1 (acc f k).2).length - (acc f k).2 < 8 ∧ (acc f k).2 ≤ 8 * (bytesOf (acc f k).1 (acc f k).2).length) := by
        show _ ∧ _
        rw [hlenB]; omega
      generalize bytesOf (acc f k).1 (acc f k).2 = l at *
      clear hlenB hNn hW hv
      go_wp2_with fail
      refine hby.out.mono ?_
      rintro e X ⟨a1, c1, rfl, hn1, hz1, hbx⟩
      have hnr := Lib.hid (newReader_any a1 c1 l X hn1 (by omega) hz1)
      have HBX := Lib.hid (keepBelow hbx hb.out)
      clear hn1 hz1 hbx hby hb
      go_wp2_with fail
      refine hnr.out.mono ?_
      rintro e Y ⟨g2, a2, cr, rfl, hR, hg2, hby⟩
      have HBY := Lib.hid (keepBelow hby HBX.out)
      have HR := Lib.hid hR
      have Hg2 : Hid (w.heap.size ≤ g2) := Nat.le_trans HBX.out.size hg2
      clear hR hg2 hby hnr
      go_wp2_with fail
      go_loopw [6] (fun i W => ∃ j : Nat, j ≤ k ∧ i = .int .i64 (j : Int) ∧ Hid (Rd W g2 a2 cr l (acc f j).2) ∧ Hid (Below w.heap.size w W)) (fun i _ => k - (intOf i).toNat)
      case atStart => exact ⟨0, Nat.zero_le _, rfl, HR.out, HBY.out⟩
      case round =>
        obtain ⟨j, hj, rfl, hRd, hb⟩ := hrel
        clear HR HBY HBX
        by_cases hlt : j < k
        · obtain ⟨b, off, rfl, hbl, c0, c1, c2, hV, hc1, hc2⟩ := HA.out j hlt
          have HW1 := Lib.hid c1
          replace c2 := (hb.out.cell (p := ⟨b, off + j * 3 + 2, none⟩) hbl).trans c2
          have hk0 : (0 : Int) ≤ (j : Int) := by omega
          have hk1 : (j : Int) < (k : Int) := by omega
          clear c0 c1
          by_cases hn : (f j).2.2 < 0
          · have hno := Lib.hid (acc_no f j (by omega))
            generalize hcc : (f j).2.2 = cc at *
            clear hcc
            go_wp2_with fail
            go_roundw
            case rel => exact ⟨j + 1, hlt, by go_num, by rw [hno.out]; exact hRd.out, hb.out⟩
            case measure => simp [intOf] <;> omega
          · by_cases hn2 : 32 < (f j).2.2
            · have hno := Lib.hid (acc_no f j (by omega))
              generalize hcc : (f j).2.2 = cc at *
              clear hcc
              go_wp2_with fail
              go_roundw
              case rel => exact ⟨j + 1, hlt, by go_num, by rw [hno.out]; exact hRd.out, hb.out⟩
              case measure => simp [intOf] <;> omega
            · obtain ⟨m, hm⟩ : ∃ m : Nat, (f j).2.2 = (m : Int) := ⟨(f j).2.2.toNat, by omega⟩
              have hm32 : m ≤ 32 := by omega
              have hyes := Lib.hid (acc_yes f j m hm hm32)
              obtain ⟨hr1, hr2⟩ := Hread.out j m hm hm32 hlt
              rw [hm] at c2
              have hbi := bits_any g2 a2 cr l (acc f j).2 m wr hRd.out (by omega) Hdig.out hm32 hr2
              unfold BitsPost at hbi
              rw [hr1] at hbi
              have Hbi := Lib.hid hbi
              have hVm : (f j).2.1 % 2 ^ m ≤ (f j).2.1 := Nat.mod_le _ _
              have hfull : Hid (m = 32 → (f j).2.1 % 2 ^ m = (f j).2.1) := fun h => by subst h; exact Nat.mod_eq_of_lt hV
              have Hbl := Lib.hid hbl
              generalize hVV : (f j).2.1 = V at *
              obtain ⟨y, hy⟩ : ∃ y, y = V % 2 ^ m := ⟨_, rfl⟩
              rw [← hy] at Hbi hfull hVm
              obtain ⟨z, hz⟩ : ∃ z, z = 2 ^ m := ⟨_, rfl⟩
              rw [← hz] at hy
              have hzi : ((2 : Int) ^ m) = (z : Int) := by rw [hz]; simp
              have hzp : 0 < z := by rw [hz]; exact Nat.pow_pos (by omega)
              have hyi : (V : Int) % (z : Int) = (y : Int) := by rw [hy]; simp
              have hzl : m < 32 → z < 4294967296 := fun h => by
                have := Nat.pow_le_pow_right (n := 2) (by omega) (show m ≤ 31 by omega)
                rw [hz]
                omega
              have Hyi := Lib.hid hyi
              have Hzi := Lib.hid hzi
              clear hbi hr1 hr2 hm hVV hy hz hn hn2 hc1 hc2 hRd hyi hzi
              go_wp2_with fail
              refine Hbi.out.mono ?_
              rintro e X ⟨rfl, hR2, hO⟩
              have HBX : Hid (Below w.heap.size w X) := hO.belowOf hb.out (fun b e => by have := Hg2.out; omega) hb.out.size
              have HR2 := Lib.hid hR2
              have c1 := (HBX.out.cell (p := ⟨b, off + j * 3 + 1, none⟩) Hbl.out).trans HW1.out
              clear hR2 hO c2 Hbi hb
              by_cases hm3 : m < 32
              · have hmd : decide ((m : Int) < 32) = true := by simp; omega
                have hme : ((m : Int) == 32) = false := by simp; omega
                have hzl2 := hzl hm3
                have hsh : IntKind.u32.wrap ((2 : Int) ^ m) = (z : Int) := by rw [Hzi.out]; exact IntWalk.u32_in _ ⟨by omega, by omega⟩
                have hsh2 : IntKind.u32.wrap (1 * (2 : Int) ^ m) = (z : Int) := by rw [Int.one_mul]; exact hsh
                have hyi := Hyi.out
                clear hfull hzl
                go_wp2_with fail
                go_quiet ((go_at_call 13; exact Calls.quiet_of_same ((code_any _ _).mono fun _ _ h => ⟨h.1, h.2.symm⟩)))
                go_wp2_with fail
                go_roundw
                case rel => exact ⟨j + 1, hlt, by go_num, by rw [hyes.out]; exact HR2.out, below_drawn HBX.out _⟩
                case measure => simp [intOf] <;> omega
              · obtain rfl : m = 32 := by omega
                have hyV := hfull.out rfl
                subst hyV
                clear hfull hzl hVm
                go_wp2_with fail
                go_quiet ((go_at_call 13; exact Calls.quiet_of_same ((code_any _ _).mono fun _ _ h => ⟨h.1, h.2.symm⟩)))
                go_wp2_with fail
                go_roundw
                case rel => exact ⟨j + 1, hlt, by go_num, by rw [hyes.out]; exact HR2.out, below_drawn HBX.out _⟩
                case measure => simp [intOf] <;> omega
        · obtain rfl : j = k := by omega
          have hlf := Lib.hid (left_any g2 a2 cr l (acc f j).2 wr hRd.out (by omega) Hlast.out.2)
          have hl8 := Hlast.out.1
          have hl8i : ((8 * l.length - (acc f j).2 : Nat) : Int) < 8 := by omega
          generalize 8 * l.length - (acc f j).2 = z at *
          clear hl8 hRd Hread Hlast Hdig
          go_wp2_with fail
          refine hlf.out.mono ?_
          rintro e X ⟨rfl, hbx⟩
          have HB2 := Lib.hid (keepBelow hbx hb.out)
          clear hbx hb hlf
          go_wp2_with fail
          refine (live_any _).mono ?_
          rintro e Z ⟨rfl, hbz⟩
          have HB3 := Lib.hid (keepBelow hbz HB2.out)
          clear hbz HB2
          go_wp2_with fail
          go_ret
          exact ⟨rfl, HB3.out⟩

theorem bitioBack_row (u : Value) (w : World) (h : ∃ (a : Option Addr) (L c : Nat) (f : Nat → Int × Nat × Int), u = .slice a L c ∧ L ≤ c ∧ c ≤ maxLen ∧ (a = none → c = 0) ∧ Acts w w.heap.size a L f) :
    Calls Try.prog 5 #[u] w fun e w' => e = .returned (.bool true) ∧ Below w.heap.size w w' := by
  obtain ⟨a, L, c, f, rfl, hLc, hcm, _, hA⟩ := h
  by_cases hL : L ≤ 200
  · exact bitioBack_walk a L c f w hA hLc hL
  · unfold maxLen at hcm
    have Hc := Lib.hid hcm
    have hl : decide (200 < (L : Int)) = true := by simp; omega
    have hl2 : 200 < L := by omega
    clear hcm hA hL hLc
    go_enter Try.func5, Try.ntmps5
    go_wp2_with fail
    refine (live_any _).mono ?_
    rintro e Z ⟨rfl, hbz⟩
    go_wp2_with fail
    go_ret
    exact ⟨rfl, hbz⟩
end Go.Proofs.Ytgglhpoofldkpaa
