/- Walks over layer 7: Varint, the program's and the reference's. -/
import Derived.Test.YtdifojeghplpeaaDoorVar
namespace Go.Proofs.YtdifojeghplpeaaDoor
open Go.RowKit Var
set_option linter.unusedVariables false
set_option maxRecDepth 100000

/-- What stands at a place of the bytes l: the number, the place behind it, the error. -/
def vres (l : List Nat) (p : Int) : Nat × Nat × Nat :=
  if p < 0 ∨ (l.length : Int) < p then (0, 0, 8) else ((vd (l.drop p.toNat) 0 0).1, (if (vd (l.drop p.toNat) 0 0).2.2 = 0 then p.toNat + (vd (l.drop p.toNat) 0 0).2.1 else 0), (vd (l.drop p.toNat) 0 0).2.2)
def Three (a b c : Nat) (w : World) (e : Ending) (w' : World) : Prop := e = .returned (.tuple #[.int .u64 (a : Int), .int .i64 (b : Int), .int .i64 (c : Int)]) ∧ w = w'

/-- The cells of a slice of bytes, one by one. -/
def Cells8 (w : World) (a : Option Addr) (l : List Nat) : Prop := ∀ i, i < l.length → ∃ b off, a = some ⟨b, off, none⟩ ∧ w.cell? ⟨b, off + i, none⟩ = some (.int .u8 ((l.getD i 0 : Nat) : Int)) ∧ l.getD i 0 < 256
theorem cells8 {w : World} {a : Option Addr} {l : List Nat} (h : Nums .u8 w w.heap.size a l) (hd : ∀ x ∈ l, x < 256) : Cells8 w a l := fun i hi => by
  obtain ⟨b, off, rfl, hb, hc⟩ := h (by omega)
  refine ⟨b, off, rfl, hc i hi, ?_⟩
  simp only [List.getD_eq_getElem?_getD, List.getElem?_eq_getElem hi, Option.getD_some]
  exact hd _ (List.getElem_mem hi)

theorem varint_far (a : Option Addr) (L c : Nat) (p : Int) (w : World) (hp : p < 0 ∨ (L : Int) < p) :
    Calls Tryd.prog 51 #[.slice a L c, .int .i64 p] w (Three 0 0 8 w) := by
  by_cases h0 : p < 0
  · clear hp
    go_enter Tryd.func51, Tryd.ntmps51
    go_wp2_with fail
    go_ret3
    exact ⟨rfl, rfl⟩
  · have h1 : (L : Int) < p := by omega
    clear hp
    go_enter Tryd.func51, Tryd.ntmps51
    go_wp2_with fail
    go_ret3
    exact ⟨rfl, rfl⟩
theorem refVarint_far (a : Option Addr) (L c : Nat) (p : Int) (w : World) (hp : p < 0 ∨ (L : Int) < p) :
    Calls Tryd.prog 45 #[.slice a L c, .int .i64 p] w (Three 0 0 8 w) := by
  by_cases h0 : p < 0
  · clear hp
    go_enter Tryd.func45, Tryd.ntmps45
    go_wp2_with fail
    go_ret3
    exact ⟨rfl, rfl⟩
  · have h1 : (L : Int) < p := by omega
    clear hp
    go_enter Tryd.func45, Tryd.ntmps45
    go_wp2_with fail
    go_ret3
    exact ⟨rfl, rfl⟩

theorem or_step (v x i : Nat) (hv : v < 128 ^ i) (hx : x < 256) (hi : i ≤ 9) (h9 : i = 9 → x < 2) :
    bits .or .u64 (v : Int) (IntKind.u64.wrap (IntKind.u64.wrap (bits .andNot .u8 (x : Int) 128) * 2 ^ (7 * i))) = ((v + x % 128 * 128 ^ i : Nat) : Int) := by
  have h1 : ∀ z, z < 256 → z &&& (255 - 128) = z % 128 := by decide
  have h2 : x % 128 * 128 ^ i < 18446744073709551616 ∧ v + x % 128 * 128 ^ i < 18446744073709551616 := by
    by_cases h : i = 9
    · subst h
      have := h9 rfl
      have h3 := Nat.mul_le_mul_right (128 ^ 9) (show x % 128 ≤ 1 by omega)
      omega
    · have h3 := vd_step hv (show x % 128 < 128 by omega)
      have h4 : 128 ^ (i + 1) ≤ 9223372036854775808 := p128_9 (by omega)
      omega
  rw [show (128 : Int) = ((128 : Nat) : Int) from rfl, u8_andNot_nat x 128 hx (by omega), h1 x hx]
  rw [IntWalk.u64_in ((x % 128 : Nat) : Int) ⟨by omega, by omega⟩]
  have e1 : ((x % 128 : Nat) : Int) * 2 ^ (7 * i) = ((x % 128 * 128 ^ i : Nat) : Int) := by
    rw [Int.natCast_mul, Int.natCast_pow, Int.pow_mul]; rfl
  rw [e1, IntWalk.u64_in _ ⟨by omega, by omega⟩, u64_or_nat v _ (by omega) (by omega)]
  congr 1
  have hp : (128 : Nat) ^ i = 2 ^ (7 * i) := by rw [Nat.pow_mul]
  rw [hp] at hv ⊢
  rw [← Nat.shiftLeft_eq, Nat.or_comm, ← Nat.shiftLeft_add_eq_or_of_lt hv, Nat.add_comm]

set_option maxHeartbeats 4000000 in
theorem varint_at (a : Option Addr) (l : List Nat) (c k : Nat) (w : World) (h : Cells8 w a l) (hl : l.length ≤ 1000000000) (hk : k ≤ l.length) (A n E N : Nat) (hR : Hid (vd (l.drop k) 0 0 = (A, n, E))) (hN : Hid (N = if E = 0 then k + n else 0)) :
    Calls Tryd.prog 51 #[.slice a l.length c, .int .i64 (k : Int)] w (Three A N E w) := by
  obtain ⟨L, hL⟩ : ∃ L, L = l.length := ⟨_, rfl⟩
  have hdrop : Hid (∀ i, i < L → l.drop i = l.getD i 0 :: l.drop (i + 1)) := fun i hi => drop_cons (by omega)
  have hend : Hid (l.drop L = []) := by show _ = _; rw [hL]; simp
  have H : Hid (∀ i, i < L → ∃ b off, a = some ⟨b, off, none⟩ ∧ w.cell? ⟨b, off + i, none⟩ = some (.int .u8 ((l.getD i 0 : Nat) : Int)) ∧ l.getD i 0 < 256) := by rw [hL]; exact h
  rw [← hL] at hl hk ⊢
  clear hL h
  have hk0 : decide ((k : Int) < 0) = false := decide_eq_false (by omega)
  have hk1 : decide (L < k) = false := decide_eq_false (by omega)
  go_enter Tryd.func51, Tryd.ntmps51
  go_wp2_with fail
  go_loop [4, 7] (fun s t => ∃ i v : Nat, s = .int .u64 (v : Int) ∧ t = .int .i64 (i : Int) ∧ i ≤ 9 ∧ k + i ≤ L ∧ Hid (v < 128 ^ i) ∧ Hid (vd (l.drop (k + i)) i v = (A, n, E))) (fun _ t => 10 - (intOf t).toNat)
  case atStart => exact ⟨0, 0, rfl, rfl, by omega, by omega, by show 0 < 1; omega, hR⟩
  case round =>
    obtain ⟨i, v, rfl, rfl, hi, hki, hv, hvd⟩ := hrel
    by_cases hlt : k + i < L
    · obtain ⟨b, off, rfl, hc, hx⟩ := H.out (k + i) hlt
      have hdr := Lib.hid (hdrop.out (k + i) hlt)
      generalize l.getD (k + i) 0 = x at *
      have h9b : ((i : Int) == 9) = decide (i = 9) := by rw [Bool.eq_iff_iff]; simp; omega
      by_cases hbad : i = 9 ∧ 1 < x
      · obtain ⟨rfl, hx1⟩ := hbad
        have HE : Hid ((0, 0, 3) = (A, n, E)) := by
          have h := hvd.out
          rw [hdr.out, vd_bad rfl hx1] at h
          exact h
        clear hvd hdr h9b
        go_wp2_with fail
        go_ret3
        have h := HE.out
        injection h with h1 h2
        injection h2 with h2 h3
        subst h1 h2 h3
        rw [hN.out]
        exact ⟨rfl, rfl⟩
      · have hor := or_step v x i hv.out hx hi (fun e => by omega)
        obtain ⟨V, hV⟩ : ∃ V, V = v + x % 128 * 128 ^ i := ⟨_, rfl⟩
        rw [← hV] at hor
        have HV := Lib.hid hV
        have Hor := Lib.hid hor
        have Hbad := Lib.hid hbad
        have hg : ((i : Int) == 9) = true → ¬ (1 < x) := fun e => by rw [h9b] at e; have := of_decide_eq_true e; omega
        clear hV hor hbad h9b
        by_cases hx8 : x < 128
        · have HE : Hid ((V, i + 1, 0) = (A, n, E)) := by
            have h := hvd.out
            rw [hdr.out, vd_last Hbad.out hx8] at h
            rw [HV.out, Nat.mod_eq_of_lt hx8]
            exact h
          have HG := Lib.hid hg
          clear hvd hdr hg
          by_cases h9 : i = 9
          · have hx1 : ¬ (1 < x) := by have := Hbad.out; omega
            subst h9
            clear hx8
            have hx8 : x < 128 := by omega
            go_wp2_with fail
            go_ret3
            have h := HE.out
            injection h with h1 h2
            injection h2 with h2 h3
            subst h1 h2 h3
            rw [hN.out]
            exact ⟨by rw [← Hor.out]; rfl, rfl⟩
          · have h9 : ((i : Int) == 9) = false := by simp; omega
            go_wp2_with fail
            go_ret3
            have h := HE.out
            injection h with h1 h2
            injection h2 with h2 h3
            subst h1 h2 h3
            rw [hN.out]
            exact ⟨by rw [← Hor.out]; congr 5, rfl⟩
        · have hi9 : i ≤ 8 := by have := Hbad.out; omega
          have h9 : ((i : Int) == 9) = false := by simp; omega
          have HE : Hid (vd (l.drop (k + (i + 1))) (i + 1) V = (A, n, E)) := by
            have h := hvd.out
            rw [hdr.out, vd_more Hbad.out hx8, ← HV.out] at h
            exact h
          have HVl : Hid (V < 128 ^ (i + 1)) := by have h := vd_step hv.out (show x % 128 < 128 by omega); rw [← HV.out] at h; exact h
          clear hvd hdr hg
          go_wp2_with fail
          go_round
          case rel => exact ⟨i + 1, V, by rw [← Hor.out], by go_num, by omega, by omega, HVl, HE⟩
          case measure => simp [intOf]; omega
    · have hL : k + i = L := by omega
      have HE : Hid ((0, 0, 2) = (A, n, E)) := by
        have h := hvd.out
        rw [hL, hend.out] at h
        exact h
      clear hvd hL
      go_wp2_with fail
      go_ret3
      have h := HE.out
      injection h with h1 h2
      injection h2 with h2 h3
      subst h1 h2 h3
      rw [hN.out]
      exact ⟨rfl, rfl⟩

theorem mul_step (v x i U : Nat) (hU : U = 128 ^ i) (hv : v < 128 ^ i) (hi : i ≤ 9) (h9 : i = 9 → x < 2) :
    IntKind.u64.wrap ((v : Int) + IntKind.u64.wrap ((x : Int) % 128 * (U : Int))) = ((v + x % 128 * 128 ^ i : Nat) : Int) := by
  have h2 : x % 128 * 128 ^ i < 18446744073709551616 ∧ v + x % 128 * 128 ^ i < 18446744073709551616 := by
    by_cases h : i = 9
    · subst h
      have := h9 rfl
      have h3 := Nat.mul_le_mul_right (128 ^ 9) (show x % 128 ≤ 1 by omega)
      omega
    · have h3 := vd_step hv (show x % 128 < 128 by omega)
      have h4 : 128 ^ (i + 1) ≤ 9223372036854775808 := p128_9 (by omega)
      omega
  have e1 : ((x : Int) % 128) * (U : Int) = ((x % 128 * 128 ^ i : Nat) : Int) := by
    rw [hU, Int.natCast_mul]; rfl
  have e2 : IntKind.u64.wrap ((x % 128 * 128 ^ i : Nat) : Int) = ((x % 128 * 128 ^ i : Nat) : Int) := IntWalk.u64_in _ ⟨by omega, by omega⟩
  rw [e1, e2, ← Int.natCast_add]
  exact IntWalk.u64_in _ ⟨by omega, by omega⟩

set_option maxHeartbeats 4000000 in
theorem refVarint_at (a : Option Addr) (l : List Nat) (c k : Nat) (w : World) (h : Cells8 w a l) (hl : l.length ≤ 1000000000) (hk : k ≤ l.length) (A n E N : Nat) (hR : Hid (vd (l.drop k) 0 0 = (A, n, E))) (hN : Hid (N = if E = 0 then k + n else 0)) :
    Calls Tryd.prog 45 #[.slice a l.length c, .int .i64 (k : Int)] w (Three A N E w) := by
  obtain ⟨L, hL⟩ : ∃ L, L = l.length := ⟨_, rfl⟩
  have hdrop : Hid (∀ i, i < L → l.drop i = l.getD i 0 :: l.drop (i + 1)) := fun i hi => drop_cons (by omega)
  have hend : Hid (l.drop L = []) := by show _ = _; rw [hL]; simp
  have H : Hid (∀ i, i < L → ∃ b off, a = some ⟨b, off, none⟩ ∧ w.cell? ⟨b, off + i, none⟩ = some (.int .u8 ((l.getD i 0 : Nat) : Int)) ∧ l.getD i 0 < 256) := by rw [hL]; exact h
  rw [← hL] at hl hk ⊢
  clear hL h
  have hk0 : decide ((k : Int) < 0) = false := decide_eq_false (by omega)
  have hk1 : decide (L < k) = false := decide_eq_false (by omega)
  go_enter Tryd.func45, Tryd.ntmps45
  go_wp2_with fail
  go_loop [7, 8, 9] (fun s u t => ∃ i v U : Nat, s = .int .u64 (v : Int) ∧ u = .int .u64 (U : Int) ∧ t = .int .i64 (i : Int) ∧ i ≤ 9 ∧ k + i ≤ L ∧ Hid (v < 128 ^ i) ∧ Hid (U = 128 ^ i) ∧ Hid (vd (l.drop (k + i)) i v = (A, n, E))) (fun _ _ t => 10 - (intOf t).toNat)
  case atStart => exact ⟨0, 0, 1, rfl, rfl, rfl, by omega, by omega, by show 0 < 1; omega, rfl, hR⟩
  case round =>
    obtain ⟨i, v, U, rfl, rfl, rfl, hi, hki, hv, hU, hvd⟩ := hrel
    have hwr : IntKind.i64.wrap ((L : Int) - (k : Int)) = (L : Int) - (k : Int) := IntWalk.i64_in _ ⟨by omega, by omega⟩
    by_cases hlt : k + i < L
    · obtain ⟨b, off, rfl, hc, hx⟩ := H.out (k + i) hlt
      have hge : decide ((L : Int) - (k : Int) ≤ (i : Int)) = false := decide_eq_false (by omega)
      have hdr := Lib.hid (hdrop.out (k + i) hlt)
      generalize l.getD (k + i) 0 = x at *
      by_cases hbad : i = 9 ∧ 1 < x
      · obtain ⟨rfl, hx1⟩ := hbad
        have HE : Hid ((0, 0, 3) = (A, n, E)) := by
          have h := hvd.out
          rw [hdr.out, vd_bad rfl hx1] at h
          exact h
        clear hvd hdr
        go_wp2_with fail
        go_ret3
        have h := HE.out
        injection h with h1 h2
        injection h2 with h2 h3
        subst h1 h2 h3
        rw [hN.out]
        exact ⟨rfl, rfl⟩
      · have hor := mul_step v x i U hU.out hv.out hi (fun e => by omega)
        obtain ⟨V, hV⟩ : ∃ V, V = v + x % 128 * 128 ^ i := ⟨_, rfl⟩
        rw [← hV] at hor
        have HV := Lib.hid hV
        have Hor := Lib.hid hor
        have Hbad := Lib.hid hbad
        clear hV hor hbad
        by_cases hx8 : x < 128
        · have HE : Hid ((V, i + 1, 0) = (A, n, E)) := by
            have h := hvd.out
            rw [hdr.out, vd_last Hbad.out hx8] at h
            rw [HV.out, Nat.mod_eq_of_lt hx8]
            exact h
          clear hvd hdr
          by_cases h9 : i = 9
          · have hx1 : ¬ (1 < x) := by have := Hbad.out; omega
            subst h9
            clear hx8
            have hx8 : x < 128 := by omega
            go_wp2_with fail
            go_ret3
            have h := HE.out
            injection h with h1 h2
            injection h2 with h2 h3
            subst h1 h2 h3
            rw [hN.out]
            exact ⟨by rw [← Hor.out]; rfl, rfl⟩
          · have h9 : ((i : Int) == 9) = false := by simp; omega
            go_wp2_with fail
            go_ret3
            have h := HE.out
            injection h with h1 h2
            injection h2 with h2 h3
            subst h1 h2 h3
            rw [hN.out]
            exact ⟨by rw [← Hor.out]; congr 5, rfl⟩
        · have hi9 : i ≤ 8 := by have := Hbad.out; omega
          have h9 : ((i : Int) == 9) = false := by simp; omega
          have HE : Hid (vd (l.drop (k + (i + 1))) (i + 1) V = (A, n, E)) := by
            have h := hvd.out
            rw [hdr.out, vd_more Hbad.out hx8, ← HV.out] at h
            exact h
          have HVl : Hid (V < 128 ^ (i + 1)) := by have h := vd_step hv.out (show x % 128 < 128 by omega); rw [← HV.out] at h; exact h
          have HU : Hid (IntKind.u64.wrap ((U : Int) * 128) = ((128 ^ (i + 1) : Nat) : Int)) := by
            show _ = _
            have h4 : 128 ^ (i + 1) ≤ 9223372036854775808 := p128_9 (by omega)
            have e : (U : Int) * 128 = ((128 ^ (i + 1) : Nat) : Int) := by rw [hU.out, Nat.pow_succ, Int.natCast_mul]; rfl
            rw [e, IntWalk.u64_in _ ⟨by omega, by omega⟩]
          clear hvd hdr
          go_wp2_with fail
          go_round
          case rel => exact ⟨i + 1, V, 128 ^ (i + 1), by rw [← Hor.out], by rw [HU.out], by go_num, by omega, by omega, HVl, rfl, HE⟩
          case measure => simp [intOf]; omega
    · have hL : k + i = L := by omega
      have hge : decide ((L : Int) - (k : Int) ≤ (i : Int)) = true := decide_eq_true (by omega)
      have HE : Hid ((0, 0, 2) = (A, n, E)) := by
        have h := hvd.out
        rw [hL, hend.out] at h
        exact h
      clear hvd hL
      go_wp2_with fail
      go_ret3
      have h := HE.out
      injection h with h1 h2
      injection h2 with h2 h3
      subst h1 h2 h3
      rw [hN.out]
      exact ⟨rfl, rfl⟩

/-- Both Varints answer the same. -/
theorem varint_any (a : Option Addr) (l : List Nat) (c : Nat) (p : Int) (w : World) (h : Cells8 w a l) (hl : l.length ≤ 1000000000) :
    Calls Tryd.prog 51 #[.slice a l.length c, .int .i64 p] w (Three (vres l p).1 (vres l p).2.1 (vres l p).2.2 w) := by
  by_cases hp : p < 0 ∨ (l.length : Int) < p
  · rw [show vres l p = (0, 0, 8) from if_pos hp]; exact varint_far a l.length c p w hp
  · obtain ⟨k, rfl⟩ : ∃ k : Nat, p = k := ⟨p.toNat, by omega⟩
    rw [show vres l k = _ from if_neg hp]
    exact varint_at a l c k w h hl (by omega) _ _ _ _ rfl (by show _ = _; rfl)
theorem refVarint_any (a : Option Addr) (l : List Nat) (c : Nat) (p : Int) (w : World) (h : Cells8 w a l) (hl : l.length ≤ 1000000000) :
    Calls Tryd.prog 45 #[.slice a l.length c, .int .i64 p] w (Three (vres l p).1 (vres l p).2.1 (vres l p).2.2 w) := by
  by_cases hp : p < 0 ∨ (l.length : Int) < p
  · rw [show vres l p = (0, 0, 8) from if_pos hp]; exact refVarint_far a l.length c p w hp
  · obtain ⟨k, rfl⟩ : ∃ k : Nat, p = k := ⟨p.toNat, by omega⟩
    rw [show vres l k = _ from if_neg hp]
    exact refVarint_at a l c k w h hl (by omega) _ _ _ _ rfl (by show _ = _; rfl)
end Go.Proofs.YtdifojeghplpeaaDoor
