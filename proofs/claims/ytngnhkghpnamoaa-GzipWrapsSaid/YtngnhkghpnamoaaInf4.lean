/- Inf4 -/
import Derived.Test.YtngnhkghpnamoaaGc22
import Derived.StillTailTactics
import Derived.Test.YtngnhkghpnamoaaInf2
namespace Go.Proofs.Ytngnhkghpnamoaa
open Go.RowKit Huff Bit
set_option linter.unusedVariables false
set_option maxRecDepth 100000

section
variable {X : Cx} {F : Option Addr × Option Addr} {out : List Nat} {p : Nat} {w : World}
theorem run_ok {α β : Type} {f : Inf.Pg α} {g : α → Inf.Pg β} {p : Nat} {x : α} {q : Nat} (h : X.run f p = .ok (x, q)) : X.run (Inf.bnd f g) p = X.run (g x) q := by
  unfold Cx.run at h ⊢
  unfold Inf.bnd
  rw [h]
theorem run_err {α β : Type} {f : Inf.Pg α} {g : α → Inf.Pg β} {p E : Nat} (h : X.run f p = .error E) : X.run (Inf.bnd f g) p = .error E := by
  unfold Cx.run at h ⊢
  unfold Inf.bnd
  rw [h]
theorem run_need {b : Bool} {p : Nat} (h : b = true) : X.run (Inf.need b) p = .ok ((), p) := by subst h; rfl
theorem run_need_no {b : Bool} {p : Nat} (h : b = false) : X.run (Inf.need b) p = .error 3 := by subst h; rfl
theorem run_bits_at {n q : Nat} {x : Nat × Nat} (h : X.run (Inf.bitsP n) q = .ok x) : x.2 = q + n ∧ q + n ≤ 8 * X.bs.length := by
  unfold Cx.run Inf.bitsP at h
  split at h
  · injection h with h
    rw [← h]
    exact ⟨rfl, by assumption⟩
  · cases h
theorem Dec.outs (h : Dec X F out p w) : ∃ a cc, w.cell? ⟨X.d, 1, none⟩ = some (.slice a out.length cc) ∧ Nums .u8 w w.heap.size a out ∧ out.length ≤ 9223372036854775807 := by
  obtain ⟨v, h1, h2⟩ := h.dec
  obtain ⟨a, cc, rfl, q1, q2, _, hN⟩ := h2.nums
  exact ⟨a, cc, h1.cell 1, hN, Nat.le_trans q1 q2⟩
theorem Dec.drew (h : Dec X F out p w) : Dec X F out p w.drew := ⟨h.dec, h.rd, h.nums, h.size, h.at_⟩
theorem DK.undrew {B : Nat} {W' : World} (h : DK B w.drew W') : DK B w W' := ⟨⟨h.below.os, h.below.tape, h.below.output, h.below.size, h.below.block⟩, h.same⟩
theorem below_undrew {B : Nat} {W' : World} (h : Below B w.drew W') : Below B w W' := ⟨h.os, h.tape, h.output, h.size, h.block⟩
set_option maxHeartbeats 4000000 in
theorem drepeat_any (hX : X.Ok) (h : Dec X F out p w) (n D : Nat) (hD : 1 ≤ D) (hDb : D ≤ 1000000) (hn : n ≤ 100000) :
    Calls Try.prog 93 #[.pointer (some ⟨X.d, 0, none⟩), .int .i64 (n : Int), .int .i64 (D : Int)] w
      (DPost X w (X.run (Inf.bnd (Inf.need (decide (D ≤ out.length))) fun _ => Inf.lift (Inf.repE X.most D n out)) p) (fun _ => .tuple #[]) F id) := by
  obtain ⟨a, cc, c1, hN, hmx⟩ := h.outs
  have Hle := Lib.hid (h.le hX)
  by_cases hL : D ≤ out.length
  · rw [run_ok (run_need (decide_eq_true hL)), run_lift]
    obtain ⟨R, hR⟩ : ∃ R, Inf.repE X.most D n out = R := ⟨_, rfl⟩
    rw [hR]
    have HR := Lib.hid hR
    have H := Lib.hid h
    have HX := Lib.hid hX
    have HL := Lib.hid hL
    obtain ⟨L, hLe⟩ : ∃ L, out.length = L := ⟨_, rfl⟩
    rw [hLe] at c1 hL
    have d1 : decide ((D : Int) ≤ (L : Int)) = true := decide_eq_true (by omega)
    have d2 : decide (D ≤ L) = true := decide_eq_true hL
    have Hdm := Lib.hid idemand_yes
    clear h hX hR hN hL hLe hmx
    go_enter Try.func93, Try.ntmps93
    go_wp2_with fail
    refine (Hdm.out _).mono ?_
    rintro e W9 ⟨rfl, rfl⟩
    go_wp2_with fail
    go_loopw [15] (fun y W => ∃ (k : Nat) (o : List Nat), k ≤ n ∧ y = .int .i64 (k : Int) ∧ Hid (Dec X F o p W) ∧ Hid (DK X.B w W) ∧ Hid (Inf.repE X.most D (n - k) o = R) ∧ Hid (D ≤ o.length)) (fun y _ => n - (intOf y).toNat)
    case atStart => exact ⟨0, out, Nat.zero_le _, rfl, H, DK.refl _ _, HR, HL⟩
    case round =>
      obtain ⟨k, o, hk, rfl, HD, HK, HE, HO⟩ := hrel
      clear HR H HL c1 d1 d2
      by_cases hlt : k < n
      · obtain ⟨a, cc, c1, hN, hmx⟩ := HD.out.outs
        have hol := HO.out
        obtain ⟨b, off, rfl, hb, hc⟩ := hN (by omega)
        obtain ⟨j, hj⟩ : ∃ j, o.length - D = j := ⟨_, rfl⟩
        have q0 := hc j (by omega)
        have hE := HE.out
        obtain ⟨f, hf⟩ : ∃ f, n - k = f + 1 := ⟨n - k - 1, by omega⟩
        rw [hf] at hE
        unfold Inf.repE at hE
        rw [hj] at hE
        have Hput := Lib.hid (dput_any HX.out HD.out.drew (o.getD j 0))
        rw [run_lift] at Hput
        generalize o.getD j 0 = C at *
        obtain ⟨L, hLe⟩ : ∃ L, o.length = L := ⟨_, rfl⟩
        rw [hLe] at c1 hol hj hmx
        have w1 : IntKind.i64.wrap ((L : Int) - (D : Int)) = (j : Int) := by rw [IntWalk.i64_in _ ⟨by omega, by omega⟩]; omega
        have j0 : (0 : Int) ≤ (j : Int) := by omega
        have j1 : (j : Int) < (L : Int) := by omega
        have Hf := Lib.hid hf
        clear hN hc hol hj hf hLe hD hmx
        cases hP : Inf.putE X.most o C with
        | error E =>
          rw [hP] at hE Hput
          simp only at hE Hput
          subst hE
          clear hP HE
          go_wp2_with fail
          go_still_tail 14, (by kernel_rfl)
          change wpList _ _ _ _ _ wr.drew
          go_wp2_with fail
          refine Hput.out.mono ?_
          rintro e Y ⟨rfl, hB⟩
          have HB := Lib.hid (HK.out.below.trans (below_undrew hB))
          clear hB
          go_wp2_with fail
          exact ⟨rfl, rfl, HB.out⟩
        | ok o' =>
          rw [hP] at hE Hput
          simp only at hE Hput
          have HE2 := Lib.hid hE
          have ho' : o' = o ++ [C] := by unfold Inf.putE at hP; split at hP <;> simp at hP; exact hP.symm
          have HO2 : Hid (D ≤ o'.length) := by show _ ≤ _; have := HO.out; rw [ho', List.length_append]; omega
          clear hE hP HE ho'
          go_wp2_with fail
          go_still_tail 14, (by kernel_rfl)
          change wpList _ _ _ _ _ wr.drew
          go_wp2_with fail
          refine Hput.out.mono ?_
          rintro e Y ⟨rfl, hD2, hK2⟩
          have HD2 := Lib.hid hD2
          have HK2 := Lib.hid (HK.out.trans hK2.undrew)
          clear hD2 hK2
          go_wp2_with fail
          go_roundw
          case rel => exact ⟨k + 1, o', by omega, by go_num, HD2, HK2, by show _ = _; rw [show n - (k + 1) = f by have := Hf.out; omega]; exact HE2.out, HO2⟩
          case measure => simp [intOf]; omega
      · obtain rfl : k = n := by omega
        have hE := HE.out
        rw [Nat.sub_self] at hE
        have hE2 : Except.ok o = R := hE
        subst hE2
        clear hE HE hlt
        go_wp2_with fail
        go_end0
        exact ⟨rfl, HD.out, HK.out⟩
  · rw [run_err (run_need_no (decide_eq_false hL))]
    have Hdm := Lib.hid idemand_no
    obtain ⟨L, hLe⟩ : ∃ L, out.length = L := ⟨_, rfl⟩
    rw [hLe] at c1 hL
    have d1 : decide ((D : Int) ≤ (L : Int)) = false := decide_eq_false (by omega)
    have d2 : decide (D ≤ L) = false := decide_eq_false hL
    clear h hX hN hL hLe hmx
    go_enter Try.func93, Try.ntmps93
    go_wp2_with fail
    refine (Hdm.out _).mono ?_
    rintro e W9 ⟨rfl, rfl⟩
    go_wp2_with fail
    exact ⟨rfl, rfl, Below.refl _ _⟩
theorem not16 {L : Nat} (h : L < 65536) : 65535 ^^^ L = 65535 - L := by
  apply Nat.eq_of_testBit_eq
  intro i
  rw [Nat.testBit_xor, show (65535 : Nat) = 2 ^ 16 - 1 by rfl, Nat.testBit_two_pow_sub_one]
  have h2 : 2 ^ 16 - 1 - L = 2 ^ 16 - (L + 1) := by omega
  rw [h2, Nat.testBit_two_pow_sub_succ h]
  by_cases hi : i < 16
  · simp [hi]
  · have h3 : 2 ^ 16 ≤ 2 ^ i := Nat.pow_le_pow_right (by decide) (by omega)
    have : L < 2 ^ i := Nat.lt_of_lt_of_le h h3
    simp [hi, Nat.testBit_lt_two_pow this]
theorem xor16 (n : Nat) (hn : n < 65536) : bits .xor .i64 (n : Int) 65535 = ((65535 - n : Nat) : Int) := by
  show IntKind.i64.wrap ((BitVec.ofInt 64 (n : Int) ^^^ BitVec.ofInt 64 ((65535 : Nat) : Int)).toNat : Int) = _
  rw [BitVec.toNat_xor, BitVec.ofInt_natCast, BitVec.ofInt_natCast, BitVec.toNat_ofNat, BitVec.toNat_ofNat, Nat.mod_eq_of_lt (show n < 2 ^ 64 by omega), Nat.mod_eq_of_lt (show 65535 < 2 ^ 64 by omega), Nat.xor_comm, not16 hn]
  exact IntWalk.i64_in _ ⟨by omega, by omega⟩
set_option maxHeartbeats 4000000 in
theorem dstored_any (hX : X.Ok) (h : Dec X F out p w) :
    Calls Try.prog 82 #[.pointer (some ⟨X.d, 0, none⟩)] w (DPost X w (X.run (Inf.storedP X.most out) p) (fun _ => .tuple #[]) F id) := by
  obtain ⟨v, h1, h2⟩ := h.dec
  have c0 : w.cell? ⟨X.d, 0, none⟩ = some (.pointer (some ⟨X.r, 0, none⟩)) := h1.cell 0
  have hlen := hX.len
  have hat := h.at_
  have HX := Lib.hid hX
  have H := Lib.hid h
  obtain ⟨k, hk⟩ : ∃ k, k = (8 - p % 8) % 8 := ⟨_, rfl⟩
  have hp1 : (p + 7) / 8 * 8 = p + k := by omega
  have Hal := Lib.hid (ralign_any X.r X.a X.c X.bs p k w h.reader (by omega) hk)
  have Hpk : Hid (p + k ≤ 8 * X.bs.length) := by show _ ≤ _; omega
  have e1 : X.run Inf.alignP p = .ok ((), p + k) := by unfold Cx.run Inf.alignP; rw [hp1]
  obtain ⟨R, hR0⟩ : ∃ R, X.run (Inf.storedP X.most out) p = R := ⟨_, rfl⟩
  rw [hR0]
  unfold Inf.storedP at hR0
  rw [run_ok e1] at hR0
  have Hdy := Lib.hid idemand_yes
  have Hdn := Lib.hid idemand_no
  generalize p + k = P at *
  clear h hX h1 h2 hk hp1 e1 hlen hat
  go_enter Try.func82, Try.ntmps82
  go_wp2_with fail
  refine Hal.out.mono ?_
  rintro e W1 ⟨rfl, hR, hO⟩
  obtain ⟨hD1, hK1⟩ := H.out.read HX.out hR hO Hpk.out
  have HD1 := Lib.hid hD1
  have HK1 := Lib.hid hK1
  have Hb := dbits_any HX.out hD1 16 (by omega)
  clear hR hO hD1 hK1 Hal Hpk c0
  cases hR1 : X.run (Inf.bitsP 16) P with
  | error E =>
    rw [run_err hR1] at hR0
    subst hR0
    rw [hR1] at Hb
    have HB := Lib.hid Hb
    clear Hb hR1
    go_wp2_with fail
    refine HB.out.mono ?_
    rintro e W ⟨rfl, hB⟩
    have HB := Lib.hid (HK1.out.below.trans hB)
    clear hB
    go_wp2_with fail
    exact ⟨rfl, rfl, HB.out⟩
  | ok x =>
    obtain ⟨n, P1⟩ := x
    rw [run_ok hR1] at hR0
    have hn := run_bits_lt hR1
    rw [hR1] at Hb
    have HB := Lib.hid Hb
    clear Hb hR1
    go_wp2_with fail
    refine HB.out.mono ?_
    rintro e W2 ⟨rfl, hD2, hK2⟩
    have HD2 := Lib.hid hD2
    have HK2 := Lib.hid (HK1.out.trans hK2)
    have Hb := dbits_any HX.out hD2 16 (by omega)
    clear hD2 hK2 HB HK1 HD1
    cases hR1 : X.run (Inf.bitsP 16) P1 with
    | error E =>
      rw [run_err hR1] at hR0
      subst hR0
      rw [hR1] at Hb
      have HB := Lib.hid Hb
      clear Hb hR1
      go_wp2_with fail
      refine HB.out.mono ?_
      rintro e W ⟨rfl, hB⟩
      have HB := Lib.hid (HK2.out.below.trans hB)
      clear hB
      go_wp2_with fail
      exact ⟨rfl, rfl, HB.out⟩
    | ok x =>
      obtain ⟨m, P2⟩ := x
      rw [run_ok hR1] at hR0
      have hm := run_bits_lt hR1
      rw [hR1] at Hb
      have HB := Lib.hid Hb
      simp only at hn hm
      have w1 := xor16 n hn
      clear Hb hR1
      by_cases hmn : m + n = 65535
      · have d1 : ((m : Int) == ((65535 - n : Nat) : Int)) = true := by simp; omega
        rw [run_ok (run_need (decide_eq_true hmn))] at hR0
        have HR0 := Lib.hid hR0
        clear hmn hR0 hm
        go_wp2_with fail
        refine HB.out.mono ?_
        rintro e W3 ⟨rfl, hD3, hK3⟩
        have HD3 := Lib.hid hD3
        have HK3 := Lib.hid (HK2.out.trans hK3)
        clear hD3 hK3 HB HK2 HD2
        go_wp2_with fail
        refine (Hdy.out _).mono ?_
        rintro e W9 ⟨rfl, rfl⟩
        go_wp2_with fail
        go_loopw [17] (fun y W => ∃ (k q : Nat) (o : List Nat), k ≤ n ∧ y = .int .i64 (k : Int) ∧ Hid (Dec X F o q W) ∧ Hid (DK X.B w W) ∧ Hid (X.run (Inf.copyP X.most (n - k) o) q = R)) (fun y _ => n - (intOf y).toNat)
        case atStart => exact ⟨0, P2, out, Nat.zero_le _, rfl, HD3, HK3, HR0⟩
        case round =>
          obtain ⟨k, q, o, hk, rfl, HD, HK, HE⟩ := hrel
          clear HR0 HD3 HK3 d1 w1
          by_cases hlt : k < n
          · have hE := HE.out
            obtain ⟨f, hf⟩ : ∃ f, n - k = f + 1 := ⟨n - k - 1, by omega⟩
            rw [hf] at hE
            unfold Inf.copyP at hE
            have Hf := Lib.hid hf
            have Hb := dbits_any HX.out HD.out 8 (by omega)
            clear hf HE
            cases hR1 : X.run (Inf.bitsP 8) q with
            | error E =>
              rw [run_err hR1] at hE
              subst hE
              rw [hR1] at Hb
              have HB := Lib.hid Hb
              clear Hb hR1
              go_wp2_with fail
              refine HB.out.mono ?_
              rintro e W ⟨rfl, hB⟩
              have HB := Lib.hid (HK.out.below.trans hB)
              clear hB
              go_wp2_with fail
              exact ⟨rfl, rfl, HB.out⟩
            | ok x =>
              obtain ⟨C, q1⟩ := x
              rw [run_ok hR1] at hE
              have hc := run_bits_lt hR1
              rw [hR1] at Hb
              have HB := Lib.hid Hb
              simp only at hc
              have w1 : IntKind.u8.wrap (C : Int) = (C : Int) := by rw [IntKind.wrap_u8']; omega
              have w2 : (C : Int) % 256 = (C : Int) := by omega
              have HE := Lib.hid hE
              clear Hb hR1 hc hE
              go_wp2_with fail
              refine HB.out.mono ?_
              rintro e Y ⟨rfl, hD2, hK2⟩
              have HK2 := Lib.hid (HK.out.trans hK2)
              have Hput := Lib.hid (dput_any HX.out hD2 C)
              have hE := HE.out
              rw [run_lift] at Hput
              clear hD2 hK2 HB HE
              cases hP : Inf.putE X.most o C with
              | error E =>
                rw [hP] at hE Hput
                simp only at Hput
                have hE2 : Except.error E = R := hE
                subst hE2
                clear hP hE
                go_wp2_with fail
                refine Hput.out.mono ?_
                rintro e Y ⟨rfl, hB⟩
                have HB := Lib.hid (HK2.out.below.trans hB)
                clear hB
                go_wp2_with fail
                exact ⟨rfl, rfl, HB.out⟩
              | ok o' =>
                rw [hP] at hE Hput
                simp only at Hput
                have HE2 : Hid (X.run (Inf.copyP X.most f o') q1 = R) := hE
                clear hE hP
                go_wp2_with fail
                refine Hput.out.mono ?_
                rintro e Z ⟨rfl, hD3, hK3⟩
                have HD3 := Lib.hid hD3
                have HK3 := Lib.hid (HK2.out.trans hK3)
                clear hD3 hK3
                go_wp2_with fail
                go_roundw
                case rel => exact ⟨k + 1, q1, o', by omega, by go_num, HD3, HK3, by show _ = _; rw [show n - (k + 1) = f by have := Hf.out; omega]; exact HE2.out⟩
                case measure => simp [intOf]; omega
          · obtain rfl : k = n := by omega
            have hE := HE.out
            rw [Nat.sub_self] at hE
            have hE2 : Except.ok (o, q) = R := hE
            subst hE2
            clear hE HE hlt
            go_wp2_with fail
            go_end0
            exact ⟨rfl, HD.out, HK.out⟩
      · have d1 : ((m : Int) == ((65535 - n : Nat) : Int)) = false := by simp; omega
        rw [run_err (run_need_no (decide_eq_false hmn))] at hR0
        subst hR0
        clear hmn hm
        go_wp2_with fail
        refine HB.out.mono ?_
        rintro e W3 ⟨rfl, hD3, hK3⟩
        have HK3 := Lib.hid (HK2.out.trans hK3)
        clear hD3 hK3 HB HK2 HD2
        go_wp2_with fail
        refine (Hdn.out _).mono ?_
        rintro e W9 ⟨rfl, rfl⟩
        go_wp2_with fail
        exact ⟨rfl, rfl, HK3.out.below⟩
end
end Go.Proofs.Ytngnhkghpnamoaa

namespace Go.Proofs.Ytngnhkghpnamoaa
open Go.RowKit Huff Bit
set_option linter.unusedVariables false
set_option maxRecDepth 100000

section
variable {X : Cx} {F : Option Addr × Option Addr} {out : List Nat} {p : Nat} {w : World}
theorem scan_pos {l : List Nat} {bt : Nat → Nat} {N p f k v : Nat} (h : (scan l bt N p (f + 1) k v).2.2 = 0) : p + k + 1 ≤ (scan l bt N p (f + 1) k v).2.1 ∧ (scan l bt N p (f + 1) k v).2.1 ≤ N := by
  by_cases hN : N ≤ p + k
  · rw [scan_short hN] at h; cases h
  · cases hh : hit l (k + 1) (2 * v + bt (p + k)) with
    | some s => rw [scan_hit hN hh]; exact ⟨Nat.le_refl _, by show p + k + 1 ≤ N; omega⟩
    | none =>
      rw [scan_miss hN hh]
      have := scan_at l bt N p f (k + 1) (2 * v + bt (p + k)) (by omega)
      exact ⟨by omega, this.2⟩
theorem run_sym_at {l : List Nat} {q : Nat} {x : Nat × Nat} (h : X.run (Inf.symP l) q = .ok x) : q + 1 ≤ x.2 ∧ x.2 ≤ 8 * X.bs.length := by
  unfold Cx.run Inf.symP at h
  split at h
  · next h0 =>
    injection h with h
    rw [← h]
    exact scan_pos h0
  · cases h
/-- The place that a reader stands at. -/
def posOf (r : Nat) (W : World) : Nat :=
  match W.cell? ⟨r, 1, none⟩ with
  | some v => (intOf v).toNat
  | none => 0
theorem Dec.pos (h : Dec X F out p w) : posOf X.r w = p := by
  have c1 : w.cell? ⟨X.r, 1, none⟩ = some (.int .i64 (p : Int)) := h.rd.cell 1
  unfold posOf
  rw [c1]
  simp [intOf]
theorem farB_pos (s : Nat) : 1 ≤ farB s := by unfold farB; split <;> omega
theorem bnd_assoc {α β γ : Type} (f : Inf.Pg α) (g : α → Inf.Pg β) (k : β → Inf.Pg γ) : Inf.bnd (Inf.bnd f g) k = Inf.bnd f fun x => Inf.bnd (g x) k := by
  funext bt N p
  unfold Inf.bnd
  cases f bt N p <;> rfl
set_option maxHeartbeats 8000000 in
theorem dsymbols_any (hX : X.Ok) (h : Dec X F out p w) (gl gf : Nat) (lits fars : List Nat) (hL : CodeK gl lits w) (hF : CodeK gf fars w) :
    Calls Try.prog 83 #[.pointer (some ⟨X.d, 0, none⟩), .agg #[.pointer (some ⟨gl, 0, none⟩), .pointer (some ⟨gf, 0, none⟩)]] w (DPost X w (X.run (Inf.symsP lits fars X.most Inf.fuel out) p) (fun _ => .tuple #[]) F id) := by
  obtain ⟨R, hR⟩ : ∃ R, X.run (Inf.symsP lits fars X.most Inf.fuel out) p = R := ⟨_, rfl⟩
  rw [hR]
  have HR := Lib.hid hR
  have HX := Lib.hid hX
  obtain ⟨q3, hq3⟩ : ∃ q, q = w.heap.size := ⟨_, rfl⟩
  obtain ⟨X1, hX1⟩ : ∃ X1, X1 = w.alloc (.cells #[.pointer (some ⟨gl, 0, none⟩), .pointer (some ⟨gf, 0, none⟩)] 110) := ⟨_, rfl⟩
  have hB1 : Below w.heap.size w X1 := by rw [hX1]; exact (Below.refl _ _).alloc (Nat.le_refl _) _
  have hK1 : DK X.B w X1 := DK.of_below hB1 (h.le hX)
  have HW : Hid (Whole X1 q3 110 #[.pointer (some ⟨gl, 0, none⟩), .pointer (some ⟨gf, 0, none⟩)]) := by rw [hX1, hq3]; exact Whole.new w _ _
  have HD := Lib.hid (h.below hX hB1)
  have HL := Lib.hid (hL.dk hK1)
  have HF := Lib.hid (hF.dk hK1)
  have HK := Lib.hid hK1
  have Hdy := Lib.hid idemand_yes
  have Hdn := Lib.hid idemand_no
  have hlen := hX.len
  have Hfu : Hid (8 * X.bs.length - p < Inf.fuel) := by show _ < 40000; omega
  clear h hX hL hF hR hB1 hK1 hlen
  go_enter Try.func83, Try.ntmps83
  go_wp2_with fail
  rw [← hX1, ← hq3]
  clear hX1 hq3
  go_loopw [4] (fun s W => ∃ (f q : Nat) (o : List Nat), Hid (Dec X F o q W) ∧ Hid (DK X.B X1 W) ∧ Hid (8 * X.bs.length - q < f) ∧ Hid (X.run (Inf.symsP lits fars X.most f o) q = R)) (fun _ W => 8 * X.bs.length + 1 - posOf X.r W)
  case atStart => exact ⟨Inf.fuel, p, out, HD, DK.refl _ _, Hfu, HR⟩
  case round =>
    obtain ⟨f0, q, o, HDq, HKq, HF0, HE⟩ := hrel
    clear HR HD Hfu
    have hWq := HW.out.dk HKq.out (by decide) (by decide) (by decide)
    have c0 : wr.cell? ⟨q3, 0, none⟩ = some (.pointer (some ⟨gl, 0, none⟩)) := hWq.cell 0
    obtain ⟨f, rfl⟩ : ∃ f, f0 = f + 1 := ⟨f0 - 1, by have := HF0.out; omega⟩
    have hE := HE.out
    unfold Inf.symsP at hE
    have Hsy := dsym_any HX.out HDq.out gl lits (HL.out.dk HKq.out)
    have Hpos := Lib.hid HDq.out.pos
    have Hat := Lib.hid HDq.out.at_
    clear HE hWq
    cases hR1 : X.run (Inf.symP lits) q with
    | error E =>
      rw [run_err hR1] at hE
      subst hE
      rw [hR1] at Hsy
      have HB := Lib.hid Hsy
      clear Hsy hR1
      go_wp2_with fail
      refine HB.out.mono ?_
      rintro e W ⟨rfl, hB⟩
      have HB := Lib.hid ((HK.out.trans HKq.out).below.trans hB)
      clear hB
      go_wp2_with fail
      exact ⟨rfl, rfl, HB.out⟩
    | ok x =>
      obtain ⟨s, q1⟩ := x
      rw [run_ok hR1] at hE
      have hq1 := run_sym_at hR1
      simp only at hq1
      rw [hR1] at Hsy
      have HB := Lib.hid Hsy
      have HQ1 := Lib.hid hq1
      have HE := Lib.hid hE
      clear Hsy hR1 hq1 hE
      go_wp2_with fail
      refine HB.out.mono ?_
      rintro e W1 ⟨rfl, hD1, hK1⟩
      have HD1 := Lib.hid hD1
      have HK1 := Lib.hid (HKq.out.trans hK1)
      have HW1 := Lib.hid (HW.out.dk HK1.out (by decide) (by decide) (by decide))
      have hE := HE.out
      clear hD1 hK1 HE HB c0
      by_cases h256 : s = 256
      · rw [if_pos h256] at hE
        subst h256
        have hE2 : Except.ok (o, q1) = R := hE
        subst hE2
        clear hE
        go_wp2_with fail
        go_end0
        exact ⟨rfl, HD1.out, HK.out.trans HK1.out⟩
      · rw [if_neg h256] at hE
        have d1 : ((s : Int) == 256) = false := by simp; omega
        by_cases hlt : s < 256
        · rw [if_pos hlt] at hE
          have d2 : decide ((s : Int) < 256) = true := decide_eq_true (by omega)
          have d3 : decide (s < 256) = true := decide_eq_true hlt
          have w1 : IntKind.u8.wrap (s : Int) = (s : Int) := by rw [IntKind.wrap_u8']; omega
          have w2 : (s : Int) % 256 = (s : Int) := by omega
          have Hput := Lib.hid (dput_any HX.out HD1.out s)
          rw [run_lift] at Hput
          clear h256 hlt
          cases hP : Inf.putE X.most o s with
          | error E =>
            rw [hP] at hE Hput
            simp only at Hput
            have hE2 : Except.error E = R := hE
            subst hE2
            clear hP hE
            go_wp2_with fail
            refine Hput.out.mono ?_
            rintro e Y ⟨rfl, hB⟩
            have HB := Lib.hid ((HK.out.trans HK1.out).below.trans hB)
            clear hB
            go_wp2_with fail
            exact ⟨rfl, rfl, HB.out⟩
          | ok o' =>
            rw [hP] at hE Hput
            simp only at Hput
            have HE2 : Hid (X.run (Inf.symsP lits fars X.most f o') q1 = R) := hE
            clear hE hP
            go_wp2_with fail
            refine Hput.out.mono ?_
            rintro e Z ⟨rfl, hD3, hK3⟩
            have HD3 := Lib.hid hD3
            have HK3 := Lib.hid (HK1.out.trans hK3)
            clear hD3 hK3
            go_wp2_with fail
            go_roundw
            case rel => exact ⟨f, q1, o', HD3, HK3, by show _ < _; have := HF0.out; have := HQ1.out; omega, HE2⟩
            case measure => rw [Hpos.out, HD3.out.pos]; have := HQ1.out; have := Hat.out; omega
        · rw [if_neg hlt] at hE
          have d2 : decide ((s : Int) < 256) = false := decide_eq_false (by omega)
          have d3 : decide (s < 256) = false := decide_eq_false hlt
          unfold Inf.farP at hE
          simp only [bnd_assoc] at hE
          by_cases h285 : s ≤ 285
          · have d4 : decide ((s : Int) ≤ 285) = true := decide_eq_true (by omega)
            have d5 : decide (s ≤ 285) = true := decide_eq_true h285
            rw [run_ok (run_need d5)] at hE
            obtain ⟨j, hj⟩ : ∃ j, s - 257 = j := ⟨_, rfl⟩
            rw [hj] at hE
            have Hlen := Lib.hid fun W => length_any j (by omega) (s : Int) (by omega) W
            have hlb := lenB_lt j
            have Hext := dext_any HX.out HD1.out (lenB j) (lenX j) (by omega) (by have := lenX_le j; omega)
            clear h256 hlt h285 hj
            cases hR1 : X.run (Inf.bitsP (lenX j)) q1 with
            | error E =>
              rw [run_err hR1] at hE
              subst hE
              rw [hR1] at Hext
              have HB := Lib.hid Hext
              clear Hext hR1
              go_wp2_with fail
              refine (Hdy.out _).mono ?_
              rintro e W9 ⟨rfl, rfl⟩
              go_wp2_with fail
              refine (Hlen.out _).mono ?_
              rintro e W9 ⟨rfl, rfl⟩
              go_wp2_with fail
              refine HB.out.mono ?_
              rintro e W ⟨rfl, hB⟩
              have HB := Lib.hid ((HK.out.trans HK1.out).below.trans hB)
              clear hB
              go_wp2_with fail
              exact ⟨rfl, rfl, HB.out⟩
            | ok x =>
              obtain ⟨K, q2⟩ := x
              rw [run_ok hR1] at hE
              have hKl := run_bits_lt hR1
              have hq2 := (run_bits_at hR1).1
              simp only at hq2 hKl
              have hKb : 2 ^ lenX j ≤ 65536 := pow16 (by have := lenX_le j; omega)
              rw [hR1] at Hext
              obtain ⟨N, hN⟩ : ∃ N, lenB j + K = N := ⟨_, rfl⟩
              have HB : Hid (Calls Try.prog 92 #[.pointer (some ⟨X.d, 0, none⟩), .int .i64 (lenB j : Int), .int .i64 (lenX j : Int)] W1 fun e w' => e = .returned (.int .i64 (N : Int)) ∧ Dec X F o q2 w' ∧ DK X.B W1 w') := by rw [← hN]; exact Hext
              have HN : Hid (N ≤ 100000) := by show _ ≤ _; omega
              have HQ2 : Hid (q1 ≤ q2) := by show _ ≤ _; omega
              simp only [hN] at hE
              have HE := Lib.hid hE
              clear Hext hR1 hKl hKb hq2 hlb hN hE
              go_wp2_with fail
              refine (Hdy.out _).mono ?_
              rintro e W9 ⟨rfl, rfl⟩
              go_wp2_with fail
              refine (Hlen.out _).mono ?_
              rintro e W9 ⟨rfl, rfl⟩
              go_wp2_with fail
              refine HB.out.mono ?_
              rintro e W2 ⟨rfl, hD2, hK2⟩
              have HD2 := Lib.hid hD2
              have HK2 := Lib.hid (HK1.out.trans hK2)
              have hW2 := HW.out.dk HK2.out (by decide) (by decide) (by decide)
              have c1 : W2.cell? ⟨q3, 1, none⟩ = some (.pointer (some ⟨gf, 0, none⟩)) := hW2.cell 1
              have Hsy := dsym_any HX.out HD2.out gf fars (HF.out.dk HK2.out)
              have hE := HE.out
              clear hD2 hK2 hW2 HB HE HW1
              cases hR1 : X.run (Inf.symP fars) q2 with
              | error E =>
                rw [run_err hR1] at hE
                subst hE
                rw [hR1] at Hsy
                have HB := Lib.hid Hsy
                clear Hsy hR1
                go_wp2_with fail
                refine HB.out.mono ?_
                rintro e W ⟨rfl, hB⟩
                have HB := Lib.hid ((HK.out.trans HK2.out).below.trans hB)
                clear hB
                go_wp2_with fail
                exact ⟨rfl, rfl, HB.out⟩
              | ok x =>
                obtain ⟨d, q4⟩ := x
                rw [run_ok hR1] at hE
                have hq4 := run_sym_at hR1
                simp only at hq4
                rw [hR1] at Hsy
                have HB := Lib.hid Hsy
                have HQ4 : Hid (q2 ≤ q4) := by show _ ≤ _; omega
                have HE := Lib.hid hE
                clear Hsy hR1 hq4 hE
                go_wp2_with fail
                refine HB.out.mono ?_
                rintro e W3 ⟨rfl, hD3, hK3⟩
                have HD3 := Lib.hid hD3
                have HK3 := Lib.hid (HK2.out.trans hK3)
                have hE := HE.out
                clear hD3 hK3 HB HE c1
                by_cases h29 : d ≤ 29
                · have d6 : decide ((d : Int) ≤ 29) = true := decide_eq_true (by omega)
                  have d7 : decide (d ≤ 29) = true := decide_eq_true h29
                  rw [run_ok (run_need d7)] at hE
                  have Hdis := Lib.hid fun W => distance_any d (by omega) (d : Int) rfl W
                  have hfb := farB_lt (show d < 30 by omega)
                  have hf1 := farB_pos d
                  have hfx := farX_le (show d < 30 by omega)
                  have Hext := dext_any HX.out HD3.out (farB d) (farX d) (by omega) (by omega)
                  clear h29
                  cases hR1 : X.run (Inf.bitsP (farX d)) q4 with
                  | error E =>
                    rw [run_err hR1] at hE
                    subst hE
                    rw [hR1] at Hext
                    have HB := Lib.hid Hext
                    clear Hext hR1
                    go_wp2_with fail
                    refine (Hdy.out _).mono ?_
                    rintro e W9 ⟨rfl, rfl⟩
                    go_wp2_with fail
                    refine (Hdis.out _).mono ?_
                    rintro e W9 ⟨rfl, rfl⟩
                    go_wp2_with fail
                    refine HB.out.mono ?_
                    rintro e W ⟨rfl, hB⟩
                    have HB := Lib.hid ((HK.out.trans HK3.out).below.trans hB)
                    clear hB
                    go_wp2_with fail
                    exact ⟨rfl, rfl, HB.out⟩
                  | ok x =>
                    obtain ⟨M, q5⟩ := x
                    rw [run_ok hR1] at hE
                    have hMl := run_bits_lt hR1
                    have hq5 := (run_bits_at hR1).1
                    simp only at hq5 hMl
                    have hMb : 2 ^ farX d ≤ 65536 := pow16 (by omega)
                    rw [hR1] at Hext
                    obtain ⟨D, hD⟩ : ∃ D, farB d + M = D := ⟨_, rfl⟩
                    have HB : Hid (Calls Try.prog 92 #[.pointer (some ⟨X.d, 0, none⟩), .int .i64 (farB d : Int), .int .i64 (farX d : Int)] W3 fun e w' => e = .returned (.int .i64 (D : Int)) ∧ Dec X F o q5 w' ∧ DK X.B W3 w') := by rw [← hD]; exact Hext
                    have HD0 : Hid (1 ≤ D ∧ D ≤ 1000000) := by show _ ∧ _; omega
                    have HQ5 : Hid (q4 ≤ q5) := by show _ ≤ _; omega
                    simp only [hD] at hE
                    rw [← bnd_assoc] at hE
                    have HE := Lib.hid hE
                    clear Hext hR1 hMl hMb hq5 hfb hf1 hfx hD hE
                    go_wp2_with fail
                    refine (Hdy.out _).mono ?_
                    rintro e W9 ⟨rfl, rfl⟩
                    go_wp2_with fail
                    refine (Hdis.out _).mono ?_
                    rintro e W9 ⟨rfl, rfl⟩
                    go_wp2_with fail
                    refine HB.out.mono ?_
                    rintro e W4 ⟨rfl, hD4, hK4⟩
                    have HK4 := Lib.hid (HK3.out.trans hK4)
                    have Hrep := drepeat_any HX.out hD4 N D HD0.out.1 HD0.out.2 HN.out
                    have hE := HE.out
                    clear hD4 hK4 HB HE
                    cases hR1 : X.run (Inf.bnd (Inf.need (decide (D ≤ o.length))) fun _ => Inf.lift (Inf.repE X.most D N o)) q5 with
                    | error E =>
                      rw [run_err hR1] at hE
                      subst hE
                      rw [hR1] at Hrep
                      have HB := Lib.hid Hrep
                      clear Hrep hR1
                      go_wp2_with fail
                      refine HB.out.mono ?_
                      rintro e W ⟨rfl, hB⟩
                      have HB := Lib.hid ((HK.out.trans HK4.out).below.trans hB)
                      clear hB
                      go_wp2_with fail
                      exact ⟨rfl, rfl, HB.out⟩
                    | ok x =>
                      obtain ⟨o', q6⟩ := x
                      rw [run_ok hR1] at hE
                      have hq6 : q6 = q5 := by
                        unfold Cx.run Inf.bnd Inf.need at hR1
                        split at hR1
                        · next h => split at h <;> cases h; cases hr : Inf.repE X.most D N o <;> rw [hr] at hR1 <;> cases hR1; rfl
                        · cases hR1
                      subst hq6
                      rw [hR1] at Hrep
                      have HB := Lib.hid Hrep
                      have HE := Lib.hid hE
                      clear Hrep hR1 hE
                      go_wp2_with fail
                      refine HB.out.mono ?_
                      rintro e Z ⟨rfl, hD5, hK5⟩
                      have HD5 := Lib.hid hD5
                      have HK5 := Lib.hid (HK4.out.trans hK5)
                      clear hD5 hK5
                      go_wp2_with fail
                      go_roundw
                      case rel => exact ⟨f, q6, o', HD5, HK5, by show _ < _; have := HF0.out; have := HQ1.out; have := HQ2.out; have := HQ4.out; have := HQ5.out; omega, HE⟩
                      case measure => rw [Hpos.out, HD5.out.pos]; have := HQ1.out; have := Hat.out; have := HQ2.out; have := HQ4.out; have := HQ5.out; have := HD5.out.at_; omega
                · have d6 : decide ((d : Int) ≤ 29) = false := decide_eq_false (by omega)
                  have d7 : decide (d ≤ 29) = false := decide_eq_false h29
                  rw [run_err (run_need_no d7)] at hE
                  subst hE
                  clear h29
                  go_wp2_with fail
                  refine (Hdn.out _).mono ?_
                  rintro e W9 ⟨rfl, rfl⟩
                  go_wp2_with fail
                  exact ⟨rfl, rfl, (HK.out.trans HK3.out).below⟩
          · have d4 : decide ((s : Int) ≤ 285) = false := decide_eq_false (by omega)
            have d5 : decide (s ≤ 285) = false := decide_eq_false h285
            rw [run_err (run_need_no d5)] at hE
            subst hE
            clear h256 hlt h285
            go_wp2_with fail
            refine (Hdn.out _).mono ?_
            rintro e W9 ⟨rfl, rfl⟩
            go_wp2_with fail
            exact ⟨rfl, rfl, (HK.out.trans HK1.out).below⟩
end
end Go.Proofs.Ytngnhkghpnamoaa
