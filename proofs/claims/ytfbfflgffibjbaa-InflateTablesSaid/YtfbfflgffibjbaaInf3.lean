/- Layer 4: the decoder's calls: repeat, stored. -/
import Derived.StillTailTactics
import Derived.Test.YtfbfflgffibjbaaInf2
namespace Go.Proofs.Ytfbfflgffibjbaa
open Go.RowKit Huff Bit
set_option linter.unusedVariables false
set_option maxRecDepth 100000

section
variable {X : Cx} {F : Option Addr × Option Addr} {out : List Nat} {p : Nat} {w : World}
theorem run_ok {α β : Type} {f : Inf.Pg α} {g : α → Inf.Pg β} {p : Nat} {x : α} {q : Nat} (h : X.run f p = .ok (x, q)) : X.run (Inf.bnd f g) p = X.run (g x) q := by
  unfold Cx.run at h ⊢
  unfold Inf.bnd
  rw [h]
theorem run_err {α β : Type} {f : Inf.Pg α} {g : α → Inf.Pg β} {p E : Nat} (h : X.run f p = .error E) : X.run (Inf.bnd f g) p = .error E := by
  unfold Cx.run at h ⊢
  unfold Inf.bnd
  rw [h]
theorem run_need {b : Bool} {p : Nat} (h : b = true) : X.run (Inf.need b) p = .ok ((), p) := by subst h; rfl
theorem run_need_no {b : Bool} {p : Nat} (h : b = false) : X.run (Inf.need b) p = .error 3 := by subst h; rfl
theorem run_bits_at {n q : Nat} {x : Nat × Nat} (h : X.run (Inf.bitsP n) q = .ok x) : x.2 = q + n ∧ q + n ≤ 8 * X.bs.length := by
  unfold Cx.run Inf.bitsP at h
  split at h
  · injection h with h
    rw [← h]
    exact ⟨rfl, by assumption⟩
  · cases h
theorem Dec.outs (h : Dec X F out p w) : ∃ a cc, w.cell? ⟨X.d, 1, none⟩ = some (.slice a out.length cc) ∧ Nums .u8 w w.heap.size a out ∧ out.length ≤ 9223372036854775807 := by
  obtain ⟨v, h1, h2⟩ := h.dec
  obtain ⟨a, cc, rfl, q1, q2, _, hN⟩ := h2.nums
  exact ⟨a, cc, h1.cell 1, hN, Nat.le_trans q1 q2⟩
theorem Dec.drew (h : Dec X F out p w) : Dec X F out p w.drew := ⟨h.dec, h.rd, h.nums, h.size, h.at_⟩
theorem DK.undrew {B : Nat} {W' : World} (h : DK B w.drew W') : DK B w W' := ⟨⟨h.below.os, h.below.tape, h.below.output, h.below.size, h.below.block⟩, h.same⟩
theorem below_undrew {B : Nat} {W' : World} (h : Below B w.drew W') : Below B w W' := ⟨h.os, h.tape, h.output, h.size, h.block⟩
set_option maxHeartbeats 4000000 in
theorem drepeat_any (hX : X.Ok) (h : Dec X F out p w) (n D : Nat) (hD : 1 ≤ D) (hDb : D ≤ 1000000) (hn : n ≤ 100000) :
    Calls Try.prog 34 #[.pointer (some ⟨X.d, 0, none⟩), .int .i64 (n : Int), .int .i64 (D : Int)] w
      (DPost X w (X.run (Inf.bnd (Inf.need (decide (D ≤ out.length))) fun _ => Inf.lift (Inf.repE X.most D n out)) p) (fun _ => .tuple #[]) F id) := by
  obtain ⟨a, cc, c1, hN, hmx⟩ := h.outs
  have Hle := Lib.hid (h.le hX)
  by_cases hL : D ≤ out.length
  · rw [run_ok (run_need (decide_eq_true hL)), run_lift]
    obtain ⟨R, hR⟩ : ∃ R, Inf.repE X.most D n out = R := ⟨_, rfl⟩
    rw [hR]
    have HR := Lib.hid hR
    have H := Lib.hid h
    have HX := Lib.hid hX
    have HL := Lib.hid hL
    obtain ⟨L, hLe⟩ : ∃ L, out.length = L := ⟨_, rfl⟩
    rw [hLe] at c1 hL
    have d1 : decide ((D : Int) ≤ (L : Int)) = true := decide_eq_true (by omega)
    have d2 : decide (D ≤ L) = true := decide_eq_true hL
    have Hdm := Lib.hid idemand_yes
    clear h hX hR hN hL hLe hmx
    go_enter Try.func34, Try.ntmps34
    go_wp2_with fail
    refine (Hdm.out _).mono ?_
    rintro e W9 ⟨rfl, rfl⟩
    go_wp2_with fail
    go_loopw [15] (fun y W => ∃ (k : Nat) (o : List Nat), k ≤ n ∧ y = .int .i64 (k : Int) ∧ Hid (Dec X F o p W) ∧ Hid (DK X.B w W) ∧ Hid (Inf.repE X.most D (n - k) o = R) ∧ Hid (D ≤ o.length)) (fun y _ => n - (intOf y).toNat)
    case atStart => exact ⟨0, out, Nat.zero_le _, rfl, H, DK.refl _ _, HR, HL⟩
    case round =>
      obtain ⟨k, o, hk, rfl, HD, HK, HE, HO⟩ := hrel
      clear HR H HL c1 d1 d2
      by_cases hlt : k < n
      · obtain ⟨a, cc, c1, hN, hmx⟩ := HD.out.outs
        have hol := HO.out
        obtain ⟨b, off, rfl, hb, hc⟩ := hN (by omega)
        obtain ⟨j, hj⟩ : ∃ j, o.length - D = j := ⟨_, rfl⟩
        have q0 := hc j (by omega)
        have hE := HE.out
        obtain ⟨f, hf⟩ : ∃ f, n - k = f + 1 := ⟨n - k - 1, by omega⟩
        rw [hf] at hE
        unfold Inf.repE at hE
        rw [hj] at hE
        have Hput := Lib.hid (dput_any HX.out HD.out.drew (o.getD j 0))
        rw [run_lift] at Hput
        generalize o.getD j 0 = C at *
        obtain ⟨L, hLe⟩ : ∃ L, o.length = L := ⟨_, rfl⟩
        rw [hLe] at c1 hol hj hmx
        have w1 : IntKind.i64.wrap ((L : Int) - (D : Int)) = (j : Int) := by rw [IntWalk.i64_in _ ⟨by omega, by omega⟩]; omega
        have j0 : (0 : Int) ≤ (j : Int) := by omega
        have j1 : (j : Int) < (L : Int) := by omega
        have Hf := Lib.hid hf
        clear hN hc hol hj hf hLe hD hmx
        cases hP : Inf.putE X.most o C with
        | error E =>
          rw [hP] at hE Hput
          simp only at hE Hput
          subst hE
          clear hP HE
          go_wp2_with fail
          go_still_tail 14, (by kernel_rfl)
          change wpList _ _ _ _ _ wr.drew
          go_wp2_with fail
          refine Hput.out.mono ?_
          rintro e Y ⟨rfl, hB⟩
          have HB := Lib.hid (HK.out.below.trans (below_undrew hB))
          clear hB
          go_wp2_with fail
          exact ⟨rfl, rfl, HB.out⟩
        | ok o' =>
          rw [hP] at hE Hput
          simp only at hE Hput
          have HE2 := Lib.hid hE
          have ho' : o' = o ++ [C] := by unfold Inf.putE at hP; split at hP <;> simp at hP; exact hP.symm
          have HO2 : Hid (D ≤ o'.length) := by show _ ≤ _; have := HO.out; rw [ho', List.length_append]; omega
          clear hE hP HE ho'
          go_wp2_with fail
          go_still_tail 14, (by kernel_rfl)
          change wpList _ _ _ _ _ wr.drew
          go_wp2_with fail
          refine Hput.out.mono ?_
          rintro e Y ⟨rfl, hD2, hK2⟩
          have HD2 := Lib.hid hD2
          have HK2 := Lib.hid (HK.out.trans hK2.undrew)
          clear hD2 hK2
          go_wp2_with fail
          go_roundw
          case rel => exact ⟨k + 1, o', by omega, by go_num, HD2, HK2, by show _ = _; rw [show n - (k + 1) = f by have := Hf.out; omega]; exact HE2.out, HO2⟩
          case measure => simp [intOf]; omega
      · obtain rfl : k = n := by omega
        have hE := HE.out
        rw [Nat.sub_self] at hE
        have hE2 : Except.ok o = R := hE
        subst hE2
        clear hE HE hlt
        go_wp2_with fail
        go_end0
        exact ⟨rfl, HD.out, HK.out⟩
  · rw [run_err (run_need_no (decide_eq_false hL))]
    have Hdm := Lib.hid idemand_no
    obtain ⟨L, hLe⟩ : ∃ L, out.length = L := ⟨_, rfl⟩
    rw [hLe] at c1 hL
    have d1 : decide ((D : Int) ≤ (L : Int)) = false := decide_eq_false (by omega)
    have d2 : decide (D ≤ L) = false := decide_eq_false hL
    clear h hX hN hL hLe hmx
    go_enter Try.func34, Try.ntmps34
    go_wp2_with fail
    refine (Hdm.out _).mono ?_
    rintro e W9 ⟨rfl, rfl⟩
    go_wp2_with fail
    exact ⟨rfl, rfl, Below.refl _ _⟩
theorem not16 {L : Nat} (h : L < 65536) : 65535 ^^^ L = 65535 - L := by
  apply Nat.eq_of_testBit_eq
  intro i
  rw [Nat.testBit_xor, show (65535 : Nat) = 2 ^ 16 - 1 by rfl, Nat.testBit_two_pow_sub_one]
  have h2 : 2 ^ 16 - 1 - L = 2 ^ 16 - (L + 1) := by omega
  rw [h2, Nat.testBit_two_pow_sub_succ h]
  by_cases hi : i < 16
  · simp [hi]
  · have h3 : 2 ^ 16 ≤ 2 ^ i := Nat.pow_le_pow_right (by decide) (by omega)
    have : L < 2 ^ i := Nat.lt_of_lt_of_le h h3
    simp [hi, Nat.testBit_lt_two_pow this]
theorem xor16 (n : Nat) (hn : n < 65536) : bits .xor .i64 (n : Int) 65535 = ((65535 - n : Nat) : Int) := by
  show IntKind.i64.wrap ((BitVec.ofInt 64 (n : Int) ^^^ BitVec.ofInt 64 ((65535 : Nat) : Int)).toNat : Int) = _
  rw [BitVec.toNat_xor, BitVec.ofInt_natCast, BitVec.ofInt_natCast, BitVec.toNat_ofNat, BitVec.toNat_ofNat, Nat.mod_eq_of_lt (show n < 2 ^ 64 by omega), Nat.mod_eq_of_lt (show 65535 < 2 ^ 64 by omega), Nat.xor_comm, not16 hn]
  exact IntWalk.i64_in _ ⟨by omega, by omega⟩
set_option maxHeartbeats 4000000 in
theorem dstored_any (hX : X.Ok) (h : Dec X F out p w) :
    Calls Try.prog 23 #[.pointer (some ⟨X.d, 0, none⟩)] w (DPost X w (X.run (Inf.storedP X.most out) p) (fun _ => .tuple #[]) F id) := by
  obtain ⟨v, h1, h2⟩ := h.dec
  have c0 : w.cell? ⟨X.d, 0, none⟩ = some (.pointer (some ⟨X.r, 0, none⟩)) := h1.cell 0
  have hlen := hX.len
  have hat := h.at_
  have HX := Lib.hid hX
  have H := Lib.hid h
  obtain ⟨k, hk⟩ : ∃ k, k = (8 - p % 8) % 8 := ⟨_, rfl⟩
  have hp1 : (p + 7) / 8 * 8 = p + k := by omega
  have Hal := Lib.hid (ralign_any X.r X.a X.c X.bs p k w h.reader (by omega) hk)
  have Hpk : Hid (p + k ≤ 8 * X.bs.length) := by show _ ≤ _; omega
  have e1 : X.run Inf.alignP p = .ok ((), p + k) := by unfold Cx.run Inf.alignP; rw [hp1]
  obtain ⟨R, hR0⟩ : ∃ R, X.run (Inf.storedP X.most out) p = R := ⟨_, rfl⟩
  rw [hR0]
  unfold Inf.storedP at hR0
  rw [run_ok e1] at hR0
  have Hdy := Lib.hid idemand_yes
  have Hdn := Lib.hid idemand_no
  generalize p + k = P at *
  clear h hX h1 h2 hk hp1 e1 hlen hat
  go_enter Try.func23, Try.ntmps23
  go_wp2_with fail
  refine Hal.out.mono ?_
  rintro e W1 ⟨rfl, hR, hO⟩
  obtain ⟨hD1, hK1⟩ := H.out.read HX.out hR hO Hpk.out
  have HD1 := Lib.hid hD1
  have HK1 := Lib.hid hK1
  have Hb := dbits_any HX.out hD1 16 (by omega)
  clear hR hO hD1 hK1 Hal Hpk c0
  cases hR1 : X.run (Inf.bitsP 16) P with
  | error E =>
    rw [run_err hR1] at hR0
    subst hR0
    rw [hR1] at Hb
    have HB := Lib.hid Hb
    clear Hb hR1
    go_wp2_with fail
    refine HB.out.mono ?_
    rintro e W ⟨rfl, hB⟩
    have HB := Lib.hid (HK1.out.below.trans hB)
    clear hB
    go_wp2_with fail
    exact ⟨rfl, rfl, HB.out⟩
  | ok x =>
    obtain ⟨n, P1⟩ := x
    rw [run_ok hR1] at hR0
    have hn := run_bits_lt hR1
    rw [hR1] at Hb
    have HB := Lib.hid Hb
    clear Hb hR1
    go_wp2_with fail
    refine HB.out.mono ?_
    rintro e W2 ⟨rfl, hD2, hK2⟩
    have HD2 := Lib.hid hD2
    have HK2 := Lib.hid (HK1.out.trans hK2)
    have Hb := dbits_any HX.out hD2 16 (by omega)
    clear hD2 hK2 HB HK1 HD1
    cases hR1 : X.run (Inf.bitsP 16) P1 with
    | error E =>
      rw [run_err hR1] at hR0
      subst hR0
      rw [hR1] at Hb
      have HB := Lib.hid Hb
      clear Hb hR1
      go_wp2_with fail
      refine HB.out.mono ?_
      rintro e W ⟨rfl, hB⟩
      have HB := Lib.hid (HK2.out.below.trans hB)
      clear hB
      go_wp2_with fail
      exact ⟨rfl, rfl, HB.out⟩
    | ok x =>
      obtain ⟨m, P2⟩ := x
      rw [run_ok hR1] at hR0
      have hm := run_bits_lt hR1
      rw [hR1] at Hb
      have HB := Lib.hid Hb
      simp only at hn hm
      have w1 := xor16 n hn
      clear Hb hR1
      by_cases hmn : m + n = 65535
      · have d1 : ((m : Int) == ((65535 - n : Nat) : Int)) = true := by simp; omega
        rw [run_ok (run_need (decide_eq_true hmn))] at hR0
        have HR0 := Lib.hid hR0
        clear hmn hR0 hm
        go_wp2_with fail
        refine HB.out.mono ?_
        rintro e W3 ⟨rfl, hD3, hK3⟩
        have HD3 := Lib.hid hD3
        have HK3 := Lib.hid (HK2.out.trans hK3)
        clear hD3 hK3 HB HK2 HD2
        go_wp2_with fail
        refine (Hdy.out _).mono ?_
        rintro e W9 ⟨rfl, rfl⟩
        go_wp2_with fail
        go_loopw [17] (fun y W => ∃ (k q : Nat) (o : List Nat), k ≤ n ∧ y = .int .i64 (k : Int) ∧ Hid (Dec X F o q W) ∧ Hid (DK X.B w W) ∧ Hid (X.run (Inf.copyP X.most (n - k) o) q = R)) (fun y _ => n - (intOf y).toNat)
        case atStart => exact ⟨0, P2, out, Nat.zero_le _, rfl, HD3, HK3, HR0⟩
        case round =>
          obtain ⟨k, q, o, hk, rfl, HD, HK, HE⟩ := hrel
          clear HR0 HD3 HK3 d1 w1
          by_cases hlt : k < n
          · have hE := HE.out
            obtain ⟨f, hf⟩ : ∃ f, n - k = f + 1 := ⟨n - k - 1, by omega⟩
            rw [hf] at hE
            unfold Inf.copyP at hE
            have Hf := Lib.hid hf
            have Hb := dbits_any HX.out HD.out 8 (by omega)
            clear hf HE
            cases hR1 : X.run (Inf.bitsP 8) q with
            | error E =>
              rw [run_err hR1] at hE
              subst hE
              rw [hR1] at Hb
              have HB := Lib.hid Hb
              clear Hb hR1
              go_wp2_with fail
              refine HB.out.mono ?_
              rintro e W ⟨rfl, hB⟩
              have HB := Lib.hid (HK.out.below.trans hB)
              clear hB
              go_wp2_with fail
              exact ⟨rfl, rfl, HB.out⟩
            | ok x =>
              obtain ⟨C, q1⟩ := x
              rw [run_ok hR1] at hE
              have hc := run_bits_lt hR1
              rw [hR1] at Hb
              have HB := Lib.hid Hb
              simp only at hc
              have w1 : IntKind.u8.wrap (C : Int) = (C : Int) := by rw [IntKind.wrap_u8']; omega
              have w2 : (C : Int) % 256 = (C : Int) := by omega
              have HE := Lib.hid hE
              clear Hb hR1 hc hE
              go_wp2_with fail
              refine HB.out.mono ?_
              rintro e Y ⟨rfl, hD2, hK2⟩
              have HK2 := Lib.hid (HK.out.trans hK2)
              have Hput := Lib.hid (dput_any HX.out hD2 C)
              have hE := HE.out
              rw [run_lift] at Hput
              clear hD2 hK2 HB HE
              cases hP : Inf.putE X.most o C with
              | error E =>
                rw [hP] at hE Hput
                simp only at Hput
                have hE2 : Except.error E = R := hE
                subst hE2
                clear hP hE
                go_wp2_with fail
                refine Hput.out.mono ?_
                rintro e Y ⟨rfl, hB⟩
                have HB := Lib.hid (HK2.out.below.trans hB)
                clear hB
                go_wp2_with fail
                exact ⟨rfl, rfl, HB.out⟩
              | ok o' =>
                rw [hP] at hE Hput
                simp only at Hput
                have HE2 : Hid (X.run (Inf.copyP X.most f o') q1 = R) := hE
                clear hE hP
                go_wp2_with fail
                refine Hput.out.mono ?_
                rintro e Z ⟨rfl, hD3, hK3⟩
                have HD3 := Lib.hid hD3
                have HK3 := Lib.hid (HK2.out.trans hK3)
                clear hD3 hK3
                go_wp2_with fail
                go_roundw
                case rel => exact ⟨k + 1, q1, o', by omega, by go_num, HD3, HK3, by show _ = _; rw [show n - (k + 1) = f by have := Hf.out; omega]; exact HE2.out⟩
                case measure => simp [intOf]; omega
          · obtain rfl : k = n := by omega
            have hE := HE.out
            rw [Nat.sub_self] at hE
            have hE2 : Except.ok (o, q) = R := hE
            subst hE2
            clear hE HE hlt
            go_wp2_with fail
            go_end0
            exact ⟨rfl, HD.out, HK.out⟩
      · have d1 : ((m : Int) == ((65535 - n : Nat) : Int)) = false := by simp; omega
        rw [run_err (run_need_no (decide_eq_false hmn))] at hR0
        subst hR0
        clear hmn hm
        go_wp2_with fail
        refine HB.out.mono ?_
        rintro e W3 ⟨rfl, hD3, hK3⟩
        have HK3 := Lib.hid (HK2.out.trans hK3)
        clear hD3 hK3 HB HK2 HD2
        go_wp2_with fail
        refine (Hdn.out _).mono ?_
        rintro e W9 ⟨rfl, rfl⟩
        go_wp2_with fail
        exact ⟨rfl, rfl, HK3.out.below⟩
end
end Go.Proofs.Ytfbfflgffibjbaa
