/- Layer 4: the decoder's calls: check, demand, bits, symbol, put, extended, repeat. -/
import Derived.Test.YtfbfflgffibjbaaInf1
namespace Go.Proofs.Ytfbfflgffibjbaa
open Go.RowKit Huff Bit
set_option linter.unusedVariables false
set_option maxRecDepth 100000

theorem icheck_ok (w : World) : Calls Try.prog 28 #[.int .i64 0] w fun e w' => e = .returned (.tuple #[]) ∧ w = w' := by
  go_enter Try.func28, Try.ntmps28
  go_wp2_with fail
  go_end0
  exact ⟨rfl, rfl⟩
theorem icheck_no (n : Nat) (w : World) (hn : n ≠ 0) : Calls Try.prog 28 #[.int .i64 (n : Int)] w fun e w' => e = .panicked (pan n) ∧ w = w' := by
  have d : ((n : Int) != 0) = true := by simp; omega
  clear hn
  go_enter Try.func28, Try.ntmps28
  go_wp2_with fail
  exact ⟨rfl, rfl, rfl⟩
theorem idemand_yes (w : World) : Calls Try.prog 30 #[.bool true] w fun e w' => e = .returned (.tuple #[]) ∧ w = w' := by
  go_enter Try.func30, Try.ntmps30
  go_wp2_with fail
  go_end0
  exact ⟨rfl, rfl⟩
theorem idemand_no (w : World) : Calls Try.prog 30 #[.bool false] w fun e w' => e = .panicked (pan 3) ∧ w = w' := by
  go_enter Try.func30, Try.ntmps30
  go_wp2_with fail
  exact ⟨rfl, rfl, rfl⟩

section
variable {X : Cx} {F : Option Addr × Option Addr} {out : List Nat} {p : Nat} {w : World}
theorem dbits_any (hX : X.Ok) (h : Dec X F out p w) (n : Nat) (hn : n ≤ 16) :
    Calls Try.prog 22 #[.pointer (some ⟨X.d, 0, none⟩), .int .i64 (n : Int)] w (DPost X w (X.run (Inf.bitsP n) p) (fun v => .int .i64 (v : Int)) F (fun _ => out)) := by
  obtain ⟨v, h1, h2⟩ := h.dec
  have c0 : w.cell? ⟨X.d, 0, none⟩ = some (.pointer (some ⟨X.r, 0, none⟩)) := h1.cell 0
  have hlen := hX.len
  have hat := h.at_
  have H := Lib.hid h
  have HX := Lib.hid hX
  by_cases hN : p + n ≤ 8 * X.bs.length
  · have e : X.run (Inf.bitsP n) p = .ok (Inf.valB (bitOf X.bs) p n, p + n) := by unfold Cx.run Inf.bitsP; rw [if_pos hN]
    rw [e]
    have hv := valB_lt X.bs p n
    have hp16 : 2 ^ n ≤ 2 ^ 16 := Nat.pow_le_pow_right (by omega) hn
    have Hb := Lib.hid (bits_any X.r X.a X.c X.bs p n w h.reader (by omega) hX.byte (by omega) hN)
    unfold BitsPost at Hb
    rw [valOf_valB] at Hb
    have Hc := Lib.hid icheck_ok
    generalize Inf.valB (bitOf X.bs) p n = V at *
    have w1 : wrap64 (V : Int) = (V : Int) := IntWalk.wrap64_in _ ⟨by omega, by omega⟩
    have w2 : IntKind.i64.wrap (V : Int) = (V : Int) := IntWalk.i64_in _ ⟨by omega, by omega⟩
    have HN := Lib.hid hN
    clear h h1 h2 hX hv hp16 hN e
    go_enter Try.func22, Try.ntmps22
    go_wp2_with fail
    refine Hb.out.mono ?_
    rintro e W ⟨rfl, hR, hO⟩
    have Hf := Lib.hid (H.out.read HX.out hR hO HN.out)
    clear hR hO
    go_wp2_with fail
    refine (Hc.out _).mono ?_
    rintro e W9 ⟨rfl, rfl⟩
    go_wp2_with fail
    go_ret
    exact ⟨rfl, Hf.out.1, Hf.out.2⟩
  · have e : X.run (Inf.bitsP n) p = .error 2 := by unfold Cx.run Inf.bitsP; rw [if_neg hN]
    rw [e]
    have Hb := Lib.hid (rbits_short X.r X.a X.c X.bs p n w h.reader (by omega) (by omega) hat (by omega))
    have Hc := Lib.hid fun W => icheck_no 2 W (by omega)
    have Hle := Lib.hid (h.le hX)
    clear h h1 h2 hX hN e
    go_enter Try.func22, Try.ntmps22
    go_wp2_with fail
    refine Hb.out.mono ?_
    rintro e W ⟨rfl, hB⟩
    have HB := Lib.hid (hB.mono Hle.out)
    clear hB
    go_wp2_with fail
    refine (Hc.out _).mono ?_
    rintro e W9 ⟨rfl, rfl⟩
    go_wp2_with fail
    exact ⟨rfl, rfl, HB.out⟩
/-- A code of the decoder's. -/
structure CodeK (g : Nat) (l : List Nat) (W : World) : Prop where
  code : CodeAt W (g + 1) g l
  len : l.length ≤ 288
theorem CodeK.dk {B g : Nat} {l : List Nat} {W W' : World} (h : CodeK g l W) (hk : DK B W W') : CodeK g l W' := ⟨h.code.dk hk, h.len⟩
theorem dsym_any (hX : X.Ok) (h : Dec X F out p w) (g : Nat) (l : List Nat) (hC : CodeK g l w) :
    Calls Try.prog 32 #[.pointer (some ⟨X.d, 0, none⟩), .pointer (some ⟨g, 0, none⟩)] w (DPost X w (X.run (Inf.symP l) p) (fun v => .int .i64 (v : Int)) F (fun _ => out)) := by
  obtain ⟨v, h1, h2⟩ := h.dec
  have c0 : w.cell? ⟨X.d, 0, none⟩ = some (.pointer (some ⟨X.r, 0, none⟩)) := h1.cell 0
  have hlen := hX.len
  have H := Lib.hid h
  have HX := Lib.hid hX
  obtain ⟨R, hR⟩ : ∃ R, scan l (bitOf X.bs) (8 * X.bs.length) p 15 0 0 = R := ⟨_, rfl⟩
  have ha := scan_at l (bitOf X.bs) (8 * X.bs.length) p 15 0 0 h.at_
  rw [hR] at ha
  have Hb := Lib.hid (read_gen g X.r p X.c X.a X.bs l w (fun W ho => hC.code.dk (DK.only (B := X.B) ho (h.le hX) (fun k e => by subst e; exact hX.br) (fun k e => by subst e; exact ⟨_, _, _, h.rd, .inl rfl⟩))) h.reader (by omega) hX.byte hC.len h.at_ R hR)
  unfold ReadPost at Hb
  have HA : Hid (R.2.1 ≤ 8 * X.bs.length) := ha.2
  by_cases h0 : R.2.2 = 0
  · have e : X.run (Inf.symP l) p = .ok (R.1, R.2.1) := by unfold Cx.run Inf.symP; rw [hR, if_pos h0]
    rw [e]
    rw [h0] at Hb
    have Hc := Lib.hid icheck_ok
    clear h h1 h2 hX hR e ha h0 hC
    go_enter Try.func32, Try.ntmps32
    go_wp2_with fail
    refine Hb.out.mono ?_
    rintro e W ⟨rfl, hR, hO⟩
    have Hf := Lib.hid (H.out.read HX.out hR hO HA.out)
    clear hR hO
    go_wp2_with fail
    refine (Hc.out _).mono ?_
    rintro e W9 ⟨rfl, rfl⟩
    go_wp2_with fail
    go_ret
    exact ⟨rfl, Hf.out.1, Hf.out.2⟩
  · have e : X.run (Inf.symP l) p = .error R.2.2 := by unfold Cx.run Inf.symP; rw [hR, if_neg h0]
    rw [e]
    have Hc := Lib.hid fun W => icheck_no R.2.2 W h0
    obtain ⟨E, hE⟩ : ∃ E, R.2.2 = E := ⟨_, rfl⟩
    rw [hE] at Hb Hc ⊢
    clear h h1 h2 hX hR e ha h0 hC hE
    go_enter Try.func32, Try.ntmps32
    go_wp2_with fail
    refine Hb.out.mono ?_
    rintro e W ⟨rfl, hR, hO⟩
    have Hf := Lib.hid (H.out.read HX.out hR hO HA.out)
    clear hR hO
    go_wp2_with fail
    refine (Hc.out _).mono ?_
    rintro e W9 ⟨rfl, rfl⟩
    go_wp2_with fail
    exact ⟨rfl, rfl, Hf.out.2.below⟩
/-- A byte has been put. -/
theorem Dec.put (hX : X.Ok) (h : Dec X F out p w) {v v' : Value} {w1 : World} {m : List Nat} (h1 : Whole w X.d 44 #[.pointer (some ⟨X.r, 0, none⟩), v, .int .i64 (X.most : Int), .pointer F.1, .pointer F.2]) (h2 : Own8 w X.n v out) (hG : Gone w X.n v m v' w1) :
    Dec X F m p (w1.setCell ⟨X.d, 1, none⟩ v') ∧ DK X.B w (w1.setCell ⟨X.d, 1, none⟩ v') := by
  have hdn := hX.dn
  have hbd := hX.bd
  have hne := h.ne
  have hlt := h1.lt
  have hle := h.le hX
  have hv : ∀ b, v.ownBlock = some b → X.n ≤ b := fun b hb => (h2.lt b hb).1
  have hw1 : Whole w1 X.d 44 #[.pointer (some ⟨X.r, 0, none⟩), v, .int .i64 (X.most : Int), .pointer F.1, .pointer F.2] := h1.only hG.only (fun e => by have := hv _ e; omega)
  have ho : Only (fun k => k = X.d ∨ v.ownBlock = some k) w (w1.setCell ⟨X.d, 1, none⟩ v') := (hG.only.mono (fun b _ e => .inr e)).setCell (fun _ => .inl rfl) _
  refine ⟨⟨⟨v', by simpa using hw1.set 1 v', own_set hG.own (p := ⟨X.d, 1, none⟩) (fun e => by have := (hG.own.lt _ e).1; exact absurd this (by show ¬ X.n ≤ X.d; omega)) _⟩, h.rd.only ho ?_, h.nums.onlyIf ho h.size ?_, Nat.le_trans h.size ho.size, h.at_⟩, DK.only ho hle ?_ ?_⟩
  · rintro (e | e)
    · exact hne e.symm
    · have := hv _ e; have := hX.rn; omega
  · rintro b u x hc hb (e | e)
    · subst e
      obtain ⟨a0, c0, rfl, _⟩ := h2.nums
      rw [h1.cell] at hc
      rcases u with _ | _ | _ | _ | _ | u <;> simp at hc
    · have := hv _ e; omega
  · rintro k (e | e)
    · subst e; exact hbd
    · have := hv _ e; omega
  · rintro k (e | e)
    · subst e; exact ⟨_, _, _, h1, .inr (.inl rfl)⟩
    · obtain ⟨hl, (⟨rfl, _⟩ | ⟨k', cap, cur, rfl, q1, q2, q3⟩)⟩ := h2
      · cases e
      · injection e with e
        subst e
        exact ⟨_, _, _, q2, .inr (.inr rfl)⟩
theorem Gone.undrawn {w w' : World} {base k : Nat} {v v' : Value} {l : List Nat} (h : Gone (w.drewN k) base v l v' w') : Gone w base v l v' w' := ⟨h.own, ⟨h.only.os, h.only.tape, h.only.output, h.only.size, h.only.block⟩, h.at_⟩
theorem run_lift {α : Type} (x : Except Nat α) : X.run (Inf.lift x) p = (match x with | .ok a => .ok (a, p) | .error e => .error e) := by cases x <;> rfl
theorem dput_any (hX : X.Ok) (h : Dec X F out p w) (c : Nat) :
    Calls Try.prog 31 #[.pointer (some ⟨X.d, 0, none⟩), .int .u8 (c : Int)] w (DPost X w (X.run (Inf.lift (Inf.putE X.most out c)) p) (fun _ => .tuple #[]) F id) := by
  obtain ⟨v, h1, h2⟩ := h.dec
  obtain ⟨i0, hi0, hz0, hz1, hz2⟩ := info_parts u8info
  obtain ⟨a, cc, rfl, _, _, _, _⟩ := h2.nums
  have c1 : w.cell? ⟨X.d, 1, none⟩ = some (.slice a out.length cc) := h1.cell 1
  have c2 : w.cell? ⟨X.d, 2, none⟩ = some (.int .i64 (X.most : Int)) := h1.cell 2
  have f1 := h1.frozen 1
  have hm := hX.most
  rw [run_lift]
  have H := Lib.hid h
  have HX := Lib.hid hX
  have H1 := Lib.hid h1
  have H2 := Lib.hid h2
  have Hle := Lib.hid (h.le hX)
  have Hsz := Lib.hid h.size
  unfold Inf.putE
  obtain ⟨L, hL⟩ : ∃ L, out.length = L := ⟨_, rfl⟩
  obtain ⟨M, hM⟩ : ∃ M, X.most = M := ⟨_, rfl⟩
  rw [hM] at hm c2
  rw [hL] at c1
  rw [hL, hM]
  have HL := Lib.hid hL
  by_cases hN : M ≤ L
  · rw [if_pos hN]
    have d1 : decide ((M : Int) ≤ (L : Int)) = true := decide_eq_true (by omega)
    have d2 : decide (M ≤ L) = true := decide_eq_true hN
    clear h h1 h2 hX hN hL hM hm
    go_enter Try.func31, Try.ntmps31
    go_wp2_with fail
    go_quiet (fail)
    go_wp2_with fail
    exact ⟨rfl, rfl, below_drawn ((Below.refl _ _)) _⟩
  · rw [if_neg hN]
    have d1 : decide ((M : Int) ≤ (L : Int)) = false := decide_eq_false (by omega)
    have d2 : decide (M ≤ L) = false := decide_eq_false hN
    have Hl1 : Hid (L + 1 ≤ maxLen) := by unfold Hid maxLen; omega
    have Hl2 : Hid ((L + 1) * 1 ≤ 140737488355328) := by unfold Hid; omega
    have Hown : Hid (∀ n, (w.drewN n).ownsRow X.n 5 1 (.slice a L cc) L (u8s out)) := fun n => by have h3 := h2; unfold Own8 at h3; rw [hL] at h3; exact h3
    clear h h1 h2 hX hN hL hM hm
    go_enter Try.func31, Try.ntmps31
    go_wp2_with fail
    go_quiet (fail)
    go_wp2_with (at_builtin; refine app_one rfl (.tmp 19) (.tmp 21) 22 rfl X.n 5 i0 _ 1 Try.underlying22 hi0 hz0 hz1 hz2 rfl _ _ _ rfl (Hown.out _) (.int .u8 (c : Int)) 1 rfl rfl Hl1.out Hl2.out Hsz.out ?_)
    intro v' w1 hown hg hat
    have hG : Gone w X.n (.slice a L cc) (out ++ [c]) v' w1 := (Gone.grown (w := w.drewN nq) hown (by simp [HL.out]) (by simp [u8s]) hg hat).undrawn
    obtain ⟨r, cap, rfl, _, _⟩ := hown.form (by omega)
    have h1 := H1.out
    have h2 := H2.out
    rw [HL.out] at h1 h2
    have hf := Lib.hid (H.out.put HX.out h1 h2 hG)
    have g1 : w1.frozen? ⟨X.d, 1, none⟩ = false := (h1.only hG.only (fun e => by have := (h2.lt _ e).1; have := HX.out.dn; omega)).frozen 1
    have g0 : w1.cell? ⟨X.d, 1, none⟩ = some (.slice a L cc) := (h1.only hG.only (fun e => by have := (h2.lt _ e).1; have := HX.out.dn; omega)).cell 1
    clear hown hg hat hG h1 h2
    go_wp2_with fail
    go_end0
    exact ⟨rfl, hf.out.1, hf.out.2⟩
theorem run_bits_lt {n : Nat} {q : Nat} {x : Nat × Nat} (h : X.run (Inf.bitsP n) q = .ok x) : x.1 < 2 ^ n := by
  unfold Cx.run Inf.bitsP at h
  split at h
  · injection h with h
    rw [← h]
    exact valB_lt _ _ _
  · cases h
theorem pow16 {n : Nat} (hn : n ≤ 16) : 2 ^ n ≤ 65536 := Nat.le_trans (Nat.pow_le_pow_right (by omega) hn) (by decide)
theorem dext_any (hX : X.Ok) (h : Dec X F out p w) (b n : Nat) (hb : b ≤ 1000000) (hn : n ≤ 16) :
    Calls Try.prog 33 #[.pointer (some ⟨X.d, 0, none⟩), .int .i64 (b : Int), .int .i64 (n : Int)] w (DPost X w (X.run (Inf.bitsP n) p) (fun v => .int .i64 ((b + v : Nat) : Int)) F (fun _ => out)) := by
  have Hb := dbits_any hX h n hn
  cases hR : X.run (Inf.bitsP n) p with
  | error E =>
    rw [hR] at Hb
    have HB := Lib.hid Hb
    clear h hX hR Hb
    go_enter Try.func33, Try.ntmps33
    go_wp2_with fail
    refine HB.out.mono ?_
    rintro e W ⟨rfl, hB⟩
    have HB := Lib.hid hB
    clear hB
    go_wp2_with fail
    exact ⟨rfl, rfl, HB.out⟩
  | ok x =>
    have hx := run_bits_lt hR
    have hp := pow16 hn
    rw [hR] at Hb
    have HB := Lib.hid Hb
    obtain ⟨V, q⟩ := x
    have w1 : wrap64 ((b : Int) + (V : Int)) = (b : Int) + (V : Int) := IntWalk.wrap64_in _ ⟨by omega, by omega⟩
    have w3 : Hid ((b : Int) + (V : Int) = ((b + V : Nat) : Int)) := by show _ = _; omega
    clear h hX hR Hb hx hp
    go_enter Try.func33, Try.ntmps33
    go_wp2_with fail
    refine HB.out.mono ?_
    rintro e W ⟨rfl, hD, hK⟩
    have HD := Lib.hid hD
    have HK := Lib.hid hK
    clear hD hK
    go_wp2_with fail
    go_ret
    exact ⟨ret_int (w1.trans w3.out), HD.out, HK.out⟩
end
end Go.Proofs.Ytfbfflgffibjbaa
