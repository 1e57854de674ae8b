/- Layer 16: the closures of read, and the exponent. -/
import Derived.Test.YtdbcklabinmgfaaDoorDecStr
import Derived.BigQuiet
import Derived.Deep.QuietTactic
namespace Go.Proofs.YtdbcklabinmgfaaDoor
open Go.RowKit
set_option linter.unusedVariables false
set_option maxRecDepth 100000

theorem digit_any (c : Nat) (w : World) : Calls Tryd.prog 32 #[.int .u8 (c : Int)] w fun e w' => e = .returned (.bool (isD c)) ∧ w = w' := by
  unfold isD
  by_cases h1 : 48 ≤ c
  · have d1 : decide ((48 : Int) ≤ (c : Int)) = true := decide_eq_true (by omega)
    have d2 : decide (48 ≤ c) = true := decide_eq_true h1
    by_cases h2 : c ≤ 57
    · have d3 : decide ((c : Int) ≤ 57) = true := decide_eq_true (by omega)
      have d4 : decide (c ≤ 57) = true := decide_eq_true h2
      rw [decide_eq_true (show 48 ≤ c ∧ c ≤ 57 from ⟨h1, h2⟩)]
      go_enter Tryd.func32, Tryd.ntmps32
      go_wp2_with fail
      go_ret
      exact ⟨rfl, rfl⟩
    · have d3 : decide ((c : Int) ≤ 57) = false := decide_eq_false (by omega)
      have d4 : decide (c ≤ 57) = false := decide_eq_false h2
      rw [decide_eq_false (show ¬ (48 ≤ c ∧ c ≤ 57) from fun h => h2 h.2)]
      go_enter Tryd.func32, Tryd.ntmps32
      go_wp2_with fail
      go_ret
      exact ⟨rfl, rfl⟩
  · have d1 : decide ((48 : Int) ≤ (c : Int)) = false := decide_eq_false (by omega)
    have d2 : decide (48 ≤ c) = false := decide_eq_false h1
    rw [decide_eq_false (show ¬ (48 ≤ c ∧ c ≤ 57) from fun h => h1 h.1)]
    go_enter Tryd.func32, Tryd.ntmps32
    go_wp2_with fail
    go_ret
    exact ⟨rfl, rfl⟩

/-- Does one of a set's bytes stand there? -/
def hitC (cs l : List Nat) (i : Nat) : Bool := decide (i < l.length) && (firstAt cs (l.getD i 0)).isSome
/-- The place's block, behind a try. -/
def OneP (g i : Nat) (b : Bool) (w w' : World) : Prop := w' = if b = true then w.setCell ⟨g, 0, none⟩ (.int .i64 ((i + 1 : Nat) : Int)) else w
structure RS (w : World) (gA gS : Nat) (s : ByteArray) (i : Nat) : Prop where
  a : Whole w gA 3 #[.int .i64 (i : Int)]
  s : Whole w gS 9 #[.string s]

set_option maxHeartbeats 4000000 in
theorem one_any (st s : ByteArray) (i gA gS : Nat) (w : World) (hi : i ≤ s.size) (hs : s.size ≤ 1000000) (h : RS w gA gS s i) :
    Calls Tryd.prog 42 #[.string st, .pointer (some ⟨gA, 0, none⟩), .pointer (some ⟨gS, 0, none⟩)] w fun e w' => e = .returned (.bool (hitC (bs st) (bs s) i)) ∧ OneP gA i (hitC (bs st) (bs s) i) w w' := by
  have c0 : w.cell? ⟨gA, 0, none⟩ = some (.int .i64 (i : Int)) := h.a.cell 0
  have c1 : w.cell? ⟨gS, 0, none⟩ = some (.string s) := h.s.cell 0
  have f0 : w.frozen? ⟨gA, 0, none⟩ = false := h.a.frozen 0
  clear h
  by_cases hlt : i < s.size
  · have hne : ((i : Int) == (s.size : Int)) = false := beq_eq_false_iff_ne.mpr (by omega)
    have hk0 : (0 : Int) ≤ (i : Int) := by omega
    have hk1 : (i : Int) < (s.size : Int) := by omega
    obtain ⟨c, hc⟩ : ∃ c, (s[i]'hlt).toNat = c := ⟨_, rfl⟩
    have hcb : (bs s).getD i 0 = c := by rw [← bs_get s i hlt]; exact hc
    have hc8 : c < 256 := by rw [← hcb]; exact getD_lt (bs_lt s) i
    have HI := Lib.hid fun W => indexByte_any st c hc8 W
    have hh : hitC (bs st) (bs s) i = (firstAt (bs st) c).isSome := by unfold hitC; rw [hcb, decide_eq_true (by rw [bs_length]; exact hlt)]; rfl
    rw [hh]
    clear hh hcb
    cases hf : firstAt (bs st) c with
    | none =>
      rw [hf] at HI
      have HI : Hid (∀ W, Calls Tryd.prog 43 #[.string st, .int .u8 (c : Int)] W fun e w' => e = .returned (.int .i64 (-1)) ∧ W = w') := HI.out
      clear hf
      go_enter Tryd.func42, Tryd.ntmps42
      go_wp2_with fail
      refine (HI.out _).mono ?_
      rintro e X ⟨rfl, rfl⟩
      go_wp2_with fail
      go_ret
      exact ⟨rfl, rfl⟩
    | some n =>
      rw [hf] at HI
      have HI : Hid (∀ W, Calls Tryd.prog 43 #[.string st, .int .u8 (c : Int)] W fun e w' => e = .returned (.int .i64 (n : Int)) ∧ W = w') := HI.out
      have hn : decide ((n : Int) < 0) = false := decide_eq_false (by omega)
      clear hf
      go_enter Tryd.func42, Tryd.ntmps42
      go_wp2_with fail
      refine (HI.out _).mono ?_
      rintro e X ⟨rfl, rfl⟩
      go_wp2_with fail
      go_ret
      exact ⟨rfl, by show _ = _; rfl⟩
  · obtain rfl : i = s.size := by omega
    have hh : hitC (bs st) (bs s) s.size = false := by unfold hitC; rw [decide_eq_false (by rw [bs_length]; omega)]; rfl
    rw [hh]
    have hne : ((s.size : Int) == (s.size : Int)) = true := by simp
    go_enter Tryd.func42, Tryd.ntmps42
    go_wp2_with fail
    go_ret
    exact ⟨rfl, rfl⟩

def posA (g : Nat) (X : World) : Nat := match X.cell? ⟨g, 0, none⟩ with | some (.int _ n) => n.toNat | _ => 0
theorem RS.pos {w : World} {gA gS i : Nat} {s : ByteArray} (h : RS w gA gS s i) : posA gA w = i := by
  have := h.a.cell 0
  unfold posA
  rw [this]
  rfl
theorem RS.set {w : World} {gA gS i : Nat} {s : ByteArray} (h : RS w gA gS s i) (hn : gA ≠ gS) (k : Nat) : RS (w.setCell ⟨gA, 0, none⟩ (.int .i64 (k : Int))) gA gS s k ∧ Only (fun b => b = gA) w (w.setCell ⟨gA, 0, none⟩ (.int .i64 (k : Int))) :=
  ⟨⟨h.a.set 0 _, h.s.far (p := ⟨gA, 0, none⟩) (fun e => hn e.symm) _⟩, Only.setCell (S := fun b => b = gA) (Only.refl _ _) (p := ⟨gA, 0, none⟩) (fun _ => rfl) _⟩
theorem OneP.rs {w w' : World} {gA gS i : Nat} {s : ByteArray} {b : Bool} (h : RS w gA gS s i) (hn : gA ≠ gS) (hp : OneP gA i b w w') : RS w' gA gS s (if b = true then i + 1 else i) ∧ Only (fun b => b = gA) w w' := by
  unfold OneP at hp
  subst hp
  cases b
  · exact ⟨h, Only.refl _ _⟩
  · exact RS.set h hn (i + 1)
def DigP (gA gS : Nat) (s : ByteArray) (i j : Nat) (w : World) (e : Ending) (w' : World) : Prop := e = .returned (.string (strOf (seg (bs s) i j))) ∧ RS w' gA gS s j ∧ Only (fun b => b = gA) w w'

set_option maxHeartbeats 8000000 in
theorem digits_any (s : ByteArray) (i gA gS : Nat) (w : World) (hi : i ≤ s.size) (hs : s.size ≤ 1000000) (hn : gA ≠ gS) (h : RS w gA gS s i) :
    Calls Tryd.prog 44 #[.pointer (some ⟨gA, 0, none⟩), .pointer (some ⟨gS, 0, none⟩)] w (DigP gA gS s i (dEnd (bs s) i) w) := by
  have HD := Lib.hid digit_any
  obtain ⟨E, hE⟩ : ∃ E, E = dEnd (bs s) i := ⟨_, rfl⟩
  rw [← hE]
  have HE := Lib.hid hE
  have HR := Lib.hid h
  have Hn := Lib.hid hn
  have c0 : w.cell? ⟨gA, 0, none⟩ = some (.int .i64 (i : Int)) := h.a.cell 0
  clear h hE hn
  go_enter Tryd.func44, Tryd.ntmps44
  go_wp2_with fail
  clear c0
  obtain ⟨w0, rfl⟩ : ∃ w0, w0 = w := ⟨_, rfl⟩
  go_loopw [] (fun X => ∃ k : Nat, i ≤ k ∧ k ≤ s.size ∧ Hid (RS X gA gS s k) ∧ Hid (Only (fun b => b = gA) w0 X) ∧ Hid (dEnd (bs s) k = E)) (fun X => s.size - posA gA X)
  case atStart => exact ⟨i, Nat.le_refl _, hi, HR, Only.refl _ _, HE.out.symm⟩
  case round =>
    obtain ⟨k, hik, hks, hP, hO, hF⟩ := hrel
    have c0 : wr.cell? ⟨gA, 0, none⟩ = some (.int .i64 (k : Int)) := hP.out.a.cell 0
    have c1 : wr.cell? ⟨gS, 0, none⟩ = some (.string s) := hP.out.s.cell 0
    have f0 : wr.frozen? ⟨gA, 0, none⟩ = false := hP.out.a.frozen 0
    by_cases hlt : k < s.size
    · have d1 : decide ((k : Int) < (s.size : Int)) = true := decide_eq_true (by omega)
      have hk0 : (0 : Int) ≤ (k : Int) := by omega
      have hk1 : (k : Int) < (s.size : Int) := by omega
      obtain ⟨c, hc⟩ : ∃ c, (s[k]'hlt).toNat = c := ⟨_, rfl⟩
      have hcb : (bs s).getD k 0 = c := by rw [← bs_get s k hlt]; exact hc
      have HCb := Lib.hid hcb
      have Hkl : Hid (k < (bs s).length) := by show _ < _; rw [bs_length]; exact hlt
      clear hcb
      cases hd : isD c with
      | true =>
        have hst := Lib.hid (RS.set hP.out Hn.out (k + 1))
        have hF2 : Hid (dEnd (bs s) (k + 1) = E) := by show _ = _; rw [← dEnd_step Hkl.out (by rw [HCb.out]; exact hd)]; exact hF.out
        have HDc : Hid (∀ W, Calls Tryd.prog 32 #[.int .u8 (c : Int)] W fun e w' => e = .returned (.bool true) ∧ W = w') := by intro W; have := HD.out c W; rw [hd] at this; exact this
        have hpos : Hid (posA gA wr = k) := RS.pos hP.out
        clear hd hF
        go_wp2_with fail
        refine (HDc.out _).mono ?_
        rintro e X ⟨rfl, rfl⟩
        go_wp2_with fail
        go_roundw
        case rel => exact ⟨k + 1, by omega, by omega, hst.out.1, hO.out.trans hst.out.2 (fun _ _ h => h), hF2⟩
        case measure =>
          have e1 := RS.pos hst.out.1
          have e2 := RS.pos hP.out
          first | (rw [e2]; show _ - posA gA (wr.setCell ⟨gA, 0, none⟩ (.int .i64 ((k + 1 : Nat) : Int))) < _; rw [e1]; omega) | trace_state
      | false =>
        have hF2 : Hid (k = E) := by show _ = _; rw [← hF.out, dEnd_stop (fun _ => by rw [HCb.out]; exact hd)]
        have HDc : Hid (∀ W, Calls Tryd.prog 32 #[.int .u8 (c : Int)] W fun e w' => e = .returned (.bool false) ∧ W = w') := by intro W; have := HD.out c W; rw [hd] at this; exact this
        have HS : Hid (s.extract i k = strOf (((bs s).drop i).take (k - i))) := ext_bs s i k
        have hik2 : (i : Int) ≤ (k : Int) := by omega
        clear hd hF
        go_wp2_with fail
        refine (HDc.out _).mono ?_
        rintro e X ⟨rfl, rfl⟩
        go_wp2_with fail
        go_ret
        rw [← hF2.out]
        exact ⟨by rw [HS.out]; rfl, hP.out, hO.out⟩
    · obtain rfl : k = s.size := by omega
      have hF2 : Hid (s.size = E) := by show _ = _; rw [← hF.out, dEnd_stop (fun h => by rw [bs_length] at h; omega)]
      have HS : Hid (s.extract i s.size = strOf (((bs s).drop i).take (s.size - i))) := ext_bs s i s.size
      clear hF
      go_wp2_with fail
      go_ret
      rw [← hF2.out]
      exact ⟨by rw [HS.out]; rfl, hP.out, hO.out⟩

set_option maxHeartbeats 8000000 in
theorem exponent_any (d : ByteArray) (neg : Bool) (w : World) (hd : ∀ x ∈ bs d, isD x = true) (hs : d.size ≤ 1000000) :
    Calls Tryd.prog 45 #[.string d, .bool neg] w fun e w' => e = .returned (.int .i64 (sgn neg (capC 0 (bs d)))) ∧ w = w' := by
  obtain ⟨R, hR⟩ : ∃ R, R = capC 0 (bs d) := ⟨_, rfl⟩
  have hRl : R ≤ 1099511627776 := by rw [hR]; exact capM_le farE _ _ (Nat.zero_le _)
  rw [← hR]
  obtain ⟨M, hM⟩ : ∃ M, M = farE := ⟨_, rfl⟩
  have hR2 : R = capM M 0 (bs d) := by rw [hM]; exact hR
  clear hR
  have HM : Hid (M = 1099511627776) := hM
  have HR := Lib.hid hR2
  have HD := Lib.hid hd
  clear hR2 hd hM
  go_enter Tryd.func45, Tryd.ntmps45
  go_wp2_with fail
  obtain ⟨w0, rfl⟩ : ∃ w0, w0 = w := ⟨_, rfl⟩
  go_loopw [5, 6, 9] (fun x5 x6 x9 X => ∃ k n : Nat, k ≤ d.size ∧ x5 = .int .i64 (n : Int) ∧ x9 = .int .i64 (k : Int) ∧ Hid (n ≤ 1099511627776) ∧ Hid (capM M n ((bs d).drop k) = R) ∧ w0 = X) (fun _ _ x9 _ => d.size - (intOf x9).toNat)
  case atStart => exact ⟨0, 0, Nat.zero_le _, rfl, rfl, Nat.zero_le _, HR.out.symm, rfl⟩
  case round =>
    obtain ⟨k, n, hk, rfl, rfl, hn, hF, rfl⟩ := hrel
    have Hn := hn.out
    by_cases hlt : k < d.size
    · have hk0 : (0 : Int) ≤ (k : Int) := by omega
      have hk1 : (k : Int) < (d.size : Int) := by omega
      obtain ⟨c, hc⟩ : ∃ c, (d[k]'hlt).toNat = c := ⟨_, rfl⟩
      have hcb : (bs d).getD k 0 = c := by rw [← bs_get d k hlt]; exact hc
      have hkl : k < (bs d).length := by rw [bs_length]; exact hlt
      have hdr := drop_head hkl
      rw [hcb] at hdr
      have hcd : isD c = true := by
        rw [← hcb, List.getD_eq_getElem?_getD, List.getElem?_eq_getElem hkl]
        exact HD.out _ (List.getElem_mem hkl)
      have hcr : 48 ≤ c ∧ c ≤ 57 := by unfold isD at hcd; exact of_decide_eq_true hcd
      have hF2 : Hid (capM M (stepM M n c) ((bs d).drop (k + 1)) = R) := by show _ = _; rw [← capM_cons, ← hdr]; exact hF.out
      have hu : IntKind.u8.wrap ((c : Int) - 48) = ((c - 48 : Nat) : Int) := by rw [IntWalk.u8_in _ ⟨by omega, by omega⟩]; omega
      obtain ⟨q, hq⟩ : ∃ q, q = c - 48 := ⟨_, rfl⟩
      have hsc := stepM_cases M n c
      obtain ⟨S, hS⟩ : ∃ S, S = stepM M n c := ⟨_, rfl⟩
      rw [← hS, ← hq] at hsc
      rw [← hS] at hF2
      rw [HM.out] at hsc
      have hSl : S ≤ 1099511627776 := by omega
      rw [← hq] at hu
      have Hsc := Lib.hid hsc
      have hq9 : q ≤ 9 := by omega
      clear hcb hkl hdr hcd hcr hF hq hsc hS
      go_wp2_with fail
      have em : (min 1099511627776 (10 * (n : Int) + (q : Int))) = (S : Int) := by have := Hsc.out; omega
      exact ⟨⟨k + 1, S, by omega, by rw [em], by go_num, hSl, hF2, trivial⟩, by simp [intOf]; omega⟩
    · obtain rfl : k = d.size := by omega
      have e : n = R := by have := hF.out; rw [List.drop_eq_nil_of_le (by rw [bs_length]; omega)] at this; exact this
      subst e
      cases neg
      · go_wp2_with fail
        go_ret
        exact ⟨rfl, rfl⟩
      · go_wp2_with fail
        go_ret
        exact ⟨rfl, rfl⟩
end Go.Proofs.YtdbcklabinmgfaaDoor
