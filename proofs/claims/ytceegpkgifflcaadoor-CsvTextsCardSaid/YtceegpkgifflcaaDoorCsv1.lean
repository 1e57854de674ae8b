/- Layer 18: the parser: lineEnd, bare. -/
import Derived.Test.YtceegpkgifflcaaDoorCsvStr
import Derived.Test.YtceegpkgifflcaaDoorCsvMath
import Derived.Test.YtceegpkgifflcaaDoorTx
import Derived.BigQuiet
import Derived.StillTailTactics
import Derived.Deep.QuietTactic
namespace Go.Proofs.YtceegpkgifflcaaDoor
open Go.RowKit
set_option linter.unusedVariables false
set_option maxRecDepth 100000

/-- The block g holds a parser of s that stands at i. -/
def PS (w : World) (g : Nat) (s : ByteArray) (i : Nat) : Prop := Whole w g 36 #[.string s, .int .i64 (i : Int)]
theorem PS.set {w : World} {g i : Nat} {s : ByteArray} (h : PS w g s i) (k : Nat) : PS (w.setCell ⟨g, 1, none⟩ (.int .i64 (k : Int))) g s k ∧ Only (fun b => b = g) w (w.setCell ⟨g, 1, none⟩ (.int .i64 (k : Int))) :=
  ⟨by unfold PS; simpa using Whole.set h 1 (.int .i64 (k : Int)), Only.setCell (S := fun b => b = g) (Only.refl _ _) (p := ⟨g, 1, none⟩) (fun _ => rfl) _⟩
theorem PS.step {w : World} {g i : Nat} {s : ByteArray} (h : PS w g s i) (n k : Nat) : PS ((w.drewN n).setCell ⟨g, 1, none⟩ (.int .i64 (k : Int))) g s k ∧ Only (fun b => b = g) w ((w.drewN n).setCell ⟨g, 1, none⟩ (.int .i64 (k : Int))) := by
  obtain ⟨h1, h2⟩ := PS.set (w := w.drewN n) h k
  exact ⟨h1, h2.os, h2.tape, h2.output, h2.size, h2.block⟩
theorem PS.below {w w' : World} {g i : Nat} {s : ByteArray} (h : PS w g s i) (hb : Below w.heap.size w w') : PS w' g s i := Whole.below h hb h.lt
theorem ext_drop (s : ByteArray) (i : Nat) : bs (s.extract i s.size) = (bs s).drop i := by
  rw [bs_ext, List.take_of_length_le (by rw [List.length_drop, bs_length]; omega)]
theorem hp_crlf (s : ByteArray) (i : Nat) : hasP (bs (s.extract i s.size)) (bs ⟨#[13, 10]⟩) = decide ((bs s).getD i 0 = 13 ∧ (bs s).getD (i + 1) 0 = 10) := by
  rw [ext_drop]; exact hasP_two (bs s) i 13 10 (by omega) (by omega)
theorem hp_lf (s : ByteArray) (i : Nat) : hasP (bs (s.extract i s.size)) (bs ⟨#[10]⟩) = decide ((bs s).getD i 0 = 10) := by
  rw [ext_drop]; exact hasP_one (bs s) i 10 (by omega)
theorem hp_quo (s : ByteArray) (i : Nat) : hasP (bs (s.extract i s.size)) (bs ⟨#[34]⟩) = decide ((bs s).getD i 0 = 34) := by
  rw [ext_drop]; exact hasP_one (bs s) i 34 (by omega)

theorem lineEnd_any (g i : Nat) (s : ByteArray) (w : World) (h : PS w g s i) (hi : i ≤ s.size) (hs : s.size ≤ 1000000) :
    Calls Tryd.prog 18 #[.pointer (some ⟨g, 0, none⟩)] w fun e w' => e = .returned (.int .i64 ((endA (bs s) i : Nat) : Int)) ∧ ∃ n, w' = w.drewN n := by
  have c0 : w.cell? ⟨g, 0, none⟩ = some (.string s) := h.cell 0
  have c1 : w.cell? ⟨g, 1, none⟩ = some (.int .i64 (i : Int)) := h.cell 1
  have H1 := Lib.hid fun W => hasPrefix_any (s.extract i s.size) ⟨#[13, 10]⟩ W
  have H2 := Lib.hid fun W => hasPrefix_any (s.extract i s.size) ⟨#[10]⟩ W
  rw [hp_crlf] at H1
  rw [hp_lf] at H2
  clear h
  unfold endA
  by_cases a : (bs s).getD i 0 = 13 ∧ (bs s).getD (i + 1) 0 = 10
  · rw [decide_eq_true a] at H1
    rw [if_neg (by omega), if_pos a]
    clear a
    go_enter Tryd.func18, Tryd.ntmps18
    go_wp2_with fail
    go_quiet (fail)
    go_wp2_with fail
    refine (H1.out _).mono ?_
    rintro e X ⟨rfl, rfl⟩
    go_wp2_with fail
    go_ret
    exact ⟨rfl, _, rfl⟩
  · rw [decide_eq_false a] at H1
    by_cases b : (bs s).getD i 0 = 10
    · rw [decide_eq_true b] at H2
      rw [if_pos b]
      clear a b
      go_enter Tryd.func18, Tryd.ntmps18
      go_wp2_with fail
      go_quiet (fail)
      go_wp2_with fail
      refine (H1.out _).mono ?_
      rintro e X ⟨rfl, rfl⟩
      go_wp2_with fail
      refine (H2.out _).mono ?_
      rintro e X ⟨rfl, rfl⟩
      go_wp2_with fail
      go_ret
      exact ⟨rfl, _, rfl⟩
    · rw [decide_eq_false b] at H2
      rw [if_neg b, if_neg a]
      clear a b
      go_enter Tryd.func18, Tryd.ntmps18
      go_wp2_with fail
      go_quiet (fail)
      go_wp2_with fail
      refine (H1.out _).mono ?_
      rintro e X ⟨rfl, rfl⟩
      go_wp2_with fail
      refine (H2.out _).mono ?_
      rintro e X ⟨rfl, rfl⟩
      go_wp2_with fail
      go_ret
      exact ⟨rfl, _, rfl⟩

/-- What reading a field leaves. -/
def FldPost (w : World) (g : Nat) (s : ByteArray) (F : List Nat × Nat × Int) (e : Ending) (w' : World) : Prop :=
  e = .returned (.tuple #[.string (strOf F.1), .int .i64 F.2.2]) ∧ PS w' g s F.2.1 ∧ Only (fun b => b = g) w w'
/-- Where the parser stands. -/
def posAt (g : Nat) (X : World) : Nat := match X.cell? ⟨g, 1, none⟩ with
  | some (.int _ z) => z.toNat
  | _ => 0
theorem PS.pos {X : World} {g i : Nat} {s : ByteArray} (h : PS X g s i) : posAt g X = i := by
  have c1 : X.cell? ⟨g, 1, none⟩ = some (.int .i64 (i : Int)) := h.cell 1
  unfold posAt
  rw [c1]
  simp
set_option maxHeartbeats 4000000 in
theorem bare_any (g i : Nat) (s : ByteArray) (w : World) (h : PS w g s i) (hi : i ≤ s.size) (hs : s.size ≤ 1000000) :
    Calls Tryd.prog 23 #[.pointer (some ⟨g, 0, none⟩)] w (FldPost w g s (bareE (bs s) ((bs s).length + 1) i [])) := by
  obtain ⟨R, hR⟩ : ∃ R, R = bareE (bs s) ((bs s).length + 1) i [] := ⟨_, rfl⟩
  rw [← hR]
  have c0 : w.cell? ⟨g, 0, none⟩ = some (.string s) := h.cell 0
  have c1 : w.cell? ⟨g, 1, none⟩ = some (.int .i64 (i : Int)) := h.cell 1
  have HL := Lib.hid fun k W hP hk => lineEnd_any g k s W hP hk hs
  have HC := Lib.hid fun k W (hk : k ≤ s.size) (hik : i ≤ k) => clone_any (s.extract i k) W (by rw [ext_size s i k hik hk]; omega)
  have Hh := Lib.hid h
  have HR := Lib.hid hR
  have hlen := bs_length s
  have Hlen := Lib.hid hlen
  clear h hR hlen
  go_enter Tryd.func23, Tryd.ntmps23
  go_wp2_with fail
  go_loopw [] (fun X => ∃ (k f : Nat), i ≤ k ∧ k ≤ s.size ∧ Hid (PS X g s k) ∧ Hid (Only (fun b => b = g) w X) ∧ Hid (bareE (bs s) f k (((bs s).drop i).take (k - i)) = R ∧ (bs s).length - k < f)) (fun X => s.size - posAt g X)
  case atStart => exact ⟨i, (bs s).length + 1, Nat.le_refl _, hi, Hh.out, Only.refl _ _, by simp [HR.out], by omega⟩
  case round =>
    obtain ⟨k, f, hik, hks, hP, hO, hF⟩ := hrel
    by_cases hlt : k < s.size
    · have d1 : decide ((k : Int) < (s.size : Int)) = true := decide_eq_true (by omega)
      have c0 : wr.cell? ⟨g, 0, none⟩ = some (.string s) := hP.out.cell 0
      have c1 : wr.cell? ⟨g, 1, none⟩ = some (.int .i64 (k : Int)) := hP.out.cell 1
      have f1 : wr.frozen? ⟨g, 1, none⟩ = false := hP.out.frozen 1
      have hk0 : (0 : Int) ≤ (k : Int) := by omega
      have hk1 : (k : Int) < (s.size : Int) := by omega
      obtain ⟨c, hc⟩ : ∃ c, (s[k]'hlt).toNat = c := ⟨_, rfl⟩
      have hcb : (bs s).getD k 0 = c := by rw [← bs_get s k hlt]; exact hc
      have hc8 : c < 256 := by rw [← hcb]; exact getD_lt (bs_lt s) k
      obtain ⟨f, rfl⟩ : ∃ f', f = f' + 1 := ⟨f - 1, by have := hF.out.2; have := Hlen.out; omega⟩
      obtain ⟨E, hE⟩ : ∃ E, E = endA (bs s) k := ⟨_, rfl⟩
      have HLk := Lib.hid fun W (h : PS W g s k) => HL.out k W h hks
      rw [← hE] at HLk
      have HE := Lib.hid hE
      have HCb := Lib.hid hcb
      clear hE hcb
      have hover : ∀ x, overA (bs s) k → x = strOf R.1 ∧ (0 : Int) = R.2.2 ∧ k = R.2.1 → True := fun _ _ _ => trivial
      have HOv : Hid (overA (bs s) k → R = (((bs s).drop i).take (k - i), k, 0)) := fun h => by rw [← hF.out.1, bareE_over h]
      have HBd : Hid (¬ overA (bs s) k → (c = 34 ∨ c = 13) → R = ([], k, 3)) := fun h h1 => by rw [← hF.out.1, bareE_bad h (by rw [HCb.out]; exact h1)]
      have HMo : Hid (¬ overA (bs s) k → ¬ (c = 34 ∨ c = 13) → bareE (bs s) f (k + 1) (((bs s).drop i).take (k + 1 - i)) = R) := fun h h1 => by
        rw [take_more hik (by rw [Hlen.out]; exact hlt), ← bareE_more h (by rw [HCb.out]; exact h1)]; exact hF.out.1
      have HS : Hid (s.extract i k = strOf (((bs s).drop i).take (k - i))) := ext_bs s i k
      have Hf2 := Lib.hid hF.out.2
      have HCl := Lib.hid fun W => HC.out k W hks hik
      clear hF hover
      rcases (show (c = 13 ∧ 0 < E) ∨ (c = 13 ∧ E = 0) ∨ c = 44 ∨ c = 10 ∨ c = 34 ∨ (c ≠ 13 ∧ c ≠ 44 ∧ c ≠ 10 ∧ c ≠ 34) by omega) with hcc | hcc | hcc | hcc | hcc | hcc
      · obtain ⟨rfl, hE0⟩ := hcc
        have hR : R = (((bs s).drop i).take (k - i), k, 0) := HOv.out (by have := HCb.out; have := HE.out; unfold overA; omega)
        subst hR
        clear HOv HBd HMo
        go_wp2_with fail
        go_quiet (fail)
        go_wp2_with fail
        go_quiet (fail)
        go_wp2_with fail
        refine (HLk.out _ (by exact hP.out)).mono ?_
        rintro e X ⟨rfl, n, rfl⟩
        have d2 : ((E : Int) == 0) = false := beq_eq_false_iff_ne.mpr (by omega)
        go_wp2_with fail
        go_region_held3 (fun W => W.cell? ⟨g, 0, none⟩ = some (.string s) ∧ W.cell? ⟨g, 1, none⟩ = some (.int .i64 (k : Int)))
          (first | exact ⟨c0, c1⟩ | exact ⟨(PS.below (by exact hP.out) hb).cell 0, (PS.below (by exact hP.out) hb).cell 1⟩)
          (first | (go_at_call 36; refine (HCl.out _).mono ?_; rintro e X ⟨rfl, hb⟩))
        go_wp2_with fail
        go_ret2
        exact ⟨by rw [HS.out]; rfl, PS.below (by exact hP.out) hb, (hO.out.drewN _).trans (Only.of_below hb _) (fun b _ h => h)⟩
      · obtain ⟨rfl, rfl⟩ := hcc
        have hR : R = ([], k, 3) := HBd.out (fun h => by unfold overA at h; rw [HCb.out, ← HE.out, Hlen.out] at h; omega) (.inr rfl)
        subst hR
        have HP := Lib.hid (PS.set hP.out k)
        clear HOv HBd HMo
        go_wp2_with fail
        go_quiet (fail)
        go_wp2_with fail
        go_quiet (fail)
        go_wp2_with fail
        refine (HLk.out _ (by exact hP.out)).mono ?_
        rintro e X ⟨rfl, n, rfl⟩
        go_wp2_with fail
        go_ret2
        exact ⟨rfl, hP.out, hO.out.drewN _⟩
      · subst hcc
        have hR : R = (((bs s).drop i).take (k - i), k, 0) := HOv.out (by have := HCb.out; have := HE.out; unfold overA; omega)
        subst hR
        clear HOv HBd HMo
        go_wp2_with fail
        go_quiet (fail)
        go_wp2_with fail
        go_quiet (fail)
        go_wp2_with fail
        go_region_held3 (fun W => W.cell? ⟨g, 0, none⟩ = some (.string s) ∧ W.cell? ⟨g, 1, none⟩ = some (.int .i64 (k : Int)))
          (first | exact ⟨c0, c1⟩ | exact ⟨(PS.below (by exact hP.out) hb).cell 0, (PS.below (by exact hP.out) hb).cell 1⟩)
          (first | (go_at_call 36; refine (HCl.out _).mono ?_; rintro e X ⟨rfl, hb⟩))
        go_wp2_with fail
        go_ret2
        exact ⟨by rw [HS.out]; rfl, PS.below (by exact hP.out) hb, (hO.out.drewN _).trans (Only.of_below hb _) (fun b _ h => h)⟩
      · subst hcc
        have hE1 : E = 1 := by rw [HE.out]; unfold endA; rw [HCb.out]; rfl
        have hR : R = (((bs s).drop i).take (k - i), k, 0) := HOv.out (by have := HCb.out; have := HE.out; unfold overA; omega)
        subst hR
        clear HOv HBd HMo
        go_wp2_with fail
        go_quiet (fail)
        go_wp2_with fail
        go_quiet (fail)
        go_wp2_with fail
        go_region_held3 (fun W => W.cell? ⟨g, 0, none⟩ = some (.string s) ∧ W.cell? ⟨g, 1, none⟩ = some (.int .i64 (k : Int)))
          (first | exact ⟨c0, c1⟩ | exact ⟨(PS.below (by exact hP.out) hb).cell 0, (PS.below (by exact hP.out) hb).cell 1⟩)
          (first | (go_at_call 36; refine (HCl.out _).mono ?_; rintro e X ⟨rfl, hb⟩))
        go_wp2_with fail
        go_ret2
        exact ⟨by rw [HS.out]; rfl, PS.below (by exact hP.out) hb, (hO.out.drewN _).trans (Only.of_below hb _) (fun b _ h => h)⟩
      · subst hcc
        have hR : R = ([], k, 3) := HBd.out (fun h => by unfold overA at h; rw [HCb.out, Hlen.out] at h; have : endA (bs s) k = 0 := by unfold endA; rw [HCb.out]; rfl
                                                         omega) (.inl rfl)
        subst hR
        clear HOv HBd HMo
        go_wp2_with fail
        go_quiet (fail)
        go_wp2_with fail
        go_quiet (fail)
        go_wp2_with fail
        go_ret2
        exact ⟨rfl, hP.out, hO.out.drewN _⟩
      · obtain ⟨z1, z2, z3, z4⟩ := hcc
        have HN := Lib.hid (HMo.out (fun h => by unfold overA at h; rw [HCb.out, Hlen.out] at h; have : endA (bs s) k = 0 := by unfold endA; rw [HCb.out, if_neg z3, if_neg (fun hx => z1 hx.1)]
                                                 omega) (by omega))
        have e1 : ((c : Int) == 13) = false := beq_eq_false_iff_ne.mpr (by omega)
        have e2 : ((c : Int) == 44) = false := beq_eq_false_iff_ne.mpr (by omega)
        have e3 : ((c : Int) == 10) = false := beq_eq_false_iff_ne.mpr (by omega)
        have e4 : ((c : Int) == 34) = false := beq_eq_false_iff_ne.mpr (by omega)
        clear HOv HBd HMo z1 z2 z3 z4
        go_wp2_with fail
        go_quiet (fail)
        go_wp2_with fail
        go_quiet (fail)
        go_wp2_with fail
        go_roundw
        case rel => exact ⟨k + 1, f, by omega, by omega, (PS.step hP.out _ (k + 1)).1, hO.out.trans (PS.step hP.out _ (k + 1)).2 (fun b _ h => h), HN.out, by have h1 := Hf2.out; have h2 := Hlen.out; omega⟩
        case measure => rw [hP.out.pos]; have hq : ∀ Y, PS Y g s (k + 1) → s.size - posAt g Y < s.size - k := fun Y hY => by rw [hY.pos]; omega
                        exact hq _ (PS.step hP.out _ (k + 1)).1
    · obtain rfl : k = s.size := by omega
      have d1 : decide ((s.size : Int) < (s.size : Int)) = false := decide_eq_false (by omega)
      have c0 : wr.cell? ⟨g, 0, none⟩ = some (.string s) := hP.out.cell 0
      have c1 : wr.cell? ⟨g, 1, none⟩ = some (.int .i64 (s.size : Int)) := hP.out.cell 1
      have hR : R = (((bs s).drop i).take (s.size - i), s.size, 0) := by
        obtain ⟨f, rfl⟩ : ∃ f', f = f' + 1 := ⟨f - 1, by have := hF.out.2; omega⟩
        rw [← hF.out.1, bareE_over (.inl (by have := Hlen.out; omega))]
      subst hR
      have HS : Hid (s.extract i s.size = strOf (((bs s).drop i).take (s.size - i))) := ext_bs s i s.size
      have HCl := Lib.hid fun W => HC.out s.size W (Nat.le_refl _) hik
      clear hF
      go_wp2_with fail
      go_quiet (fail)
      go_wp2_with fail
      refine (HCl.out _).mono ?_
      rintro e X ⟨rfl, hb⟩
      have HB := Lib.hid hb
      clear hb
      go_wp2_with fail
      go_ret2
      exact ⟨by rw [HS.out]; rfl, PS.below (by exact hP.out) HB.out, (hO.out.drewN _).trans (Only.of_below HB.out _) (fun b _ h => h)⟩
end Go.Proofs.YtceegpkgifflcaaDoor
