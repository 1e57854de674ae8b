/- The reference's fractions of big numbers: Over. -/
import Derived.Test.YtcfkhgpcamfecaaBox
import Derived.Deep.DeepCutAuto
namespace Go.Proofs.Ytcfkhgpcamfecaa
open Go.RowKit Big
set_option linter.unusedVariables false
set_option maxRecDepth 100000

section
variable {w W : World} {g : Nat} {a b c d p q r s : Value} {n1 d1 n2 d2 : Int} {k1 k2 : Nat}
theorem ThreeR.alloc_ (H : ThreeR w W g a b c d p q r s n1 d1 n2 d2 k1 k2) (o : Obj) : ThreeR w (W.alloc o) g a b c d p q r s n1 d1 n2 d2 k1 k2 := H.keep ((Below.refl _ _).alloc (Nat.le_refl _) o)
theorem ThreeR.set2 {k : Nat} {t : TypeId} {b0 u : Bool} {a0 : Option Addr} {n0 c0 : Nat} {v : Value} (H : ThreeR w W g a b c d p q r s n1 d1 n2 d2 k1 k2) (hW : Whole W k t #[.bool b0, .slice a0 n0 c0]) (hk : g + 1 + 1 < k) :
    ThreeR w ((W.setCell ⟨k, 0, none⟩ (.bool u)).setCell ⟨k, 1, none⟩ v) g a b c d p q r s n1 d1 n2 d2 k1 k2 := by
  obtain ⟨⟨A, B, ⟨C1, C2, C3, C4⟩, D⟩, R, hg⟩ := H
  have hw : w.heap.size ≤ k := by omega
  exact ⟨⟨A.far2 (by omega), B.far2 (by omega), ⟨C1.set2 hW, C2.set2 hW, C3.set2 hW, C4.set2 hW⟩, (D.setCell hw _).setCell hw _⟩, R.far2 (by omega), hg⟩
theorem ThreeR.cells8 (H : ThreeR w W g a b c d p q r s n1 d1 n2 d2 k1 k2) :
    W.cell? ⟨g, 0, none⟩ = some a ∧ W.cell? ⟨g, 1, none⟩ = some b ∧ W.cell? ⟨g, 2, none⟩ = some c ∧ W.cell? ⟨g, 3, none⟩ = some d ∧
    W.cell? ⟨g + 1, 0, none⟩ = some p ∧ W.cell? ⟨g + 1, 1, none⟩ = some q ∧ W.cell? ⟨g + 1, 2, none⟩ = some r ∧ W.cell? ⟨g + 1, 3, none⟩ = some s := H.1.cells
/-- The boxes of Over, and two numbers more. -/
def Over4 (w W : World) (g : Nat) (a b c d p q r s : Value) (n1 d1 n2 d2 : Int) (k1 k2 : Nat) (x y : Value) (N D : Int) : Prop :=
  ThreeR w W g a b c d p q r s n1 d1 n2 d2 k1 k2 ∧ IsBig W W.heap.size x N (k1 + k2) ∧ IsBig W W.heap.size y D (k1 + k2)
variable {x y : Value} {N D : Int}
theorem Over4.three (H : Over4 w W g a b c d p q r s n1 d1 n2 d2 k1 k2 x y N D) : ThreeR w W g a b c d p q r s n1 d1 n2 d2 k1 k2 := H.1
theorem Over4.alloc_ (H : Over4 w W g a b c d p q r s n1 d1 n2 d2 k1 k2 x y N D) (o : Obj) : Over4 w (W.alloc o) g a b c d p q r s n1 d1 n2 d2 k1 k2 x y N D := ⟨H.1.alloc_ o, H.2.1.alloc_ o, H.2.2.alloc_ o⟩
theorem Over4.set2 {k : Nat} {t : TypeId} {b0 u : Bool} {a0 : Option Addr} {n0 c0 : Nat} {v : Value} (H : Over4 w W g a b c d p q r s n1 d1 n2 d2 k1 k2 x y N D) (hW : Whole W k t #[.bool b0, .slice a0 n0 c0]) (hk : g + 1 + 1 < k) :
    Over4 w ((W.setCell ⟨k, 0, none⟩ (.bool u)).setCell ⟨k, 1, none⟩ v) g a b c d p q r s n1 d1 n2 d2 k1 k2 x y N D := ⟨H.1.set2 hW hk, H.2.1.set2 hW, H.2.2.set2 hW⟩
end
def OverB (w W : World) (g : Nat) (s' t' : Value) (a b c d p q r s : Value) (n1 d1 n2 d2 : Int) (k1 k2 : Nat) (N D : Int) : Prop :=
  ∃ gl gh e1 a1 m1 c1 e2 a2 m2 c2, s' = .pointer (some ⟨gl, 0, none⟩) ∧ t' = .pointer (some ⟨gh, 0, none⟩) ∧ gl ≠ gh ∧ g + 1 + 1 < gl ∧ g + 1 + 1 < gh ∧
    Whole W gl 29 #[.bool e1, .slice a1 m1 c1] ∧ Whole W gh 29 #[.bool e2, .slice a2 m2 c2] ∧
    Over4 w W g a b c d p q r s n1 d1 n2 d2 k1 k2 (.agg #[.bool e1, .slice a1 m1 c1]) (.agg #[.bool e2, .slice a2 m2 c2]) N D
theorem OverB.put2 {w X : World} {g gl gh : Nat} {a b c d p q r s : Value} {n1 d1 n2 d2 : Int} {k1 k2 : Nat} {N D : Int} {e1 e2 f1 f2 : Bool} {a1 a2 b1 b2 : Option Addr} {m1 m2 c1 c2 i1 i2 j1 j2 : Nat}
    (H : ThreeR w X g a b c d p q r s n1 d1 n2 d2 k1 k2) (hl : Whole X gl 29 #[.bool e1, .slice a1 m1 c1]) (hh : Whole X gh 29 #[.bool e2, .slice a2 m2 c2])
    (hN : IsBig X X.heap.size (.agg #[.bool f1, .slice b1 i1 j1]) N (k1 + k2)) (hD : IsBig X X.heap.size (.agg #[.bool f2, .slice b2 i2 j2]) D (k1 + k2)) (hne : gl ≠ gh) (h1 : g + 1 + 1 < gl) (h2 : g + 1 + 1 < gh) :
    OverB w ((((X.setCell ⟨gl, 0, none⟩ (.bool f1)).setCell ⟨gl, 1, none⟩ (.slice b1 i1 j1)).setCell ⟨gh, 0, none⟩ (.bool f2)).setCell ⟨gh, 1, none⟩ (.slice b2 i2 j2)) g (.pointer (some ⟨gl, 0, none⟩)) (.pointer (some ⟨gh, 0, none⟩)) a b c d p q r s n1 d1 n2 d2 k1 k2 N D := by
  have hh' := hh.far2 (u := .bool f1) (v := .slice b1 i1 j1) hne.symm
  have hl' : Whole ((X.setCell ⟨gl, 0, none⟩ (.bool f1)).setCell ⟨gl, 1, none⟩ (.slice b1 i1 j1)) gl 29 #[.bool f1, .slice b1 i1 j1] := hl.put2
  exact ⟨gl, gh, f1, b1, i1, j1, f2, b2, i2, j2, rfl, rfl, hne, h1, h2, hl'.far2 hne, hh'.put2, (H.set2 hl h1).set2 hh' h2, (hN.set2 hl).set2 hh', (hD.set2 hl).set2 hh'⟩

set_option maxHeartbeats 8000000 in
theorem over_rat (v1 v2 : Value) (n1 d1 n2 d2 N D : Int) (k1 k2 : Nat) (w : World) (h1 : IsRat w w.heap.size v1 n1 d1 k1) (h2 : IsRat w w.heap.size v2 n2 d2 k2) (hk1 : k1 ≤ 300) (hk2 : k2 ≤ 300)
    (hneg : d1 * n2 < 0 → N = -(n1 * d2) ∧ D = -(d1 * n2)) (hpos : ¬ d1 * n2 < 0 → N = n1 * d2 ∧ D = d1 * n2) :
    Calls Try.prog 59 #[v1, v2] w (RatPost w N D (k1 + k2)) := by
  obtain ⟨a, b, c, d, rfl, h3, h4⟩ := h1
  obtain ⟨p, q, r, s, rfl, h5, h6⟩ := h2
  have hst := ThreeR.new w h3 h4 h5 h6
  obtain ⟨W0, hW0⟩ : ∃ W0, W0 = (((w.alloc (.cells #[a, b, c, d] 56)).alloc (.cells #[p, q, r, s] 56)).alloc (.cells #[.bool false, .slice none 0 0, .bool false, .slice none 0 0] 56)) := ⟨_, rfl⟩
  obtain ⟨g, hg⟩ : ∃ g, g = w.heap.size := ⟨_, rfl⟩
  have HW0 := Lib.hid hW0
  have Hg := Lib.hid hg
  have Hneg := Lib.hid hneg
  have Hpos := Lib.hid hpos
  clear hW0 hg h3 h4 h5 h6 hneg hpos
  go_enter Try.func59, Try.ntmps59
  go_wp2_with fail
  rw [← HW0.out, ← Hg.out] at hst ⊢
  have Hst := Lib.hid hst
  clear hst HW0
  obtain ⟨X, hX⟩ : ∃ X, X = W0 := ⟨_, rfl⟩
  rw [← hX] at Hst ⊢
  clear hX W0
  go_cut [5, 6] (fun s' t' W => OverB w W g s' t' a b c d p q r s n1 d1 n2 d2 k1 k2 (n1 * d2) (d1 * n2))
  case first =>
    have Hy0 := Hst
    have hcd := Hst.out.drew.cells8
    have hgd0 : g + 1 + 1 < X.heap.size := Hst.out.2.1.lt
    have hw0 : w.heap.size ≤ g := Hst.out.2.2
    have Hm1 := Lib.hid fun X W (hb : Below X.heap.size X W) (H : ThreeR w X g a b c d p q r s n1 d1 n2 d2 k1 k2) => mul_any _ _ _ _ _ _ W (H.keep hb).1.2.2.1.1 (H.keep hb).1.2.2.1.2.2.2 (by omega) (by omega)
    have Hm2 := Lib.hid fun X W (hb : Below X.heap.size X W) (H : ThreeR w X g a b c d p q r s n1 d1 n2 d2 k1 k2) => mul_any _ _ _ _ _ _ W (H.keep hb).1.2.2.1.2.1 (H.keep hb).1.2.2.1.2.2.1 (by omega) (by omega)
    go_region_held3 (fun W => W.cell? ⟨g, 0, none⟩ = some a ∧ W.cell? ⟨g, 1, none⟩ = some b ∧ W.cell? ⟨g, 2, none⟩ = some c ∧ W.cell? ⟨g, 3, none⟩ = some d ∧ W.cell? ⟨g + 1, 0, none⟩ = some p ∧ W.cell? ⟨g + 1, 1, none⟩ = some q ∧ W.cell? ⟨g + 1, 2, none⟩ = some r ∧ W.cell? ⟨g + 1, 3, none⟩ = some s)
      (first | (with_reducible exact hcd) | (with_reducible exact (Hy0.out.alloc_ _).drew.cells8) | (with_reducible exact ((Hy0.out.alloc_ _).alloc_ _).drew.cells8) | (with_reducible exact Hy1.out.cells8) | (with_reducible exact (Hy1.out.alloc_ _).cells8) | (with_reducible exact ((Hy1.out.alloc_ _).alloc_ _).cells8) | (with_reducible exact Hy2.out.cells8) | (with_reducible exact (Hy2.out.alloc_ _).cells8) | (with_reducible exact ((Hy2.out.alloc_ _).alloc_ _).cells8) | ((with_reducible refine ThreeR.cells8 (w := w) (n1 := n1) (d1 := d1) (n2 := n2) (d2 := d2) (k1 := k1) (k2 := k2) ?_); (repeat' (first | (with_reducible exact HD.out.three) | (with_reducible refine ThreeR.alloc_ ?_ _) | (with_reducible refine ThreeR.set2 (t := 29) (b0 := false) (a0 := none) (n0 := 0) (c0 := 0) ?_ ?_ ?_) | (with_reducible exact N1a.out) | (with_reducible exact N1b.out) | (with_reducible exact N2a.out) | (with_reducible exact N2b.out) | ((with_reducible refine Whole.newS ?_) <;> (first | rfl | (simp; done) | (simp [World.setCell]; done))) | (with_reducible refine Whole.alloc ?_ _) | (with_reducible refine Whole.put2 (a := .bool false) (b := .slice none 0 0) ?_) | (with_reducible refine Whole.far2 ?_ ?_) | omega))))
      (first
        | (go_at_call 13; (with_reducible refine (Hm1.out _ _ (by (first | exact (Below.refl _ _).drew | exact ((Below.refl _ _).alloc (Nat.le_refl _) _).drew | exact (((Below.refl _ _).alloc (Nat.le_refl _) _).alloc (by simp) _).drew)) Hy0.out).mono ?_); rintro e Y1 ⟨y1, rfl, hj1, hy1⟩; (have hb1 := Lib.hid (thru (X := X) (by (first | exact (Below.refl _ _).drew | exact ((Below.refl _ _).alloc (Nat.le_refl _) _).drew | exact (((Below.refl _ _).alloc (Nat.le_refl _) _).alloc (by simp) _).drew)) hy1)); (have Hy1 := Lib.hid (Hy0.out.keep hb1.out)); (have hs1 : X.heap.size ≤ Y1.heap.size := hb1.out.size); (first | ((have N1a := Lib.hid (two_kept (w := X) (ca := #[.bool false, .slice none 0 0]) (ta := 29) (cb := #[.bool false, .slice none 0 0]) (tb := 29) (undrew hy1)).1); (have N1b := Lib.hid (two_kept (w := X) (ca := #[.bool false, .slice none 0 0]) (ta := 29) (cb := #[.bool false, .slice none 0 0]) (tb := 29) (undrew hy1)).2.1); (have l1 : X.heap.size + 1 < Y1.heap.size := (two_kept (w := X) (ca := #[.bool false, .slice none 0 0]) (ta := 29) (cb := #[.bool false, .slice none 0 0]) (tb := 29) (undrew hy1)).2.2.2)) | ((have N1a := Lib.hid (one_kept (w := X) (ca := #[.bool false, .slice none 0 0]) (ta := 29) (undrew hy1)).1); (have l1 : X.heap.size < Y1.heap.size := (one_kept (w := X) (ca := #[.bool false, .slice none 0 0]) (ta := 29) (undrew hy1)).2.2)) | skip); clear hy1; (have HL := Lib.hid hj1); clear hj1)
        | (go_at_call 13; (with_reducible refine (Hm2.out _ _ (by (first | exact Below.refl _ _ | exact (Below.refl _ _).alloc (Nat.le_refl _) _ | exact ((Below.refl _ _).alloc (Nat.le_refl _) _).alloc (by simp) _)) Hy1.out).mono ?_); rintro e Y2 ⟨y2, rfl, hj2, hy2⟩; (have hb2 := Lib.hid (thru (X := Y1) (by (first | exact Below.refl _ _ | exact (Below.refl _ _).alloc (Nat.le_refl _) _ | exact ((Below.refl _ _).alloc (Nat.le_refl _) _).alloc (by simp) _)) hy2)); (have Hy2 := Lib.hid (Hy1.out.keep hb2.out)); (have hs2 : Y1.heap.size ≤ Y2.heap.size := hb2.out.size); (first | ((have N2a := Lib.hid (two_kept (w := Y1) (ca := #[.bool false, .slice none 0 0]) (ta := 29) (cb := #[.bool false, .slice none 0 0]) (tb := 29) hy2).1); (have N2b := Lib.hid (two_kept (w := Y1) (ca := #[.bool false, .slice none 0 0]) (ta := 29) (cb := #[.bool false, .slice none 0 0]) (tb := 29) hy2).2.1); (have l2 : Y1.heap.size + 1 < Y2.heap.size := (two_kept (w := Y1) (ca := #[.bool false, .slice none 0 0]) (ta := 29) (cb := #[.bool false, .slice none 0 0]) (tb := 29) hy2).2.2.2)) | ((have N2a := Lib.hid (one_kept (w := Y1) (ca := #[.bool false, .slice none 0 0]) (ta := 29) hy2).1); (have l2 : Y1.heap.size < Y2.heap.size := (one_kept (w := Y1) (ca := #[.bool false, .slice none 0 0]) (ta := 29) hy2).2.2)) | skip); (try (have N1a := Lib.hid (N1a.out.kp hb2.out))); (try (have N1b := Lib.hid (N1b.out.kp hb2.out))); clear hy2; (have HL2 := Lib.hid ((HL.out.keep hb2.out).more hb2.out.size (Nat.le_refl _))); obtain ⟨n5, a5, m5, c5, rfl⟩ := HL2.out.parts; obtain ⟨n6, a6, m6, c6, rfl⟩ := hj2.parts; (have HD := Lib.hid (show Over4 w Y2 g a b c d p q r s n1 d1 n2 d2 k1 k2 (.agg #[.bool n5, .slice a5 m5 c5]) (.agg #[.bool n6, .slice a6 m6 c6]) _ _ from ⟨Hy2.out, HL2.out, hj2⟩)) ; clear hj2; (try ((have k1a0 := (facts2 N1a.out).1); (have k1a1 := (facts2 N1a.out).2.1); (have k1a2 := (facts2 N1a.out).2.2.1); (have k1a3 := (facts2 N1a.out).2.2.2.1); (have k1a4 := (facts2 N1a.out).2.2.2.2))); (try ((have k1b0 := (facts2 N1b.out).1); (have k1b1 := (facts2 N1b.out).2.1); (have k1b2 := (facts2 N1b.out).2.2.1); (have k1b3 := (facts2 N1b.out).2.2.2.1); (have k1b4 := (facts2 N1b.out).2.2.2.2))); (try ((have k2a0 := (facts2 N2a.out).1); (have k2a1 := (facts2 N2a.out).2.1); (have k2a2 := (facts2 N2a.out).2.2.1); (have k2a3 := (facts2 N2a.out).2.2.2.1); (have k2a4 := (facts2 N2a.out).2.2.2.2))); (try ((have k2b0 := (facts2 N2b.out).1); (have k2b1 := (facts2 N2b.out).2.1); (have k2b2 := (facts2 N2b.out).2.2.1); (have k2b3 := (facts2 N2b.out).2.2.2.1); (have k2b4 := (facts2 N2b.out).2.2.2.2)))))
    all_goals
      go_wp2_with fail
      go_meet
      case rel =>
        refine ⟨_, _, n5, a5, m5, c5, n6, a6, m6, c6, rfl, rfl, ?_, ?_, ?_, ?_, ?_, ?_⟩
        all_goals (repeat' (first | (with_reducible exact HD.out) | (with_reducible refine Over4.alloc_ ?_ _) | (with_reducible refine Over4.set2 (t := 29) (b0 := false) (a0 := none) (n0 := 0) (c0 := 0) ?_ ?_ ?_) | (with_reducible exact N1a.out) | (with_reducible exact N1b.out) | (with_reducible exact N2a.out) | (with_reducible exact N2b.out) | ((with_reducible refine Whole.newS ?_) <;> (first | rfl | (simp; done) | (simp [World.setCell]; done))) | (with_reducible refine Whole.alloc ?_ _) | (with_reducible refine Whole.put2 (a := .bool false) (b := .slice none 0 0) ?_) | (with_reducible refine Whole.far2 ?_ ?_) | omega))
  case rest =>
    clear Hst
    obtain ⟨gl, gh, e1, a1, m1, c1, e2, a2, m2, c2, rfl, rfl, hne, hl1, hh1, hwl, hwh, hO⟩ := hcut
    obtain ⟨z0, z1, _⟩ := facts2 hwh
    have hsg := sign_any (.agg #[.bool e2, .slice a2 m2 c2]) (d1 * n2) (k1 + k2) wc hO.2.2
    obtain ⟨S, hS⟩ : ∃ S, S = signI (d1 * n2) := ⟨_, rfl⟩
    rw [← hS] at hsg
    have HS := Lib.hid hS
    have Hsg := Lib.hid hsg
    clear hS
    have HO := Lib.hid hO
    have HWL := Lib.hid hwl
    have HWH := Lib.hid hwh
    clear hsg hO hwl hwh
    go_wp2_with fail
    refine Hsg.out.mono ?_
    rintro e Y ⟨rfl, hb⟩
    have HT := Lib.hid (HO.out.1.keep hb)
    have HN := Lib.hid ((HO.out.2.1.keep hb).more hb.size (Nat.le_refl _))
    have HD := Lib.hid ((HO.out.2.2.keep hb).more hb.size (Nat.le_refl _))
    have HL := Lib.hid (HWL.out.kp hb)
    have HH := Lib.hid (HWH.out.kp hb)
    clear hb HO HWL HWH Hsg z0 z1
    go_upto_if 19 with (fail)
    go_cut [] (fun W => OverB w W g (.pointer (some ⟨gl, 0, none⟩)) (.pointer (some ⟨gh, 0, none⟩)) a b c d p q r s n1 d1 n2 d2 k1 k2 N D)
    case first =>
      by_cases hs : d1 * n2 < 0
      · have hs1 : S < 0 := by rw [HS.out]; unfold signI; split <;> (try split) <;> omega
        obtain ⟨eN, eD⟩ := Hneg.out hs
        have Hn1 := Lib.hid (neg_any _ (n1 * d2) (k1 + k2) Y.drew (HN.out.keep (Below.refl _ _).drew))
        have HT0 := Lib.hid HT.out.drew
        have HL0 := Lib.hid HL.out.drew
        have HH0 := Lib.hid HH.out.drew
        have HD0 := Lib.hid (HD.out.keep (Below.refl _ _).drew)
        obtain ⟨z0, z1, _⟩ := facts2 HL0.out
        obtain ⟨y0, y1, _⟩ := facts2 HH0.out
        have hne' : ¬ gh = gl := fun h => hne h.symm
        rw [← eN] at Hn1
        have HeD := Lib.hid eD
        clear hs eN eD
        go_wp2_with fail
        go_region_with (first
          | (go_at_call 24; (with_reducible refine Hn1.out.mono ?_); rintro e X1 ⟨u1, rfl, hi1, hx1⟩; (have HT1 := Lib.hid (HT0.out.keep hx1)); (have HL1 := Lib.hid (HL0.out.kp hx1)); (have HH1 := Lib.hid (HH0.out.kp hx1)); (have HJ1 := Lib.hid hi1); (have Hn2 := Lib.hid (neg_any _ (d1 * n2) (k1 + k2) X1 ((HD0.out.keep hx1).more hx1.size (Nat.le_refl _)))); obtain ⟨x0, x1, _⟩ := facts2 HL1.out; obtain ⟨w0, w1, _⟩ := facts2 HH1.out; clear hi1 hx1)
          | (go_at_call 24; (with_reducible refine Hn2.out.mono ?_); rintro e X2 ⟨u2, rfl, hi2, hx2⟩; (have HT2 := Lib.hid (HT1.out.keep hx2)); (have HL2 := Lib.hid (HL1.out.kp hx2)); (have HH2 := Lib.hid (HH1.out.kp hx2)); (have hi1 := (HJ1.out.keep hx2).more hx2.size (Nat.le_refl _)); obtain ⟨n5, a5, m5, c5, rfl⟩ := hi1.parts; obtain ⟨n6, a6, m6, c6, rfl⟩ := hi2.parts; (have HF := Lib.hid (OverB.put2 HT2.out HL2.out HH2.out hi1 hi2 hne hl1 hh1)); obtain ⟨v0, v1, v2, v3, _⟩ := facts2 HL2.out; obtain ⟨t0, t1, t2, t3, _⟩ := facts2 HH2.out; clear hi1 hi2 hx2))
        all_goals
          rw [← HeD.out] at HF
          go_wp2_with fail
          go_meet
          case rel => exact HF.out
      · have hs1 : ¬ S < 0 := by rw [HS.out]; unfold signI; split <;> (try split) <;> omega
        obtain ⟨eN, eD⟩ := Hpos.out (by omega)
        clear hs
        have HF := Lib.hid (show OverB w Y g (.pointer (some ⟨gl, 0, none⟩)) (.pointer (some ⟨gh, 0, none⟩)) a b c d p q r s n1 d1 n2 d2 k1 k2 N D from ⟨gl, gh, e1, a1, m1, c1, e2, a2, m2, c2, rfl, rfl, hne, hl1, hh1, HL.out, HH.out, HT.out, by rw [eN]; exact HN.out, by rw [eD]; exact HD.out⟩)
        clear eN eD
        go_wp2_with fail
        go_meet
        case rel => exact HF.out
    case rest =>
      clear HT HN HD HL HH Hneg Hpos
      obtain ⟨gl', gh', f1, b1, i1, j1, f2, b2, i2, j2, e3, e4, _, _, _, hwl, hwh, hO⟩ := hcut
      simp only [Value.pointer.injEq, Option.some.injEq, Addr.mk.injEq, and_true] at e3 e4
      subst e3 e4
      obtain ⟨z0, z1, _⟩ := facts2 hwl
      obtain ⟨y0, y1, _⟩ := facts2 hwh
      obtain ⟨r0, r1, r2, r3, f0, f1', f2', f3⟩ := hO.1.res
      have HF := Lib.hid (hO.1.fin hO.2.1 hO.2.2)
      clear hO hwl hwh
      go_wp2_with fail
      exact bodyPost_ret (results_cell_row rfl _ _ (g + 1 + 1) 56 _ (0, 0) _ rfl HF.out.2.2 Try.underlying56 rfl (by kernel_rfl)) rfl ⟨_, rfl, HF.out.2.1, HF.out.1.2.2.2⟩
end Go.Proofs.Ytcfkhgpcamfecaa
