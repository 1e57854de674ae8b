/- Layer 23's reference: Near. -/
import Derived.Test.YtcfkhgpcamfecaaRatMore
import Derived.Deep.DeepCutAuto
import Derived.Deep.RegionHeld3
namespace Go.Proofs.Ytcfkhgpcamfecaa
open Go.RowKit Big
set_option linter.unusedVariables false
set_option maxRecDepth 100000

theorem thru {X W Y : World} (h1 : Below X.heap.size X W) (h2 : Below W.heap.size W Y) : Below X.heap.size X Y := below_then h1 h2 h1.size
theorem undrew {W Y : World} (h : Below W.drew.heap.size W.drew Y) : Below W.heap.size W Y := below_then (Below.refl _ _).drew h (Nat.le_refl _)
theorem Whole.kp {W W' : World} {g : Nat} {t : TypeId} {cs : Array Value} (h : Whole W g t cs) (hb : Below W.heap.size W W') : Whole W' g t cs := h.below hb h.lt
theorem facts4 {W : World} {g : Nat} {t : TypeId} {a b c d : Value} (h : Whole W g t #[a, b, c, d]) :
    W.cell? ⟨g, 0, none⟩ = some a ∧ W.cell? ⟨g, 1, none⟩ = some b ∧ W.cell? ⟨g, 2, none⟩ = some c ∧ W.cell? ⟨g, 3, none⟩ = some d ∧
    W.frozen? ⟨g, 0, none⟩ = false ∧ W.frozen? ⟨g, 1, none⟩ = false ∧ W.frozen? ⟨g, 2, none⟩ = false ∧ W.frozen? ⟨g, 3, none⟩ = false ∧ g < W.heap.size :=
  ⟨h.cell 0, h.cell 1, h.cell 2, h.cell 3, h.frozen 0, h.frozen 1, h.frozen 2, h.frozen 3, h.lt⟩
theorem Whole.newS {W : World} {g : Nat} {t : TypeId} {cs : Array Value} (h : g = W.heap.size) : Whole (W.alloc (.cells cs t)) g t cs := h ▸ Whole.new W t cs
theorem Whole.put4 {W : World} {g : Nat} {t : TypeId} {b1 b2 : Bool} {a1 : Option Addr} {m1 c1 : Nat} {v : Value} (h : Whole W g t #[.bool false, .slice none 0 0, .bool false, .slice none 0 0]) :
    Whole ((((W.setCell ⟨g, 0, none⟩ (.bool b1)).setCell ⟨g, 1, none⟩ (.slice a1 m1 c1)).setCell ⟨g, 2, none⟩ (.bool b2)).setCell ⟨g, 3, none⟩ v) g t #[.bool b1, .slice a1 m1 c1, .bool b2, v] := (((h.set 0 _).set 1 _).set 2 _).set 3 _
theorem Whole.far4 {W : World} {k g : Nat} {t : TypeId} {cs : Array Value} {b1 b2 : Bool} {a1 : Option Addr} {m1 c1 : Nat} {v : Value} (h : Whole W k t cs) (hn : k ≠ g) :
    Whole ((((W.setCell ⟨g, 0, none⟩ (.bool b1)).setCell ⟨g, 1, none⟩ (.slice a1 m1 c1)).setCell ⟨g, 2, none⟩ (.bool b2)).setCell ⟨g, 3, none⟩ v) k t cs := (((h.far (p := ⟨g, 0, none⟩) hn _).far (p := ⟨g, 1, none⟩) hn _).far (p := ⟨g, 2, none⟩) hn _).far (p := ⟨g, 3, none⟩) hn _
theorem IsBig.set4 {W : World} {g k : Nat} {t : TypeId} {b1 b2 : Bool} {a1 : Option Addr} {m1 c1 : Nat} {v x : Value} {z : Int} (h : IsBig W W.heap.size x z k) (hW : Whole W g t #[.bool false, .slice none 0 0, .bool false, .slice none 0 0]) :
    IsBig ((((W.setCell ⟨g, 0, none⟩ (.bool b1)).setCell ⟨g, 1, none⟩ (.slice a1 m1 c1)).setCell ⟨g, 2, none⟩ (.bool b2)).setCell ⟨g, 3, none⟩ v) ((((W.setCell ⟨g, 0, none⟩ (.bool b1)).setCell ⟨g, 1, none⟩ (.slice a1 m1 c1)).setCell ⟨g, 2, none⟩ (.bool b2)).setCell ⟨g, 3, none⟩ v).heap.size x z k := by
  have h1 : Whole (W.setCell ⟨g, 0, none⟩ (.bool b1)) g t #[.bool b1, .slice none 0 0, .bool false, .slice none 0 0] := hW.set 0 (.bool b1)
  have h2 : Whole ((W.setCell ⟨g, 0, none⟩ (.bool b1)).setCell ⟨g, 1, none⟩ (.slice a1 m1 c1)) g t #[.bool b1, .slice a1 m1 c1, .bool false, .slice none 0 0] := h1.set 1 (.slice a1 m1 c1)
  have h3 : Whole (((W.setCell ⟨g, 0, none⟩ (.bool b1)).setCell ⟨g, 1, none⟩ (.slice a1 m1 c1)).setCell ⟨g, 2, none⟩ (.bool b2)) g t #[.bool b1, .slice a1 m1 c1, .bool b2, .slice none 0 0] := h2.set 2 (.bool b2)
  have N : ∀ (x1 : Bool) (x2 : Option Addr) (x3 x4 : Nat) (x5 : Bool) (x6 : Option Addr) (x7 x8 : Nat), NoInt #[.bool x1, .slice x2 x3 x4, .bool x5, .slice x6 x7 x8] := fun _ _ _ _ _ _ _ _ => noInt4 (notInt_bool _) (notInt_slice _ _ _) (notInt_bool _) (notInt_slice _ _ _)
  exact ((((h.putG hW (N _ _ _ _ _ _ _ _) (.bool b1)).putG h1 (N _ _ _ _ _ _ _ _) (.slice a1 m1 c1)).putG h2 (N _ _ _ _ _ _ _ _) (.bool b2)).putG h3 (N _ _ _ _ _ _ _ _) v).more (by simp [World.setCell]) (Nat.le_refl _)
theorem IsBig.alloc_ {W : World} {k : Nat} {x : Value} {z : Int} (h : IsBig W W.heap.size x z k) (o : Obj) : IsBig (W.alloc o) (W.alloc o).heap.size x z k :=
  (h.keep ((Below.refl _ _).alloc (Nat.le_refl _) o)).more (by simp) (Nat.le_refl _)
theorem IsRat.alloc_ {W : World} {k : Nat} {x : Value} {n d : Int} (h : IsRat W W.heap.size x n d k) (o : Obj) : IsRat (W.alloc o) (W.alloc o).heap.size x n d k := by
  obtain ⟨x1, y1, x2, y2, e, h1, h2⟩ := h
  exact ⟨x1, y1, x2, y2, e, h1.alloc_ o, h2.alloc_ o⟩
theorem IsRat.set4 {W : World} {g k : Nat} {t : TypeId} {b1 b2 : Bool} {a1 : Option Addr} {m1 c1 : Nat} {v x : Value} {n d : Int} (h : IsRat W W.heap.size x n d k) (hW : Whole W g t #[.bool false, .slice none 0 0, .bool false, .slice none 0 0]) :
    IsRat ((((W.setCell ⟨g, 0, none⟩ (.bool b1)).setCell ⟨g, 1, none⟩ (.slice a1 m1 c1)).setCell ⟨g, 2, none⟩ (.bool b2)).setCell ⟨g, 3, none⟩ v) ((((W.setCell ⟨g, 0, none⟩ (.bool b1)).setCell ⟨g, 1, none⟩ (.slice a1 m1 c1)).setCell ⟨g, 2, none⟩ (.bool b2)).setCell ⟨g, 3, none⟩ v).heap.size x n d k := by
  obtain ⟨x1, y1, x2, y2, e, h1, h2⟩ := h
  exact ⟨x1, y1, x2, y2, e, h1.set4 hW, h2.set4 hW⟩
section
variable {w W : World} {gp gd : Nat} {a b c d p q r s : Value} {n1 d1 n2 d2 : Int} {k1 k2 : Nat}
theorem TwoR.alloc_ (H : TwoR w W gp gd a b c d p q r s n1 d1 n2 d2 k1 k2) (o : Obj) : TwoR w (W.alloc o) gp gd a b c d p q r s n1 d1 n2 d2 k1 k2 := H.keep ((Below.refl _ _).alloc (Nat.le_refl _) o)
theorem TwoR.set4 {g : Nat} {t : TypeId} {b1 b2 : Bool} {a1 : Option Addr} {m1 c1 : Nat} {v : Value} (H : TwoR w W gp gd a b c d p q r s n1 d1 n2 d2 k1 k2) (hW : Whole W g t #[.bool false, .slice none 0 0, .bool false, .slice none 0 0]) (hp : gp ≠ g) (hd : gd ≠ g) (hw : w.heap.size ≤ g) :
    TwoR w ((((W.setCell ⟨g, 0, none⟩ (.bool b1)).setCell ⟨g, 1, none⟩ (.slice a1 m1 c1)).setCell ⟨g, 2, none⟩ (.bool b2)).setCell ⟨g, 3, none⟩ v) gp gd a b c d p q r s n1 d1 n2 d2 k1 k2 := by
  obtain ⟨A, B, ⟨C1, C2, C3, C4⟩, D⟩ := H
  exact ⟨A.far4 hp, B.far4 hd, ⟨C1.set4 hW, C2.set4 hW, C3.set4 hW, C4.set4 hW⟩, (((D.setCell hw _).setCell hw _).setCell hw _).setCell hw _⟩
/-- Both fractions, and two more. -/
def Near4 (w W : World) (gp gd : Nat) (a b c d p q r s : Value) (n1 d1 n2 d2 : Int) (k1 k2 : Nat) (x y : Value) (L1 L2 H1 H2 : Int) : Prop :=
  TwoR w W gp gd a b c d p q r s n1 d1 n2 d2 k1 k2 ∧ IsRat W W.heap.size x L1 L2 10 ∧ IsRat W W.heap.size y H1 H2 10
variable {x y : Value} {L1 L2 H1 H2 : Int}
theorem Near4.two (H : Near4 w W gp gd a b c d p q r s n1 d1 n2 d2 k1 k2 x y L1 L2 H1 H2) : TwoR w W gp gd a b c d p q r s n1 d1 n2 d2 k1 k2 := H.1
theorem Near4.alloc_ (H : Near4 w W gp gd a b c d p q r s n1 d1 n2 d2 k1 k2 x y L1 L2 H1 H2) (o : Obj) : Near4 w (W.alloc o) gp gd a b c d p q r s n1 d1 n2 d2 k1 k2 x y L1 L2 H1 H2 := ⟨H.1.alloc_ o, H.2.1.alloc_ o, H.2.2.alloc_ o⟩
theorem Near4.set4 {g : Nat} {t : TypeId} {b1 b2 : Bool} {a1 : Option Addr} {m1 c1 : Nat} {v : Value} (H : Near4 w W gp gd a b c d p q r s n1 d1 n2 d2 k1 k2 x y L1 L2 H1 H2) (hW : Whole W g t #[.bool false, .slice none 0 0, .bool false, .slice none 0 0]) (hp : gp ≠ g) (hd : gd ≠ g) (hw : w.heap.size ≤ g) :
    Near4 w ((((W.setCell ⟨g, 0, none⟩ (.bool b1)).setCell ⟨g, 1, none⟩ (.slice a1 m1 c1)).setCell ⟨g, 2, none⟩ (.bool b2)).setCell ⟨g, 3, none⟩ v) gp gd a b c d p q r s n1 d1 n2 d2 k1 k2 x y L1 L2 H1 H2 := ⟨H.1.set4 hW hp hd hw, H.2.1.set4 hW, H.2.2.set4 hW⟩
end
def NearB (w W : World) (gv gh : Nat) (s t : Value) (a b c d p q r u : Value) (N D L1 L2 H1 H2 : Int) : Prop :=
  ∃ g1 g2 n1 a1 m1 c1 n2 a2 m2 c2 n3 a3 m3 c3 n4 a4 m4 c4, s = .pointer (some ⟨g1, 0, none⟩) ∧ t = .pointer (some ⟨g2, 0, none⟩) ∧
    Whole W g1 56 #[.bool n1, .slice a1 m1 c1, .bool n2, .slice a2 m2 c2] ∧ Whole W g2 56 #[.bool n3, .slice a3 m3 c3, .bool n4, .slice a4 m4 c4] ∧
    Near4 w W gv gh a b c d p q r u N D 1 2 10 4 (.agg #[.bool n1, .slice a1 m1 c1, .bool n2, .slice a2 m2 c2]) (.agg #[.bool n3, .slice a3 m3 c3, .bool n4, .slice a4 m4 c4]) L1 L2 H1 H2

set_option maxHeartbeats 8000000 in
theorem near_any (n N D : Int) (v : Value) (w : World) (hn : -9223372036854775808 ≤ n ∧ n < 9223372036854775808) (hv : IsRat w w.heap.size v N D 10)
    (hlo : (n * 2 + -1 * 1) * D - N * (1 * 2) ≤ 0) (hhi : N * (1 * 2) - (n * 2 + 1 * 1) * D < 0) :
    Calls Try.prog 37 #[.int .i64 n, v] w fun e w' => e = .returned (.bool true) ∧ Below w.heap.size w w' := by
  have Hwh := Lib.hid fun W => whole_any n W hn
  obtain ⟨S1, hS1, hS1l⟩ : ∃ S1, signI ((n * 2 + -1 * 1) * D - N * (1 * 2)) = S1 ∧ S1 ≤ 0 := ⟨_, rfl, by unfold signI; split <;> (try split) <;> omega⟩
  have hS2 : signI (N * (1 * 2) - (n * 2 + 1 * 1) * D) = -1 := by unfold signI; split <;> (try split) <;> omega
  have HS1 := Lib.hid hS1
  have HS2 := Lib.hid hS2
  obtain ⟨a, b, c, d, rfl, hv1, hv2⟩ := hv
  have hA := Whole.new w 56 #[a, b, c, d]
  have hB : Below w.heap.size w (w.alloc (.cells #[a, b, c, d] 56)) := (Below.refl _ _).alloc (Nat.le_refl _) _
  have hV1 := hv1.alloc_ (.cells #[a, b, c, d] 56)
  have hV2 := hv2.alloc_ (.cells #[a, b, c, d] 56)
  have Hw1 := Lib.hid fun W => word_any 1 W (by omega)
  have Hw2 := Lib.hid fun W => word_any 2 W (by omega)
  obtain ⟨W0, hW0⟩ : ∃ W0, W0 = w.alloc (.cells #[a, b, c, d] 56) := ⟨_, rfl⟩
  obtain ⟨g, hg⟩ : ∃ g, g = w.heap.size := ⟨_, rfl⟩
  rw [← hW0] at hA hB hV1 hV2
  rw [← hg] at hA
  have HW0 := Lib.hid hW0
  have HA := Lib.hid hA
  have HB := Lib.hid hB
  have HV1 := Lib.hid hV1
  have HV2 := Lib.hid hV2
  have Hg := Lib.hid hg
  clear hW0 hA hB hV1 hV2 hg hv1 hv2 hS1 hS2 hlo hhi hn
  go_enter Try.func37, Try.ntmps37
  go_wp2_with fail
  rw [← HW0.out]
  rw [← Hg.out]
  refine (Hw1.out _).mono ?_
  rintro e W1 ⟨v1, rfl, hi1, hb1⟩
  have HI1 := Lib.hid hi1
  have HA1 := Lib.hid (HA.out.below hb1 HA.out.lt)
  have HB1 := Lib.hid (below_then HB.out hb1 HB.out.size)
  have HV1b := Lib.hid ((HV1.out.keep hb1).more hb1.size (Nat.le_refl _))
  have HV2b := Lib.hid ((HV2.out.keep hb1).more hb1.size (Nat.le_refl _))
  clear hi1 hb1
  go_wp2_with fail
  refine (Hw2.out _).mono ?_
  rintro e X ⟨v2, rfl, hi2, hb2⟩
  have hi1 := (HI1.out.keep hb2).more hb2.size (Nat.le_refl _)
  obtain ⟨h1, h2, h3, h4, rfl⟩ := hi1.parts
  obtain ⟨h5, h6, h7, h8, rfl⟩ := hi2.parts
  have hst : TwoR w (X.alloc (.cells #[.bool h1, .slice h2 h3 h4, .bool h5, .slice h6 h7 h8] 56)) g X.heap.size a b c d (.bool h1) (.slice h2 h3 h4) (.bool h5) (.slice h6 h7 h8) N D 1 2 10 4 := by
    have hA2 := HA1.out.below hb2 HA1.out.lt
    have hb3 := below_then HB1.out hb2 HB1.out.size
    exact ⟨hA2.alloc _, Whole.new _ _ _, ⟨((HV1b.out.keep hb2).more hb2.size (Nat.le_refl _)).alloc_ _, ((HV2b.out.keep hb2).more hb2.size (Nat.le_refl _)).alloc_ _, hi1.alloc_ _, hi2.alloc_ _⟩, below_then hb3 ((Below.refl _ _).alloc (Nat.le_refl _) _) hb3.size⟩
  have hm0 : w.heap.size ≤ X.heap.size := Nat.le_trans HB1.out.size hb2.size
  have Hm0 := Lib.hid hm0
  obtain ⟨X0, hX0⟩ : ∃ X0, X0 = X.alloc (.cells #[.bool h1, .slice h2 h3 h4, .bool h5, .slice h6 h7 h8] 56) := ⟨_, rfl⟩
  obtain ⟨m, hm⟩ : ∃ m, m = X.heap.size := ⟨_, rfl⟩
  go_upto_region 2 with (fail)
  rw [← hX0, ← hm] at hst ⊢
  rw [← hm] at Hm0
  have Hst := Lib.hid hst
  have Hg2 := Lib.hid (show w.heap.size ≤ g from Nat.le_of_eq Hg.out.symm)
  clear hst hX0 hm hm0 hb2 hi1 hi2 HA HB HV1 HV2 HA1 HB1 HV1b HV2b HI1 Hw1 Hw2 HW0 X
  obtain ⟨X, hX⟩ : ∃ X, X = X0 := ⟨_, rfl⟩
  rw [← hX] at Hst ⊢
  clear hX X0
  go_cut [6, 7] (fun s t W => NearB w W g m s t a b c d (.bool h1) (.slice h2 h3 h4) (.bool h5) (.slice h6 h7 h8) N D (n * 2 + -1 * 1) (1 * 2) (n * 2 + 1 * 1) (1 * 2))
  case first =>
    have Hy0 := Hst
    have hcd := Hst.out.drew.cells
    have hgd0 : m < X.heap.size := Hst.out.2.1.lt
    have hgp0 : g < X.heap.size := Hst.out.1.lt
    have hw0 : w.heap.size ≤ X.heap.size := Hst.out.2.2.2.size
    have Hmn := Lib.hid fun X W v (hb : Below X.heap.size X W) (hv : IsRat X X.heap.size v n 1 5) (H : TwoR w X g m a b c d (.bool h1) (.slice h2 h3 h4) (.bool h5) (.slice h6 h7 h8) N D 1 2 10 4) => minus_rat v (.agg #[.bool h1, .slice h2 h3 h4, .bool h5, .slice h6 h7 h8]) n 1 1 2 5 4 W ((hv.keep hb).more hb.size (Nat.le_refl _)) ⟨_, _, _, _, rfl, (H.keep hb).2.2.1.2.2.1, (H.keep hb).2.2.1.2.2.2⟩ (by omega) (by omega)
    have Hpl := Lib.hid fun X W v (hb : Below X.heap.size X W) (hv : IsRat X X.heap.size v n 1 5) (H : TwoR w X g m a b c d (.bool h1) (.slice h2 h3 h4) (.bool h5) (.slice h6 h7 h8) N D 1 2 10 4) => plus_rat v (.agg #[.bool h1, .slice h2 h3 h4, .bool h5, .slice h6 h7 h8]) n 1 1 2 5 4 W ((hv.keep hb).more hb.size (Nat.le_refl _)) ⟨_, _, _, _, rfl, (H.keep hb).2.2.1.2.2.1, (H.keep hb).2.2.1.2.2.2⟩ (by omega) (by omega)
    have tok0 : True := trivial
    go_region_held3 (fun W => W.cell? ⟨g, 0, none⟩ = some a ∧ W.cell? ⟨g, 1, none⟩ = some b ∧ W.cell? ⟨g, 2, none⟩ = some c ∧ W.cell? ⟨g, 3, none⟩ = some d ∧ W.cell? ⟨m, 0, none⟩ = some (.bool h1) ∧ W.cell? ⟨m, 1, none⟩ = some (.slice h2 h3 h4) ∧ W.cell? ⟨m, 2, none⟩ = some (.bool h5) ∧ W.cell? ⟨m, 3, none⟩ = some (.slice h6 h7 h8))
      (first | (with_reducible exact hcd) | (with_reducible exact (Hy0.out.alloc_ _).drew.cells) | (with_reducible exact ((Hy0.out.alloc_ _).alloc_ _).drew.cells) | (with_reducible exact Hy1.out.cells) | (with_reducible exact (Hy1.out.alloc_ _).cells) | (with_reducible exact ((Hy1.out.alloc_ _).alloc_ _).cells) | (with_reducible exact Hy2.out.cells) | (with_reducible exact (Hy2.out.alloc_ _).cells) | (with_reducible exact ((Hy2.out.alloc_ _).alloc_ _).cells) | (with_reducible exact Hy3.out.cells) | (with_reducible exact (Hy3.out.alloc_ _).cells) | (with_reducible exact ((Hy3.out.alloc_ _).alloc_ _).cells) | (with_reducible exact Hy4.out.cells) | (with_reducible exact (Hy4.out.alloc_ _).cells) | (with_reducible exact ((Hy4.out.alloc_ _).alloc_ _).cells) | ((with_reducible refine TwoR.cells (w := w) (n1 := N) (d1 := D) (n2 := 1) (d2 := 2) (k1 := 10) (k2 := 4) ?_); (repeat' (first | (with_reducible exact HD.out.two) | (with_reducible refine TwoR.alloc_ ?_ _) | (with_reducible refine TwoR.set4 (t := 56) ?_ ?_ ?_ ?_ ?_) | (with_reducible refine Near4.alloc_ ?_ _) | (with_reducible refine Near4.set4 (t := 56) ?_ ?_ ?_ ?_ ?_) | (with_reducible exact N1a.out) | (with_reducible exact N1b.out) | (with_reducible exact N2a.out) | (with_reducible exact N2b.out) | (with_reducible exact N3a.out) | (with_reducible exact N3b.out) | (with_reducible exact N4a.out) | (with_reducible exact N4b.out) | ((with_reducible refine Whole.newS ?_) <;> (first | rfl | (simp; done) | (simp [World.setCell]; done))) | (with_reducible refine Whole.alloc ?_ _) | (with_reducible refine Whole.put4 ?_) | (with_reducible refine Whole.far4 ?_ ?_) | omega))))
      (first
        | (go_at_call 36; (have tk := tok0); refine (Hwh.out _).mono ?_; rintro e Y1 ⟨y1, rfl, hj1, hy1⟩; (have hb1 := Lib.hid (thru (X := X) (by (first | exact (Below.refl _ _).drew | exact ((Below.refl _ _).alloc (Nat.le_refl _) _).drew | exact (((Below.refl _ _).alloc (Nat.le_refl _) _).alloc (by simp) _).drew)) hy1)); (have Hy1 := Lib.hid (Hy0.out.keep hb1.out)); (have hs1 : X.heap.size ≤ Y1.heap.size := hb1.out.size); (first | ((have N1a := Lib.hid (two_kept (w := X) (ca := #[.bool false, .slice none 0 0, .bool false, .slice none 0 0]) (ta := 56) (cb := #[.bool false, .slice none 0 0, .bool false, .slice none 0 0]) (tb := 56) (undrew hy1)).1); (have N1b := Lib.hid (two_kept (w := X) (ca := #[.bool false, .slice none 0 0, .bool false, .slice none 0 0]) (ta := 56) (cb := #[.bool false, .slice none 0 0, .bool false, .slice none 0 0]) (tb := 56) (undrew hy1)).2.1); (have l1 : X.heap.size + 1 < Y1.heap.size := (two_kept (w := X) (ca := #[.bool false, .slice none 0 0, .bool false, .slice none 0 0]) (ta := 56) (cb := #[.bool false, .slice none 0 0, .bool false, .slice none 0 0]) (tb := 56) (undrew hy1)).2.2.2)) | ((have N1a := Lib.hid (one_kept (w := X) (ca := #[.bool false, .slice none 0 0, .bool false, .slice none 0 0]) (ta := 56) (undrew hy1)).1); (have l1 : X.heap.size < Y1.heap.size := (one_kept (w := X) (ca := #[.bool false, .slice none 0 0, .bool false, .slice none 0 0]) (ta := 56) (undrew hy1)).2.2)) | skip); clear hy1; (have HJ1 := Lib.hid hj1); clear hj1 tok0 tk)
        | (go_at_call 55; (with_reducible refine (Hmn.out _ _ _ (by (first | exact Below.refl _ _ | exact (Below.refl _ _).alloc (Nat.le_refl _) _ | exact ((Below.refl _ _).alloc (Nat.le_refl _) _).alloc (by simp) _)) HJ1.out Hy1.out).mono ?_); rintro e Y2 ⟨y2, rfl, hs5, hy2⟩; (have hb2 := Lib.hid (thru (X := Y1) (by (first | exact Below.refl _ _ | exact (Below.refl _ _).alloc (Nat.le_refl _) _ | exact ((Below.refl _ _).alloc (Nat.le_refl _) _).alloc (by simp) _)) hy2)); (have Hy2 := Lib.hid (Hy1.out.keep hb2.out)); (have hs2 : Y1.heap.size ≤ Y2.heap.size := hb2.out.size); (first | ((have N2a := Lib.hid (two_kept (w := Y1) (ca := #[.bool false, .slice none 0 0, .bool false, .slice none 0 0]) (ta := 56) (cb := #[.bool false, .slice none 0 0, .bool false, .slice none 0 0]) (tb := 56) hy2).1); (have N2b := Lib.hid (two_kept (w := Y1) (ca := #[.bool false, .slice none 0 0, .bool false, .slice none 0 0]) (ta := 56) (cb := #[.bool false, .slice none 0 0, .bool false, .slice none 0 0]) (tb := 56) hy2).2.1); (have l2 : Y1.heap.size + 1 < Y2.heap.size := (two_kept (w := Y1) (ca := #[.bool false, .slice none 0 0, .bool false, .slice none 0 0]) (ta := 56) (cb := #[.bool false, .slice none 0 0, .bool false, .slice none 0 0]) (tb := 56) hy2).2.2.2)) | ((have N2a := Lib.hid (one_kept (w := Y1) (ca := #[.bool false, .slice none 0 0, .bool false, .slice none 0 0]) (ta := 56) hy2).1); (have l2 : Y1.heap.size < Y2.heap.size := (one_kept (w := Y1) (ca := #[.bool false, .slice none 0 0, .bool false, .slice none 0 0]) (ta := 56) hy2).2.2)) | skip); (try (have N1a := Lib.hid (N1a.out.kp hb2.out))); (try (have N1b := Lib.hid (N1b.out.kp hb2.out))); clear hy2; (have HL := Lib.hid hs5); clear hs5)
        | (go_at_call 36; (have tok2 := HL); refine (Hwh.out _).mono ?_; rintro e Y3 ⟨y3, rfl, hj3, hy3⟩; (have hb3 := Lib.hid (thru (X := Y2) (by (first | exact Below.refl _ _ | exact (Below.refl _ _).alloc (Nat.le_refl _) _ | exact ((Below.refl _ _).alloc (Nat.le_refl _) _).alloc (by simp) _)) hy3)); (have Hy3 := Lib.hid (Hy2.out.keep hb3.out)); (have hs3 : Y2.heap.size ≤ Y3.heap.size := hb3.out.size); (first | ((have N3a := Lib.hid (two_kept (w := Y2) (ca := #[.bool false, .slice none 0 0, .bool false, .slice none 0 0]) (ta := 56) (cb := #[.bool false, .slice none 0 0, .bool false, .slice none 0 0]) (tb := 56) hy3).1); (have N3b := Lib.hid (two_kept (w := Y2) (ca := #[.bool false, .slice none 0 0, .bool false, .slice none 0 0]) (ta := 56) (cb := #[.bool false, .slice none 0 0, .bool false, .slice none 0 0]) (tb := 56) hy3).2.1); (have l3 : Y2.heap.size + 1 < Y3.heap.size := (two_kept (w := Y2) (ca := #[.bool false, .slice none 0 0, .bool false, .slice none 0 0]) (ta := 56) (cb := #[.bool false, .slice none 0 0, .bool false, .slice none 0 0]) (tb := 56) hy3).2.2.2)) | ((have N3a := Lib.hid (one_kept (w := Y2) (ca := #[.bool false, .slice none 0 0, .bool false, .slice none 0 0]) (ta := 56) hy3).1); (have l3 : Y2.heap.size < Y3.heap.size := (one_kept (w := Y2) (ca := #[.bool false, .slice none 0 0, .bool false, .slice none 0 0]) (ta := 56) hy3).2.2)) | skip); (try (have N1a := Lib.hid (N1a.out.kp hb3.out))); (try (have N1b := Lib.hid (N1b.out.kp hb3.out))); (try (have N2a := Lib.hid (N2a.out.kp hb3.out))); (try (have N2b := Lib.hid (N2b.out.kp hb3.out))); clear hy3; (have HL3 := Lib.hid ((HL.out.keep hb3.out).more hb3.out.size (Nat.le_refl _))); (have HJ3 := Lib.hid hj3); clear hj3)
        | (go_at_call 56; (with_reducible refine (Hpl.out _ _ _ (by (first | exact Below.refl _ _ | exact (Below.refl _ _).alloc (Nat.le_refl _) _ | exact ((Below.refl _ _).alloc (Nat.le_refl _) _).alloc (by simp) _)) HJ3.out Hy3.out).mono ?_); rintro e Y4 ⟨y4, rfl, hs6, hy4⟩; (have hb4 := Lib.hid (thru (X := Y3) (by (first | exact Below.refl _ _ | exact (Below.refl _ _).alloc (Nat.le_refl _) _ | exact ((Below.refl _ _).alloc (Nat.le_refl _) _).alloc (by simp) _)) hy4)); (have Hy4 := Lib.hid (Hy3.out.keep hb4.out)); (have hs4 : Y3.heap.size ≤ Y4.heap.size := hb4.out.size); (first | ((have N4a := Lib.hid (two_kept (w := Y3) (ca := #[.bool false, .slice none 0 0, .bool false, .slice none 0 0]) (ta := 56) (cb := #[.bool false, .slice none 0 0, .bool false, .slice none 0 0]) (tb := 56) hy4).1); (have N4b := Lib.hid (two_kept (w := Y3) (ca := #[.bool false, .slice none 0 0, .bool false, .slice none 0 0]) (ta := 56) (cb := #[.bool false, .slice none 0 0, .bool false, .slice none 0 0]) (tb := 56) hy4).2.1); (have l4 : Y3.heap.size + 1 < Y4.heap.size := (two_kept (w := Y3) (ca := #[.bool false, .slice none 0 0, .bool false, .slice none 0 0]) (ta := 56) (cb := #[.bool false, .slice none 0 0, .bool false, .slice none 0 0]) (tb := 56) hy4).2.2.2)) | ((have N4a := Lib.hid (one_kept (w := Y3) (ca := #[.bool false, .slice none 0 0, .bool false, .slice none 0 0]) (ta := 56) hy4).1); (have l4 : Y3.heap.size < Y4.heap.size := (one_kept (w := Y3) (ca := #[.bool false, .slice none 0 0, .bool false, .slice none 0 0]) (ta := 56) hy4).2.2)) | skip); (try (have N1a := Lib.hid (N1a.out.kp hb4.out))); (try (have N1b := Lib.hid (N1b.out.kp hb4.out))); (try (have N2a := Lib.hid (N2a.out.kp hb4.out))); (try (have N2b := Lib.hid (N2b.out.kp hb4.out))); (try (have N3a := Lib.hid (N3a.out.kp hb4.out))); (try (have N3b := Lib.hid (N3b.out.kp hb4.out))); clear hy4; (have HL4 := Lib.hid ((HL3.out.keep hb4.out).more hb4.out.size (Nat.le_refl _))); obtain ⟨n5, a5, m5, c5, n6, a6, m6, c6, rfl⟩ := HL4.out.parts; obtain ⟨n7, a7, m7, c7, n8, a8, m8, c8, rfl⟩ := hs6.parts; (have HD := Lib.hid (show Near4 w Y4 g m a b c d (.bool h1) (.slice h2 h3 h4) (.bool h5) (.slice h6 h7 h8) N D 1 2 10 4 (.agg #[.bool n5, .slice a5 m5 c5, .bool n6, .slice a6 m6 c6]) (.agg #[.bool n7, .slice a7 m7 c7, .bool n8, .slice a8 m8 c8]) _ _ _ _ from ⟨Hy4.out, HL4.out, hs6⟩)); clear hs6; (try ((have k1a0 := (facts4 N1a.out).1); (have k1a1 := (facts4 N1a.out).2.1); (have k1a2 := (facts4 N1a.out).2.2.1); (have k1a3 := (facts4 N1a.out).2.2.2.1); (have k1a4 := (facts4 N1a.out).2.2.2.2.1); (have k1a5 := (facts4 N1a.out).2.2.2.2.2.1); (have k1a6 := (facts4 N1a.out).2.2.2.2.2.2.1); (have k1a7 := (facts4 N1a.out).2.2.2.2.2.2.2.1); (have k1a8 := (facts4 N1a.out).2.2.2.2.2.2.2.2))); (try ((have k1b0 := (facts4 N1b.out).1); (have k1b1 := (facts4 N1b.out).2.1); (have k1b2 := (facts4 N1b.out).2.2.1); (have k1b3 := (facts4 N1b.out).2.2.2.1); (have k1b4 := (facts4 N1b.out).2.2.2.2.1); (have k1b5 := (facts4 N1b.out).2.2.2.2.2.1); (have k1b6 := (facts4 N1b.out).2.2.2.2.2.2.1); (have k1b7 := (facts4 N1b.out).2.2.2.2.2.2.2.1); (have k1b8 := (facts4 N1b.out).2.2.2.2.2.2.2.2))); (try ((have k2a0 := (facts4 N2a.out).1); (have k2a1 := (facts4 N2a.out).2.1); (have k2a2 := (facts4 N2a.out).2.2.1); (have k2a3 := (facts4 N2a.out).2.2.2.1); (have k2a4 := (facts4 N2a.out).2.2.2.2.1); (have k2a5 := (facts4 N2a.out).2.2.2.2.2.1); (have k2a6 := (facts4 N2a.out).2.2.2.2.2.2.1); (have k2a7 := (facts4 N2a.out).2.2.2.2.2.2.2.1); (have k2a8 := (facts4 N2a.out).2.2.2.2.2.2.2.2))); (try ((have k2b0 := (facts4 N2b.out).1); (have k2b1 := (facts4 N2b.out).2.1); (have k2b2 := (facts4 N2b.out).2.2.1); (have k2b3 := (facts4 N2b.out).2.2.2.1); (have k2b4 := (facts4 N2b.out).2.2.2.2.1); (have k2b5 := (facts4 N2b.out).2.2.2.2.2.1); (have k2b6 := (facts4 N2b.out).2.2.2.2.2.2.1); (have k2b7 := (facts4 N2b.out).2.2.2.2.2.2.2.1); (have k2b8 := (facts4 N2b.out).2.2.2.2.2.2.2.2))); (try ((have k3a0 := (facts4 N3a.out).1); (have k3a1 := (facts4 N3a.out).2.1); (have k3a2 := (facts4 N3a.out).2.2.1); (have k3a3 := (facts4 N3a.out).2.2.2.1); (have k3a4 := (facts4 N3a.out).2.2.2.2.1); (have k3a5 := (facts4 N3a.out).2.2.2.2.2.1); (have k3a6 := (facts4 N3a.out).2.2.2.2.2.2.1); (have k3a7 := (facts4 N3a.out).2.2.2.2.2.2.2.1); (have k3a8 := (facts4 N3a.out).2.2.2.2.2.2.2.2))); (try ((have k3b0 := (facts4 N3b.out).1); (have k3b1 := (facts4 N3b.out).2.1); (have k3b2 := (facts4 N3b.out).2.2.1); (have k3b3 := (facts4 N3b.out).2.2.2.1); (have k3b4 := (facts4 N3b.out).2.2.2.2.1); (have k3b5 := (facts4 N3b.out).2.2.2.2.2.1); (have k3b6 := (facts4 N3b.out).2.2.2.2.2.2.1); (have k3b7 := (facts4 N3b.out).2.2.2.2.2.2.2.1); (have k3b8 := (facts4 N3b.out).2.2.2.2.2.2.2.2))); (try ((have k4a0 := (facts4 N4a.out).1); (have k4a1 := (facts4 N4a.out).2.1); (have k4a2 := (facts4 N4a.out).2.2.1); (have k4a3 := (facts4 N4a.out).2.2.2.1); (have k4a4 := (facts4 N4a.out).2.2.2.2.1); (have k4a5 := (facts4 N4a.out).2.2.2.2.2.1); (have k4a6 := (facts4 N4a.out).2.2.2.2.2.2.1); (have k4a7 := (facts4 N4a.out).2.2.2.2.2.2.2.1); (have k4a8 := (facts4 N4a.out).2.2.2.2.2.2.2.2))); (try ((have k4b0 := (facts4 N4b.out).1); (have k4b1 := (facts4 N4b.out).2.1); (have k4b2 := (facts4 N4b.out).2.2.1); (have k4b3 := (facts4 N4b.out).2.2.2.1); (have k4b4 := (facts4 N4b.out).2.2.2.2.1); (have k4b5 := (facts4 N4b.out).2.2.2.2.2.1); (have k4b6 := (facts4 N4b.out).2.2.2.2.2.2.1); (have k4b7 := (facts4 N4b.out).2.2.2.2.2.2.2.1); (have k4b8 := (facts4 N4b.out).2.2.2.2.2.2.2.2)))))
    all_goals
      go_wp2_with fail
      go_meet
      case rel =>
        rw [show (5 : Nat) + 4 + 1 = 10 from rfl] at *
        refine ⟨_, _, n5, a5, m5, c5, n6, a6, m6, c6, n7, a7, m7, c7, n8, a8, m8, c8, rfl, rfl, ?_, ?_, ?_⟩
        all_goals (repeat' (first | (with_reducible exact HD.out) | (with_reducible refine TwoR.alloc_ ?_ _) | (with_reducible refine TwoR.set4 (t := 56) ?_ ?_ ?_ ?_ ?_) | (with_reducible refine Near4.alloc_ ?_ _) | (with_reducible refine Near4.set4 (t := 56) ?_ ?_ ?_ ?_ ?_) | (with_reducible exact N1a.out) | (with_reducible exact N1b.out) | (with_reducible exact N2a.out) | (with_reducible exact N2b.out) | (with_reducible exact N3a.out) | (with_reducible exact N3b.out) | (with_reducible exact N4a.out) | (with_reducible exact N4b.out) | ((with_reducible refine Whole.newS ?_) <;> (first | rfl | (simp; done) | (simp [World.setCell]; done))) | (with_reducible refine Whole.alloc ?_ _) | (with_reducible refine Whole.put4 ?_) | (with_reducible refine Whole.far4 ?_ ?_) | omega))
  case rest =>
    clear Hst
    obtain ⟨g1, g2, n5, a5, m5, c5, n6, a6, m6, c6, n7, a7, m7, c7, n8, a8, m8, c8, rfl, rfl, hw1, hw2, hst⟩ := hcut
    have HT := Lib.hid hst.1
    have HL := Lib.hid hst.2.1
    have HH := Lib.hid hst.2.2
    have HW2 := Lib.hid hw2
    obtain ⟨x0, x1, x2, x3, _⟩ := facts4 hw1
    obtain ⟨z0, z1, z2, z3, _⟩ := facts4 hst.1.1
    have ho1 := order_any (.agg #[.bool n5, .slice a5 m5 c5, .bool n6, .slice a6 m6 c6]) (.agg #[a, b, c, d]) _ _ _ _ 10 10 wc hst.2.1 ⟨a, b, c, d, rfl, hst.1.2.2.1.1, hst.1.2.2.1.2.1⟩ (by omega) (by omega)
    rw [HS1.out] at ho1
    have Ho1 := Lib.hid ho1
    clear hst hw1 hw2 ho1
    go_wp2_with fail
    refine Ho1.out.mono ?_
    rintro e Y1 ⟨rfl, hb1⟩
    have HT1 := Lib.hid (HT.out.keep hb1)
    obtain ⟨z0, z1, z2, z3, _⟩ := facts4 HT1.out.1
    obtain ⟨x0, x1, x2, x3, _⟩ := facts4 (HW2.out.kp hb1)
    have ho2 := order_any (.agg #[a, b, c, d]) (.agg #[.bool n7, .slice a7 m7 c7, .bool n8, .slice a8 m8 c8]) _ _ _ _ 10 10 Y1 ⟨a, b, c, d, rfl, HT1.out.2.2.1.1, HT1.out.2.2.1.2.1⟩ ((HH.out.keep hb1).more hb1.size (Nat.le_refl _)) (by omega) (by omega)
    rw [HS2.out] at ho2
    have Ho2 := Lib.hid ho2
    clear hb1 ho2
    go_wp2_with fail
    refine Ho2.out.mono ?_
    rintro e Y2 ⟨rfl, hb2⟩
    go_wp2_with fail
    go_ret
    exact ⟨rfl, (HT1.out.keep hb2).2.2.2⟩
end Go.Proofs.Ytcfkhgpcamfecaa
