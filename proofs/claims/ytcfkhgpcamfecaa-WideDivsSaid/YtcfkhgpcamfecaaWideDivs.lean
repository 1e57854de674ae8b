/- The statement WideDivs: the law's walk. -/
import Derived.Test.YtcfkhgpcamfecaaMulDiv
import Derived.Deep.DeepCutAuto
import Derived.Test.YtcfkhgpcamfecaaRatOps
import Derived.Deep.RegionHeld3
import Derived.Outline
namespace Go.Proofs.Ytcfkhgpcamfecaa
open Go.RowKit Big
set_option linter.unusedVariables false
set_option maxRecDepth 100000

theorem muldiv_zero (a b : Int) (w : World) : Calls Try.prog 22 #[.int .i64 a, .int .i64 b, .int .i64 0] w fun e w' => e = .returned (.tuple #[.int .i64 0, .int .u64 0, .int .i64 1]) ∧ Below w.heap.size w w' := by
  go_enter Try.func22, Try.ntmps22
  go_wp2_with fail
  go_ret3
  exact ⟨rfl, Below.refl _ _⟩

theorem wideDivs_zero (a b : Int) (w : World) : Calls Try.prog 5 #[.int .i64 a, .int .i64 b, .int .i64 0] w fun e w' => e = .returned (.bool true) ∧ Below w.heap.size w w' := by
  go_enter Try.func5, Try.ntmps5
  go_wp2_with fail
  refine (muldiv_zero a b _).mono ?_
  rintro e W1 ⟨rfl, hb1⟩
  go_wp2_with (first | (go_at_call 23; refine (code_any _ _).mono ?_; rintro e w' ⟨rfl, rfl⟩))
  refine (live_any _).mono ?_
  rintro e W2 ⟨rfl, hb2⟩
  go_wp2_with fail
  go_ret
  exact ⟨rfl, below_then hb1 hb2 hb1.size⟩

/-- Two boxes that hold p and d. -/
def Boxes (w W : World) (gp gd : Nat) (P D : Int) (np : Bool) (ap : Option Addr) (lp : Nat) (cp : Nat) (nd : Bool) (ad : Option Addr) (ld : Nat) (cd : Nat) : Prop :=
  Whole W gp 29 #[.bool np, .slice ap lp cp] ∧ Whole W gd 29 #[.bool nd, .slice ad ld cd] ∧ IsBig W W.heap.size (.agg #[.bool np, .slice ap lp cp]) P 10 ∧ IsBig W W.heap.size (.agg #[.bool nd, .slice ad ld cd]) D 5 ∧
  gp ≠ gd ∧ w.heap.size ≤ gp ∧ w.heap.size ≤ gd ∧ Below w.heap.size w W
theorem Boxes.keep {w W W' : World} {gp gd : Nat} {P D : Int} {np : Bool} {ap : Option Addr} {lp cp : Nat} {nd : Bool} {ad : Option Addr} {ld cd : Nat} (h : Boxes w W gp gd P D np ap lp cp nd ad ld cd) (hb : Below W.heap.size W W') : Boxes w W' gp gd P D np ap lp cp nd ad ld cd := by
  obtain ⟨h1, h2, h3, h4, h5, h6, h7, h8⟩ := h
  exact ⟨h1.below hb h1.lt, h2.below hb h2.lt, (h3.keep hb).more hb.size (Nat.le_refl _), (h4.keep hb).more hb.size (Nat.le_refl _), h5, h6, h7, below_then h8 hb h8.size⟩
theorem Boxes.drew {w W : World} {gp gd : Nat} {P D : Int} {np : Bool} {ap : Option Addr} {lp cp : Nat} {nd : Bool} {ad : Option Addr} {ld cd : Nat} (h : Boxes w W gp gd P D np ap lp cp nd ad ld cd) : Boxes w W.drew gp gd P D np ap lp cp nd ad ld cd := h.keep (Below.refl _ _).drew
theorem Boxes.cells {w W : World} {gp gd : Nat} {P D : Int} {np : Bool} {ap : Option Addr} {lp cp : Nat} {nd : Bool} {ad : Option Addr} {ld cd : Nat} (h : Boxes w W gp gd P D np ap lp cp nd ad ld cd) :
    W.cell? ⟨gp, 0, none⟩ = some (.bool np) ∧ W.cell? ⟨gp, 1, none⟩ = some (.slice ap lp cp) ∧ W.cell? ⟨gd, 0, none⟩ = some (.bool nd) ∧ W.cell? ⟨gd, 1, none⟩ = some (.slice ad ld cd) :=
  ⟨h.1.cell 0, h.1.cell 1, h.2.1.cell 0, h.2.1.cell 1⟩
theorem Boxes.dcells {w W : World} {gp gd : Nat} {P D : Int} {np : Bool} {ap : Option Addr} {lp cp : Nat} {nd : Bool} {ad : Option Addr} {ld cd : Nat} (h : Boxes w W gp gd P D np ap lp cp nd ad ld cd) :
    W.cell? ⟨gd, 0, none⟩ = some (.bool nd) ∧ W.cell? ⟨gd, 1, none⟩ = some (.slice ad ld cd) := ⟨h.2.1.cell 0, h.2.1.cell 1⟩

def BoxesEx (w W : World) (gp gd : Nat) (P D : Int) : Prop := ∃ np ap lp cp nd ad ld cd, Boxes w W gp gd P D np ap lp cp nd ad ld cd
theorem IsBig.put {w : World} {B g n0 c0 k i : Nat} {b0 : Bool} {a0 : Option Addr} {z : Int} {t : TypeId} {v : Value} (hW : Whole w g t #[.bool b0, .slice a0 n0 c0]) (h : IsBig w B v z k) (u : Value) : IsBig (w.setCell ⟨g, i, none⟩ u) B v z k := by
  obtain ⟨neg, a', c', l, e, hWd, r⟩ := h
  exact ⟨neg, a', c', l, e, ⟨hWd.1.put hW (two_noInt _ _ _ _ _) i u, hWd.2⟩, r⟩
/-- Both boxes take new numbers. -/
theorem boxes_put2 {w W : World} {gp gd : Nat} {P D : Int} {n1 n2 m1 m2 : Bool} {a1 a2 b1 b2 : Option Addr} {l1 c1 l2 c2 k1 d1 k2 d2 : Nat}
    (hA : Whole W gp 29 #[.bool n1, .slice a1 l1 c1]) (hB : Whole W gd 29 #[.bool n2, .slice a2 l2 c2]) (hP : IsBig W W.heap.size (.agg #[.bool m1, .slice b1 k1 d1]) P 10) (hD : IsBig W W.heap.size (.agg #[.bool m2, .slice b2 k2 d2]) D 5)
    (hne : gp ≠ gd) (h1 : w.heap.size ≤ gp) (h2 : w.heap.size ≤ gd) (hb : Below w.heap.size w W) :
    Boxes w ((((W.setCell ⟨gp, 0, none⟩ (.bool m1)).setCell ⟨gp, 1, none⟩ (.slice b1 k1 d1)).setCell ⟨gd, 0, none⟩ (.bool m2)).setCell ⟨gd, 1, none⟩ (.slice b2 k2 d2)) gp gd P D m1 b1 k1 d1 m2 b2 k2 d2 := by
  have A1 : Whole (W.setCell ⟨gp, 0, none⟩ (.bool m1)) gp 29 #[.bool m1, .slice a1 l1 c1] := hA.set 0 (.bool m1)
  have A2 : Whole ((W.setCell ⟨gp, 0, none⟩ (.bool m1)).setCell ⟨gp, 1, none⟩ (.slice b1 k1 d1)) gp 29 #[.bool m1, .slice b1 k1 d1] := A1.set 1 (.slice b1 k1 d1)
  have B2 := (hB.far (p := ⟨gp, 0, none⟩) hne.symm (.bool m1)).far (p := ⟨gp, 1, none⟩) hne.symm (.slice b1 k1 d1)
  have B3 : Whole (((W.setCell ⟨gp, 0, none⟩ (.bool m1)).setCell ⟨gp, 1, none⟩ (.slice b1 k1 d1)).setCell ⟨gd, 0, none⟩ (.bool m2)) gd 29 #[.bool m2, .slice a2 l2 c2] := B2.set 0 (.bool m2)
  have B4 : Whole ((((W.setCell ⟨gp, 0, none⟩ (.bool m1)).setCell ⟨gp, 1, none⟩ (.slice b1 k1 d1)).setCell ⟨gd, 0, none⟩ (.bool m2)).setCell ⟨gd, 1, none⟩ (.slice b2 k2 d2)) gd 29 #[.bool m2, .slice b2 k2 d2] := B3.set 1 (.slice b2 k2 d2)
  have P4 := ((((hP.put hA (i := 0) (.bool m1)).put A1 (i := 1) (.slice b1 k1 d1)).put B2 (i := 0) (.bool m2)).put B3 (i := 1) (.slice b2 k2 d2))
  have D4 := ((((hD.put hA (i := 0) (.bool m1)).put A1 (i := 1) (.slice b1 k1 d1)).put B2 (i := 0) (.bool m2)).put B3 (i := 1) (.slice b2 k2 d2))
  exact ⟨(A2.far hne (.bool m2)).far hne (.slice b2 k2 d2), B4, P4.more (by simp [World.setCell]) (Nat.le_refl _), D4.more (by simp [World.setCell]) (Nat.le_refl _), hne, h1, h2, (((hb.setCell h1 _).setCell h1 _).setCell h2 _).setCell h2 _⟩


theorem thru {X W Y : World} (h1 : Below X.heap.size X W) (h2 : Below W.heap.size W Y) : Below X.heap.size X Y := below_then h1 h2 h1.size
theorem undrew {W Y : World} (h : Below W.drew.heap.size W.drew Y) : Below W.heap.size W Y := below_then (Below.refl _ _).drew h (Nat.le_refl _)
theorem Whole.kp {W W' : World} {g : Nat} {t : TypeId} {cs : Array Value} (h : Whole W g t cs) (hb : Below W.heap.size W W') : Whole W' g t cs := h.below hb h.lt
theorem facts2 {W : World} {g : Nat} {t : TypeId} {a b : Value} (h : Whole W g t #[a, b]) :
    W.cell? ⟨g, 0, none⟩ = some a ∧ W.cell? ⟨g, 1, none⟩ = some b ∧ W.frozen? ⟨g, 0, none⟩ = false ∧ W.frozen? ⟨g, 1, none⟩ = false ∧ g < W.heap.size :=
  ⟨h.cell 0, h.cell 1, h.frozen 0, h.frozen 1, h.lt⟩
theorem Whole.put2 {W : World} {g : Nat} {t : TypeId} {a b u v : Value} (h : Whole W g t #[a, b]) : Whole ((W.setCell ⟨g, 0, none⟩ u).setCell ⟨g, 1, none⟩ v) g t #[u, v] := (h.set 0 u).set 1 v
theorem Whole.far2 {W : World} {g k : Nat} {t : TypeId} {cs : Array Value} {u v : Value} (h : Whole W g t cs) (hn : g ≠ k) : Whole ((W.setCell ⟨k, 0, none⟩ u).setCell ⟨k, 1, none⟩ v) g t cs := (h.far hn u).far hn v
theorem Whole.newS {W : World} {g : Nat} {t : TypeId} {cs : Array Value} (h : g = W.heap.size) : Whole (W.alloc (.cells cs t)) g t cs := h ▸ Whole.new W t cs
theorem IsBig.set2 {W : World} {g k : Nat} {t : TypeId} {b0 b : Bool} {a0 : Option Addr} {n0 c0 : Nat} {v x : Value} {z : Int} (h : IsBig W W.heap.size x z k) (hW : Whole W g t #[.bool b0, .slice a0 n0 c0]) :
    IsBig ((W.setCell ⟨g, 0, none⟩ (.bool b)).setCell ⟨g, 1, none⟩ v) ((W.setCell ⟨g, 0, none⟩ (.bool b)).setCell ⟨g, 1, none⟩ v).heap.size x z k := by
  have h1 : Whole (W.setCell ⟨g, 0, none⟩ (.bool b)) g t #[.bool b, .slice a0 n0 c0] := hW.set 0 (.bool b)
  exact ((h.putG hW (noInt2 (notInt_bool _) (notInt_slice _ _ _)) (.bool b)).putG h1 (noInt2 (notInt_bool _) (notInt_slice _ _ _)) v).more (by simp [World.setCell]) (Nat.le_refl _)
theorem IsBig.alloc_ {W : World} {k : Nat} {x : Value} {z : Int} (h : IsBig W W.heap.size x z k) (o : Obj) : IsBig (W.alloc o) (W.alloc o).heap.size x z k :=
  (h.keep ((Below.refl _ _).alloc (Nat.le_refl _) o)).more (by simp) (Nat.le_refl _)
section
variable {w W : World} {gp gd : Nat} {P D : Int} {np : Bool} {ap : Option Addr} {lp cp : Nat} {nd : Bool} {ad : Option Addr} {ld cd : Nat}
theorem Boxes.alloc_ (h : Boxes w W gp gd P D np ap lp cp nd ad ld cd) (o : Obj) : Boxes w (W.alloc o) gp gd P D np ap lp cp nd ad ld cd := h.keep ((Below.refl _ _).alloc (Nat.le_refl _) o)
theorem Boxes.set2 {g : Nat} {t : TypeId} {b0 b : Bool} {a0 : Option Addr} {n0 c0 : Nat} {v : Value} (h : Boxes w W gp gd P D np ap lp cp nd ad ld cd) (hW : Whole W g t #[.bool b0, .slice a0 n0 c0]) (hp : gp ≠ g) (hd : gd ≠ g) (hw : w.heap.size ≤ g) :
    Boxes w ((W.setCell ⟨g, 0, none⟩ (.bool b)).setCell ⟨g, 1, none⟩ v) gp gd P D np ap lp cp nd ad ld cd := by
  obtain ⟨h1, h2, h3, h4, h5, h6, h7, h8⟩ := h
  exact ⟨h1.far2 hp, h2.far2 hd, h3.set2 hW, h4.set2 hW, h5, h6, h7, (h8.setCell hw _).setCell hw _⟩
/-- Both boxes, and two numbers more. -/
def Div4 (w W : World) (gp gd : Nat) (P D : Int) (np : Bool) (ap : Option Addr) (lp cp : Nat) (nd : Bool) (ad : Option Addr) (ld cd : Nat) (x y : Value) (L H : Int) : Prop :=
  Boxes w W gp gd P D np ap lp cp nd ad ld cd ∧ IsBig W W.heap.size x L 10 ∧ IsBig W W.heap.size y H 18
theorem Div4.boxes {x y : Value} {L H : Int} (h : Div4 w W gp gd P D np ap lp cp nd ad ld cd x y L H) : Boxes w W gp gd P D np ap lp cp nd ad ld cd := h.1
theorem Div4.alloc_ {x y : Value} {L H : Int} (h : Div4 w W gp gd P D np ap lp cp nd ad ld cd x y L H) (o : Obj) : Div4 w (W.alloc o) gp gd P D np ap lp cp nd ad ld cd x y L H := ⟨h.1.alloc_ o, h.2.1.alloc_ o, h.2.2.alloc_ o⟩
theorem Div4.set2 {x y : Value} {L H : Int} {g : Nat} {t : TypeId} {b0 b : Bool} {a0 : Option Addr} {n0 c0 : Nat} {v : Value} (h : Div4 w W gp gd P D np ap lp cp nd ad ld cd x y L H) (hW : Whole W g t #[.bool b0, .slice a0 n0 c0]) (hp : gp ≠ g) (hd : gd ≠ g) (hw : w.heap.size ≤ g) :
    Div4 w ((W.setCell ⟨g, 0, none⟩ (.bool b)).setCell ⟨g, 1, none⟩ v) gp gd P D np ap lp cp nd ad ld cd x y L H := ⟨h.1.set2 hW hp hd hw, h.2.1.set2 hW, h.2.2.set2 hW⟩
end
/-- Two more boxes, of any numbers. -/
def FourB (w W : World) (gp gd : Nat) (s t : Value) (P D L H : Int) : Prop :=
  ∃ gl gh n1 a1 m1 c1 n2 a2 m2 c2 np ap lp cp nd ad ld cd, s = .pointer (some ⟨gl, 0, none⟩) ∧ t = .pointer (some ⟨gh, 0, none⟩) ∧
    Whole W gl 29 #[.bool n1, .slice a1 m1 c1] ∧ Whole W gh 29 #[.bool n2, .slice a2 m2 c2] ∧ Div4 w W gp gd P D np ap lp cp nd ad ld cd (.agg #[.bool n1, .slice a1 m1 c1]) (.agg #[.bool n2, .slice a2 m2 c2]) L H

/-- Both boxes, and one number more. -/
def Div5 (w W : World) (gp gd : Nat) (P D : Int) (np : Bool) (ap : Option Addr) (lp cp : Nat) (nd : Bool) (ad : Option Addr) (ld cd : Nat) (x : Value) (R : Int) : Prop :=
  Boxes w W gp gd P D np ap lp cp nd ad ld cd ∧ IsBig W W.heap.size x R 11
section
variable {w W : World} {gp gd : Nat} {P D : Int} {np : Bool} {ap : Option Addr} {lp cp : Nat} {nd : Bool} {ad : Option Addr} {ld cd : Nat}
theorem Div5.boxes {x : Value} {R : Int} (h : Div5 w W gp gd P D np ap lp cp nd ad ld cd x R) : Boxes w W gp gd P D np ap lp cp nd ad ld cd := h.1
theorem Div5.alloc_ {x : Value} {R : Int} (h : Div5 w W gp gd P D np ap lp cp nd ad ld cd x R) (o : Obj) : Div5 w (W.alloc o) gp gd P D np ap lp cp nd ad ld cd x R := ⟨h.1.alloc_ o, h.2.alloc_ o⟩
theorem Div5.set2 {x : Value} {R : Int} {g : Nat} {t : TypeId} {b0 b : Bool} {a0 : Option Addr} {n0 c0 : Nat} {v : Value} (h : Div5 w W gp gd P D np ap lp cp nd ad ld cd x R) (hW : Whole W g t #[.bool b0, .slice a0 n0 c0]) (hp : gp ≠ g) (hd : gd ≠ g) (hw : w.heap.size ≤ g) :
    Div5 w ((W.setCell ⟨g, 0, none⟩ (.bool b)).setCell ⟨g, 1, none⟩ v) gp gd P D np ap lp cp nd ad ld cd x R := ⟨h.1.set2 hW hp hd hw, h.2.set2 hW⟩
end
def FiveB (w W : World) (gp gd : Nat) (s : Value) (P D R : Int) : Prop :=
  ∃ gl n1 a1 m1 c1 np ap lp cp nd ad ld cd, s = .pointer (some ⟨gl, 0, none⟩) ∧ Whole W gl 29 #[.bool n1, .slice a1 m1 c1] ∧ Div5 w W gp gd P D np ap lp cp nd ad ld cd (.agg #[.bool n1, .slice a1 m1 c1]) R

/-- The boxes of the law's last test. -/
def Div6 (w W : World) (gp gd : Nat) (P D : Int) (np : Bool) (ap : Option Addr) (lp cp : Nat) (nd : Bool) (ad : Option Addr) (ld cd : Nat) (x y : Value) (R : Int) (gr : Nat) : Prop :=
  Div5 w W gp gd P D np ap lp cp nd ad ld cd (.agg #[x, y]) R ∧ Whole W gr 29 #[x, y]
theorem Div6.keep {w W W' : World} {gp gd : Nat} {P D : Int} {np : Bool} {ap : Option Addr} {lp cp : Nat} {nd : Bool} {ad : Option Addr} {ld cd : Nat} {x y : Value} {R : Int} {gr : Nat} (h : Div6 w W gp gd P D np ap lp cp nd ad ld cd x y R gr) (hb : Below W.heap.size W W') : Div6 w W' gp gd P D np ap lp cp nd ad ld cd x y R gr :=
  ⟨⟨h.1.1.keep hb, (h.1.2.keep hb).more hb.size (Nat.le_refl _)⟩, h.2.below hb h.2.lt⟩
theorem Div6.five {w W : World} {gp gd : Nat} {P D : Int} {np : Bool} {ap : Option Addr} {lp cp : Nat} {nd : Bool} {ad : Option Addr} {ld cd : Nat} {x y : Value} {R : Int} {gr : Nat} (h : Div6 w W gp gd P D np ap lp cp nd ad ld cd x y R gr) : Div5 w W gp gd P D np ap lp cp nd ad ld cd (.agg #[x, y]) R := h.1
theorem Div6.cells {w W : World} {gp gd : Nat} {P D : Int} {np : Bool} {ap : Option Addr} {lp cp : Nat} {nd : Bool} {ad : Option Addr} {ld cd : Nat} {x y : Value} {R : Int} {gr : Nat} (h : Div6 w W gp gd P D np ap lp cp nd ad ld cd x y R gr) :
    W.cell? ⟨gr, 0, none⟩ = some x ∧ W.cell? ⟨gr, 1, none⟩ = some y ∧ W.cell? ⟨gd, 0, none⟩ = some (.bool nd) ∧ W.cell? ⟨gd, 1, none⟩ = some (.slice ad ld cd) :=
  ⟨h.2.cell 0, h.2.cell 1, h.1.1.2.1.cell 0, h.1.1.2.1.cell 1⟩

set_option maxHeartbeats 8000000 in
theorem wideDivs_some (a b c : Int) (w : World) (ha : -9223372036854775808 ≤ a ∧ a < 9223372036854775808) (hb : -9223372036854775808 ≤ b ∧ b < 9223372036854775808)
    (hc : -9223372036854775808 ≤ c ∧ c < 9223372036854775808) (hc0 : c ≠ 0) :
    Calls Try.prog 5 #[.int .i64 a, .int .i64 b, .int .i64 c] w fun e w' => e = .returned (.bool true) ∧ Below w.heap.size w w' := by
  have hmd := Lib.hid fun W => muldiv_any a b c W ha hb hc hc0
  have hia := Lib.hid fun W => int_any a W ha
  have hib := Lib.hid fun W => int_any b W hb
  have hic := Lib.hid fun W => int_any c W hc
  have hPe : Hid ((0 ≤ c → mdP a b c = a * b ∧ (c.natAbs : Int) = c) ∧ (c < 0 → mdP a b c = -(a * b) ∧ (c.natAbs : Int) = -c)) := by
    constructor
    · intro h; exact ⟨by simp [mdP, show ¬ c < 0 by omega], by omega⟩
    · intro h; exact ⟨by simp [mdP, h], by omega⟩
  have hDp : Hid ((0 : Int) < (c.natAbs : Int)) := by show (0 : Int) < _; omega
  have HDl0 : Hid ((c.natAbs : Int) ≤ 9223372036854775808) := by show _ ≤ _; omega
  have hcz : (c == 0) = false := by simpa using hc0
  generalize hP : mdP a b c = P at *
  generalize hDD : (c.natAbs : Int) = D at *
  generalize hab : a * b = ab at *
  have Hab := Lib.hid hab
  clear hP hDD hab hc0 ha hb hc
  go_enter Try.func5, Try.ntmps5
  go_wp2_with fail
  refine (hmd.out _).mono ?_
  rintro e W1 ⟨hres, hb1⟩
  have HB1 := Lib.hid hb1
  clear hb1
  obtain ⟨q, t, er, rfl, hcase⟩ : ∃ q t er : Int, e = .returned (.tuple #[.int .i64 q, .int .u64 t, .int .i64 er]) ∧ ((mdIn (P / D) ∧ q = P / D ∧ t = P % D ∧ er = 0) ∨ (¬ mdIn (P / D) ∧ q = 0 ∧ t = 0 ∧ er = 8)) := by
    rcases hres with ⟨h1, rfl⟩ | ⟨h1, rfl⟩
    · exact ⟨_, _, _, rfl, .inl ⟨h1, rfl, rfl, rfl⟩⟩
    · exact ⟨_, _, _, rfl, .inr ⟨h1, rfl, rfl, rfl⟩⟩
  have HC := Lib.hid hcase
  clear hres hcase
  go_wp2_with fail
  refine (hia.out _).mono ?_
  rintro e W2 ⟨v2, rfl, hI2, hb2⟩
  have HI2 := Lib.hid hI2
  have HB2 := Lib.hid (below_then HB1.out hb2 HB1.out.size)
  clear hI2 hb2
  go_wp2_with fail
  refine (hib.out _).mono ?_
  rintro e W3 ⟨v3, rfl, hI3, hb3⟩
  have hm := mul_any v2 v3 _ _ 5 5 W3 ((HI2.out.keep hb3).more hb3.size (Nat.le_refl _)) hI3 (by omega) (by omega)
  rw [Hab.out] at hm
  have Hm := Lib.hid hm
  have HB3 := Lib.hid (below_then HB2.out hb3 HB2.out.size)
  clear hI3 hb3 hm
  go_wp2_with fail
  refine Hm.out.mono ?_
  rintro e W4 ⟨v4, rfl, ⟨n1, a1, c1, l1, rfl, hr1⟩, hb4⟩
  have hI4 : IsBig W4 W4.heap.size (.agg #[.bool n1, .slice a1 l1.length c1]) ab 10 := ⟨n1, a1, c1, l1, rfl, hr1⟩
  have hB4 := below_then HB3.out hb4 HB3.out.size
  obtain ⟨hA, hbA, _⟩ := one_new W4 n1 (.slice a1 l1.length c1)
  have HI5 := Lib.hid ((hI4.keep hbA).more hbA.size (Nat.le_refl _))
  have HB5 := Lib.hid (below_then hB4 hbA hB4.size)
  have HA5 := Lib.hid hA
  have hgp : Hid (w.heap.size ≤ W4.heap.size) := hB4.size
  obtain ⟨gp, hgpe⟩ : ∃ gp, gp = W4.heap.size := ⟨_, rfl⟩
  obtain ⟨W5, hW5⟩ : ∃ W5, W5 = W4.alloc (.cells #[.bool n1, .slice a1 l1.length c1] 29) := ⟨_, rfl⟩
  clear hr1 hb4 hI4 hB4 hA hbA
  go_wp2_with fail
  rw [← hW5] at HI5 HB5 HA5 ⊢
  rw [← hgpe] at HA5 hgp ⊢
  clear hW5 hgpe
  refine (hic.out _).mono ?_
  rintro e W6 ⟨v6, rfl, ⟨n2, a2, c2, l2, rfl, hr2⟩, hb6⟩
  have hI6 : IsBig W6 W6.heap.size (.agg #[.bool n2, .slice a2 l2.length c2]) c 5 := ⟨n2, a2, c2, l2, rfl, hr2⟩
  obtain ⟨hA2, hbA2, _⟩ := one_new W6 n2 (.slice a2 l2.length c2)
  have hbx : Boxes w (W6.alloc (.cells #[.bool n2, .slice a2 l2.length c2] 29)) gp W6.heap.size ab c n1 a1 l1.length c1 n2 a2 l2.length c2 := by
    have hp6 := HA5.out.below hb6 HA5.out.lt
    refine ⟨hp6.below hbA2 hp6.lt, hA2, ((HI5.out.keep (hb6.trans (hbA2.mono hb6.size))).more (Nat.le_trans hb6.size hbA2.size) (Nat.le_refl _)), (hI6.keep hbA2).more hbA2.size (Nat.le_refl _), ?_, hgp.out, Nat.le_trans HB5.out.size hb6.size, below_then (below_then HB5.out hb6 HB5.out.size) hbA2 (Nat.le_trans HB5.out.size hb6.size)⟩
    exact Nat.ne_of_lt hp6.lt
  obtain ⟨gd, hgde⟩ : ∃ gd, gd = W6.heap.size := ⟨_, rfl⟩
  obtain ⟨W7, hW7⟩ : ∃ W7, W7 = W6.alloc (.cells #[.bool n2, .slice a2 l2.length c2] 29) := ⟨_, rfl⟩
  clear hr2 hb6 hI6 hA2 hbA2
  go_upto_if 47 with (fail)
  rw [← hW7] at hbx ⊢
  rw [← hgde] at hbx ⊢
  clear hW7 hgde
  go_cut [] from 39 to 51 (fun W => BoxesEx w W gp gd P D)
  case first =>
    by_cases h0 : c < 0
    · obtain ⟨e1, e2⟩ := hPe.out.2 h0
      have Hn1 := Lib.hid (neg_any _ ab 10 W7.drew hbx.drew.2.2.1)
      obtain ⟨c0, c1, d0, d1⟩ := hbx.drew.cells
      have Hbx := Lib.hid hbx.drew
      rw [← e1] at Hn1
      have He2 := Lib.hid e2
      have hne1 : ¬ gp = gd := hbx.2.2.2.2.1
      have hne2 : ¬ gd = gp := fun e => hne1 e.symm
      clear hbx e1 e2 HI2 HA5
      go_wp2_with fail
      go_region_with (first
        | (go_at_call 24; (with_reducible refine Hn1.out.mono ?_); rintro e X1 ⟨u1, rfl, ⟨m1, b1, f1, k1, rfl, hs1⟩, hx1⟩; (have Hbx1 := Lib.hid (Hbx.out.keep hx1)); (have HJ1 := Lib.hid (show IsBig X1 X1.heap.size (.agg #[.bool m1, .slice b1 k1.length f1]) P 10 from ⟨m1, b1, f1, k1, rfl, hs1⟩)); clear hs1; obtain ⟨x0, x1, y0, y1⟩ := Hbx1.out.cells; (have Hn2 := Lib.hid (neg_any _ c 5 X1 Hbx1.out.2.2.2.1)))
        | (go_at_call 24; (with_reducible refine Hn2.out.mono ?_); rintro e X2 ⟨u2, rfl, ⟨m2, b2, f2, k2, rfl, hs2⟩, hx2⟩; (have Hbx2 := Lib.hid (Hbx1.out.keep hx2)); (have HJ2 := Lib.hid (show IsBig X2 X2.heap.size (.agg #[.bool m2, .slice b2 k2.length f2]) (-c) 5 from ⟨m2, b2, f2, k2, rfl, hs2⟩)); (have HK1 := Lib.hid ((HJ1.out.keep hx2).more hx2.size (Nat.le_refl _))); clear hs2; obtain ⟨z0, z1, w0, w1⟩ := Hbx2.out.cells; (have fz0 := Hbx2.out.1.frozen 0); (have fz1 := Hbx2.out.1.frozen 1); (have fw0 := Hbx2.out.2.1.frozen 0); (have fw1 := Hbx2.out.2.1.frozen 1)))
      all_goals
        have hfin := Lib.hid (boxes_put2 (w := w) Hbx2.out.1 Hbx2.out.2.1 HK1.out HJ2.out hne1 Hbx2.out.2.2.2.2.2.1 Hbx2.out.2.2.2.2.2.2.1 Hbx2.out.2.2.2.2.2.2.2)
        rw [← He2.out] at hfin
        go_wp2_with fail
        go_meet
        case rel => exact ⟨_, _, _, _, _, _, _, _, hfin.out⟩
    · obtain ⟨e1, e2⟩ := hPe.out.1 (by omega)
      rw [← e1] at hbx
      have hbx' : BoxesEx w W7 gp gd P D := ⟨_, _, _, _, _, _, _, _, by rw [e2]; exact hbx⟩
      have Hbx := Lib.hid hbx'
      clear e1 e2 hbx hbx'
      go_wp2_with fail
      go_meet
      case rel => exact Hbx.out
  case rest =>
    obtain ⟨np, ap, lp, cp, nd, ad, ld, cd, hbx⟩ := hcut
    have Hbx := Lib.hid hbx.drew
    have Hbu := Lib.hid hbx
    have hcd := hbx.drew.dcells
    have hIm := Lib.hid fun W => int_any (-9223372036854775808) W (by omega)
    have hTw := fun W => two_any 0 9223372036854775808 W (by omega) (by omega)
    rw [show ((0 : Nat) : Int) * (4294967296 * 4294967296) + ((9223372036854775808 : Nat) : Int) = 9223372036854775808 from rfl] at hTw
    have HTw := Lib.hid hTw
    have hgdw : Hid (gd < wc.heap.size) := hbx.2.1.lt
    clear hTw hbx HA5 HI5 HB5 HI2 hgp
    have hgd0 : gd < wc.heap.size := hgdw.out
    have hgp0 : gp < wc.heap.size := Hbx.out.1.lt
    have hw0 : w.heap.size ≤ wc.heap.size := Hbx.out.2.2.2.2.2.2.2.size
    have ne0 : ¬ wc.heap.size = gd := by omega
    have ne0' : ¬ gd = wc.heap.size := by omega
    have ne0a : ¬ wc.heap.size + 1 = gd := by omega
    have ne0b : ¬ gd = wc.heap.size + 1 := by omega
    have Hy0 := Hbu
    have Hm1 := Lib.hid fun X W v (hb : Below X.heap.size X W) (hv : IsBig X X.heap.size v (-9223372036854775808) 5) (H : Boxes w X gp gd P D np ap lp cp nd ad ld cd) => mul_any v (.agg #[.bool nd, .slice ad ld cd]) _ _ 5 5 W ((hv.keep hb).more hb.size (Nat.le_refl _)) (H.keep hb).2.2.2.1 (by omega) (by omega)
    have Hm3 := Lib.hid fun X W v (hb : Below X.heap.size X W) (hv : IsBig X X.heap.size v 9223372036854775808 13) (H : Boxes w X gp gd P D np ap lp cp nd ad ld cd) => mul_any v (.agg #[.bool nd, .slice ad ld cd]) _ _ 13 5 W ((hv.keep hb).more hb.size (Nat.le_refl _)) (H.keep hb).2.2.2.1 (by omega) (by omega)
    go_wp2_with fail
    go_cut [12, 13] (fun s t W => FourB w W gp gd s t P D (-9223372036854775808 * D) (9223372036854775808 * D))
    case first =>
      go_region_held3 (fun W => W.cell? ⟨gd, 0, none⟩ = some (.bool nd) ∧ W.cell? ⟨gd, 1, none⟩ = some (.slice ad ld cd))
        (first | (with_reducible exact hcd) | (with_reducible exact Hy1.out.dcells) | (with_reducible exact Hy2.out.dcells) | (with_reducible exact Hy3.out.dcells) | (with_reducible exact Hy4.out.dcells) | (with_reducible exact (Hbu.out.alloc_ _).drew.dcells) | (with_reducible exact ((Hbu.out.alloc_ _).alloc_ _).drew.dcells) | (with_reducible exact (Hbx.out.keep ((Below.refl _ _).alloc (Nat.le_refl _) _)).dcells) | (with_reducible exact (Hbx.out.keep (((Below.refl _ _).alloc (Nat.le_refl _) _).alloc (by simp) _)).dcells) | (with_reducible exact (Hy1.out.keep ((Below.refl _ _).alloc (Nat.le_refl _) _)).dcells) | (with_reducible exact (Hy1.out.keep (((Below.refl _ _).alloc (Nat.le_refl _) _).alloc (by simp) _)).dcells) | (with_reducible exact (Hy2.out.keep ((Below.refl _ _).alloc (Nat.le_refl _) _)).dcells) | (with_reducible exact (Hy2.out.keep (((Below.refl _ _).alloc (Nat.le_refl _) _).alloc (by simp) _)).dcells) | (with_reducible exact (Hy3.out.keep ((Below.refl _ _).alloc (Nat.le_refl _) _)).dcells) | (with_reducible exact (Hy3.out.keep (((Below.refl _ _).alloc (Nat.le_refl _) _).alloc (by simp) _)).dcells) | (with_reducible exact (Hy4.out.keep ((Below.refl _ _).alloc (Nat.le_refl _) _)).dcells) | (with_reducible exact (Hy4.out.keep (((Below.refl _ _).alloc (Nat.le_refl _) _).alloc (by simp) _)).dcells) | ((with_reducible refine Boxes.dcells (w := w) (gp := gp) (P := P) (D := D) (np := np) (ap := ap) (lp := lp) (cp := cp) ?_); (repeat' (first | (with_reducible exact HD.out.boxes) | (with_reducible refine Boxes.alloc_ ?_ _) | (with_reducible refine Boxes.set2 (t := 29) (b0 := false) (a0 := none) (n0 := 0) (c0 := 0) ?_ ?_ ?_ ?_ ?_) | (with_reducible refine Div4.alloc_ ?_ _) | (with_reducible refine Div4.set2 (t := 29) (b0 := false) (a0 := none) (n0 := 0) (c0 := 0) ?_ ?_ ?_ ?_ ?_) | (with_reducible exact N1a.out) | (with_reducible exact N1b.out) | (with_reducible exact N2a.out) | (with_reducible exact N2b.out) | (with_reducible exact N3a.out) | (with_reducible exact N3b.out) | (with_reducible exact N4a.out) | (with_reducible exact N4b.out) | ((with_reducible refine Whole.newS ?_) <;> (first | rfl | (simp; done) | (simp [World.setCell]; done))) | (with_reducible refine Whole.alloc ?_ _) | (with_reducible refine Whole.put2 (a := .bool false) (b := .slice none 0 0) ?_) | (with_reducible refine Whole.far2 ?_ ?_) | omega))))
        (first
          | (go_at_call 17; refine (hIm.out _).mono ?_; rintro e Y1 ⟨y1, rfl, hj1, hy1⟩; (have hb1 := Lib.hid (thru (X := wc) (by (first | exact (Below.refl _ _).drew | exact ((Below.refl _ _).alloc (Nat.le_refl _) _).drew | exact (((Below.refl _ _).alloc (Nat.le_refl _) _).alloc (by simp) _).drew)) hy1)); (have Hy1 := Lib.hid (Hy0.out.keep hb1.out)); (have hs1 : wc.heap.size ≤ Y1.heap.size := hb1.out.size); (first | ((have N1a := Lib.hid (two_kept (w := wc) (ca := #[.bool false, .slice none 0 0]) (ta := 29) (cb := #[.bool false, .slice none 0 0]) (tb := 29) (undrew hy1)).1); (have N1b := Lib.hid (two_kept (w := wc) (ca := #[.bool false, .slice none 0 0]) (ta := 29) (cb := #[.bool false, .slice none 0 0]) (tb := 29) (undrew hy1)).2.1); (have l1 : wc.heap.size + 1 < Y1.heap.size := (two_kept (w := wc) (ca := #[.bool false, .slice none 0 0]) (ta := 29) (cb := #[.bool false, .slice none 0 0]) (tb := 29) (undrew hy1)).2.2.2)) | ((have N1a := Lib.hid (one_kept (w := wc) (ca := #[.bool false, .slice none 0 0]) (ta := 29) (undrew hy1)).1); (have l1 : wc.heap.size < Y1.heap.size := (one_kept (w := wc) (ca := #[.bool false, .slice none 0 0]) (ta := 29) (undrew hy1)).2.2)) | skip); clear hy1; (have ne1 : ¬ Y1.heap.size = gd := by omega); (have ne1' : ¬ gd = Y1.heap.size := by omega); (have ne1a : ¬ Y1.heap.size + 1 = gd := by omega); (have ne1b : ¬ gd = Y1.heap.size + 1 := by omega); (have HJ1 := Lib.hid hj1); clear hj1)
          | (go_at_call 13; (with_reducible refine (Hm1.out _ _ _ (by (first | exact Below.refl _ _ | exact (Below.refl _ _).alloc (Nat.le_refl _) _ | exact ((Below.refl _ _).alloc (Nat.le_refl _) _).alloc (by simp) _)) HJ1.out Hy1.out).mono ?_); rintro e Y2 ⟨y2, rfl, hs5, hy2⟩; (have hb2 := Lib.hid (thru (X := Y1) (by (first | exact Below.refl _ _ | exact (Below.refl _ _).alloc (Nat.le_refl _) _ | exact ((Below.refl _ _).alloc (Nat.le_refl _) _).alloc (by simp) _)) hy2)); (have Hy2 := Lib.hid (Hy1.out.keep hb2.out)); (have hs2 := hb2.out.size); (first | ((have N2a := Lib.hid (two_kept (w := Y1) (ca := #[.bool false, .slice none 0 0]) (ta := 29) (cb := #[.bool false, .slice none 0 0]) (tb := 29) hy2).1); (have N2b := Lib.hid (two_kept (w := Y1) (ca := #[.bool false, .slice none 0 0]) (ta := 29) (cb := #[.bool false, .slice none 0 0]) (tb := 29) hy2).2.1); (have l2 : Y1.heap.size + 1 < Y2.heap.size := (two_kept (w := Y1) (ca := #[.bool false, .slice none 0 0]) (ta := 29) (cb := #[.bool false, .slice none 0 0]) (tb := 29) hy2).2.2.2)) | ((have N2a := Lib.hid (one_kept (w := Y1) (ca := #[.bool false, .slice none 0 0]) (ta := 29) hy2).1); (have l2 : Y1.heap.size < Y2.heap.size := (one_kept (w := Y1) (ca := #[.bool false, .slice none 0 0]) (ta := 29) hy2).2.2)) | skip); (try (have N1a := Lib.hid (N1a.out.kp hb2.out))); (try (have N1b := Lib.hid (N1b.out.kp hb2.out))); clear hy2; (have ne2 : ¬ Y2.heap.size = gd := by omega); (have ne2' : ¬ gd = Y2.heap.size := by omega); (have ne2a : ¬ Y2.heap.size + 1 = gd := by omega); (have ne2b : ¬ gd = Y2.heap.size + 1 := by omega); (have HL := Lib.hid hs5); clear hs5)
          | (go_at_call 12; refine (HTw.out _).mono ?_; rintro e Y3 ⟨y3, rfl, hj3, hy3⟩; (have hb3 := Lib.hid (thru (X := Y2) (by (first | exact Below.refl _ _ | exact (Below.refl _ _).alloc (Nat.le_refl _) _ | exact ((Below.refl _ _).alloc (Nat.le_refl _) _).alloc (by simp) _)) hy3)); (have Hy3 := Lib.hid (Hy2.out.keep hb3.out)); (have hs3 := hb3.out.size); (first | ((have N3a := Lib.hid (two_kept (w := Y2) (ca := #[.bool false, .slice none 0 0]) (ta := 29) (cb := #[.bool false, .slice none 0 0]) (tb := 29) hy3).1); (have N3b := Lib.hid (two_kept (w := Y2) (ca := #[.bool false, .slice none 0 0]) (ta := 29) (cb := #[.bool false, .slice none 0 0]) (tb := 29) hy3).2.1); (have l3 : Y2.heap.size + 1 < Y3.heap.size := (two_kept (w := Y2) (ca := #[.bool false, .slice none 0 0]) (ta := 29) (cb := #[.bool false, .slice none 0 0]) (tb := 29) hy3).2.2.2)) | ((have N3a := Lib.hid (one_kept (w := Y2) (ca := #[.bool false, .slice none 0 0]) (ta := 29) hy3).1); (have l3 : Y2.heap.size < Y3.heap.size := (one_kept (w := Y2) (ca := #[.bool false, .slice none 0 0]) (ta := 29) hy3).2.2)) | skip); (try (have N1a := Lib.hid (N1a.out.kp hb3.out))); (try (have N1b := Lib.hid (N1b.out.kp hb3.out))); (try (have N2a := Lib.hid (N2a.out.kp hb3.out))); (try (have N2b := Lib.hid (N2b.out.kp hb3.out))); clear hy3; (have ne3 : ¬ Y3.heap.size = gd := by omega); (have ne3' : ¬ gd = Y3.heap.size := by omega); (have ne3a : ¬ Y3.heap.size + 1 = gd := by omega); (have ne3b : ¬ gd = Y3.heap.size + 1 := by omega); (have HL3 := Lib.hid ((HL.out.keep hb3.out).more hb3.out.size (Nat.le_refl _))); (have HJ3 := Lib.hid hj3); clear hj3)
          | (go_at_call 13; (with_reducible refine (Hm3.out _ _ _ (by (first | exact Below.refl _ _ | exact (Below.refl _ _).alloc (Nat.le_refl _) _ | exact ((Below.refl _ _).alloc (Nat.le_refl _) _).alloc (by simp) _)) HJ3.out Hy3.out).mono ?_); rintro e Y4 ⟨y4, rfl, hs6, hy4⟩; (have hb4 := Lib.hid (thru (X := Y3) (by (first | exact Below.refl _ _ | exact (Below.refl _ _).alloc (Nat.le_refl _) _ | exact ((Below.refl _ _).alloc (Nat.le_refl _) _).alloc (by simp) _)) hy4)); (have Hy4 := Lib.hid (Hy3.out.keep hb4.out)); (have hs4 := hb4.out.size); (first | ((have N4a := Lib.hid (two_kept (w := Y3) (ca := #[.bool false, .slice none 0 0]) (ta := 29) (cb := #[.bool false, .slice none 0 0]) (tb := 29) hy4).1); (have N4b := Lib.hid (two_kept (w := Y3) (ca := #[.bool false, .slice none 0 0]) (ta := 29) (cb := #[.bool false, .slice none 0 0]) (tb := 29) hy4).2.1); (have l4 : Y3.heap.size + 1 < Y4.heap.size := (two_kept (w := Y3) (ca := #[.bool false, .slice none 0 0]) (ta := 29) (cb := #[.bool false, .slice none 0 0]) (tb := 29) hy4).2.2.2)) | ((have N4a := Lib.hid (one_kept (w := Y3) (ca := #[.bool false, .slice none 0 0]) (ta := 29) hy4).1); (have l4 : Y3.heap.size < Y4.heap.size := (one_kept (w := Y3) (ca := #[.bool false, .slice none 0 0]) (ta := 29) hy4).2.2)) | skip); (try (have N1a := Lib.hid (N1a.out.kp hb4.out))); (try (have N1b := Lib.hid (N1b.out.kp hb4.out))); (try (have N2a := Lib.hid (N2a.out.kp hb4.out))); (try (have N2b := Lib.hid (N2b.out.kp hb4.out))); (try (have N3a := Lib.hid (N3a.out.kp hb4.out))); (try (have N3b := Lib.hid (N3b.out.kp hb4.out))); clear hy4; (have ne4 : ¬ Y4.heap.size = gd := by omega); (have ne4' : ¬ gd = Y4.heap.size := by omega); (have ne4a : ¬ Y4.heap.size + 1 = gd := by omega); (have ne4b : ¬ gd = Y4.heap.size + 1 := by omega); (have HL4 := Lib.hid ((HL3.out.keep hb4.out).more hb4.out.size (Nat.le_refl _))); (have HH4 := Lib.hid hs6); obtain ⟨n5, a5, m5, c5, rfl⟩ := HL4.out.parts; obtain ⟨n6, a6, m6, c6, rfl⟩ := hs6.parts; (have HD := Lib.hid (show Div4 w Y4 gp gd P D np ap lp cp nd ad ld cd (.agg #[.bool n5, .slice a5 m5 c5]) (.agg #[.bool n6, .slice a6 m6 c6]) _ _ from ⟨Hy4.out, HL4.out, hs6⟩)); clear hs6; (try ((have k1a0 := (facts2 N1a.out).1); (have k1a1 := (facts2 N1a.out).2.1); (have k1a2 := (facts2 N1a.out).2.2.1); (have k1a3 := (facts2 N1a.out).2.2.2.1); (have k1a4 := (facts2 N1a.out).2.2.2.2))); (try ((have k1b0 := (facts2 N1b.out).1); (have k1b1 := (facts2 N1b.out).2.1); (have k1b2 := (facts2 N1b.out).2.2.1); (have k1b3 := (facts2 N1b.out).2.2.2.1); (have k1b4 := (facts2 N1b.out).2.2.2.2))); (try ((have k2a0 := (facts2 N2a.out).1); (have k2a1 := (facts2 N2a.out).2.1); (have k2a2 := (facts2 N2a.out).2.2.1); (have k2a3 := (facts2 N2a.out).2.2.2.1); (have k2a4 := (facts2 N2a.out).2.2.2.2))); (try ((have k2b0 := (facts2 N2b.out).1); (have k2b1 := (facts2 N2b.out).2.1); (have k2b2 := (facts2 N2b.out).2.2.1); (have k2b3 := (facts2 N2b.out).2.2.2.1); (have k2b4 := (facts2 N2b.out).2.2.2.2))); (try ((have k3a0 := (facts2 N3a.out).1); (have k3a1 := (facts2 N3a.out).2.1); (have k3a2 := (facts2 N3a.out).2.2.1); (have k3a3 := (facts2 N3a.out).2.2.2.1); (have k3a4 := (facts2 N3a.out).2.2.2.2))); (try ((have k3b0 := (facts2 N3b.out).1); (have k3b1 := (facts2 N3b.out).2.1); (have k3b2 := (facts2 N3b.out).2.2.1); (have k3b3 := (facts2 N3b.out).2.2.2.1); (have k3b4 := (facts2 N3b.out).2.2.2.2))); (try ((have k4a0 := (facts2 N4a.out).1); (have k4a1 := (facts2 N4a.out).2.1); (have k4a2 := (facts2 N4a.out).2.2.1); (have k4a3 := (facts2 N4a.out).2.2.2.1); (have k4a4 := (facts2 N4a.out).2.2.2.2))); (try ((have k4b0 := (facts2 N4b.out).1); (have k4b1 := (facts2 N4b.out).2.1); (have k4b2 := (facts2 N4b.out).2.2.1); (have k4b3 := (facts2 N4b.out).2.2.2.1); (have k4b4 := (facts2 N4b.out).2.2.2.2)))))
      all_goals
        go_wp2_with fail
        go_meet
        case rel =>
          refine ⟨_, _, n5, a5, m5, c5, n6, a6, m6, c6, np, ap, lp, cp, nd, ad, ld, cd, rfl, rfl, ?_, ?_, ?_⟩
          all_goals (repeat' (first | (with_reducible exact HD.out) | (with_reducible refine Boxes.alloc_ ?_ _) | (with_reducible refine Boxes.set2 (t := 29) (b0 := false) (a0 := none) (n0 := 0) (c0 := 0) ?_ ?_ ?_ ?_ ?_) | (with_reducible refine Div4.alloc_ ?_ _) | (with_reducible refine Div4.set2 (t := 29) (b0 := false) (a0 := none) (n0 := 0) (c0 := 0) ?_ ?_ ?_ ?_ ?_) | (with_reducible exact N1a.out) | (with_reducible exact N1b.out) | (with_reducible exact N2a.out) | (with_reducible exact N2b.out) | (with_reducible exact N3a.out) | (with_reducible exact N3b.out) | (with_reducible exact N4a.out) | (with_reducible exact N4b.out) | ((with_reducible refine Whole.newS ?_) <;> (first | rfl | (simp; done) | (simp [World.setCell]; done))) | (with_reducible refine Whole.alloc ?_ _) | (with_reducible refine Whole.put2 (a := .bool false) (b := .slice none 0 0) ?_) | (with_reducible refine Whole.far2 ?_ ?_) | omega))
    case rest =>
      clear hia hib hic hmd hPe hcd Hbx Hbu hIm HTw hgdw Hm1 Hm3 Hy0 ne0 ne0' ne0a ne0b hgd0 hgp0 hw0
      obtain ⟨gl, gh, n5, a5, m5, c5, n6, a6, m6, c6, np, ap, lp, cp, nd, ad, ld, cd, rfl, rfl, hwl, hwh, hD4⟩ := hcut
      have HX := Lib.hid hD4.1
      have HL9 := Lib.hid hD4.2.1
      have HH9 := Lib.hid hD4.2.2
      clear hD4
      obtain ⟨p0, p1, q0, q1⟩ := HX.out.cells
      have x0 := hwl.cell 0
      have x1 := hwl.cell 1
      have z0 := hwh.cell 0
      have z1 := hwh.cell 1
      simp only [List.getElem?_toArray, List.getElem?_cons_zero, List.getElem?_cons_succ] at x0 x1 z0 z1
      have hc1 := cmp_any _ _ P (-9223372036854775808 * D) 10 10 10 wc HX.out.2.2.1 HL9.out (by omega) (by omega) (by omega)
      obtain ⟨R1, hR1⟩ : ∃ R1, R1 = signI (P - -9223372036854775808 * D) := ⟨_, rfl⟩
      obtain ⟨R2, hR2⟩ : ∃ R2, R2 = signI (P - 9223372036854775808 * D) := ⟨_, rfl⟩
      rw [← hR1] at hc1
      have Hc1 := Lib.hid hc1
      have hem := Int.mul_ediv_add_emod P D
      have hm0 := Int.emod_nonneg P (show D ≠ 0 by have := hDp.out; omega)
      have hm1 := Int.emod_lt_of_pos P hDp.out
      have Hin : Hid (mdIn (P / D) ↔ (0 ≤ R1 ∧ R2 < 0)) := by
        have h1 : (0 ≤ R1) ↔ -9223372036854775808 * D ≤ P := by rw [hR1]; unfold signI; split <;> (try split) <;> omega
        have h2 : (R2 < 0) ↔ P < 9223372036854775808 * D := by rw [hR2]; unfold signI; split <;> (try split) <;> omega
        rw [h1, h2]
        unfold mdIn
        have e1 : -9223372036854775808 ≤ P / D ↔ -9223372036854775808 * D ≤ P := Int.le_ediv_iff_mul_le hDp.out
        have e2 : P / D < 9223372036854775808 ↔ P < 9223372036854775808 * D := Int.ediv_lt_iff_lt_mul hDp.out
        rw [e1, e2]
        exact Iff.rfl
      have Hem := Lib.hid hem
      have Hm0 := Lib.hid hm0
      have Hm1' := Lib.hid hm1
      have Hm1'' := Lib.hid hm1
      have Hm0' := Lib.hid hm0
      have HDl := HDl0
      have HR2 := Lib.hid hR2
      clear hc1 hR1 hR2 hem hm0 hm1
      go_wp2_with fail
      refine Hc1.out.mono ?_
      rintro e X1 ⟨rfl, hx1⟩
      have HX1 := Lib.hid (HX.out.keep hx1)
      have hwh1 := hwh.below hx1 hwh.lt
      have hc2 := cmp_any _ _ P (9223372036854775808 * D) 10 18 18 X1 HX1.out.2.2.1 ((HH9.out.keep hx1).more hx1.size (Nat.le_refl _)) (by omega) (by omega) (by omega)
      rw [← HR2.out] at hc2
      have Hc2 := Lib.hid hc2
      obtain ⟨p0, p1, q0, q1⟩ := HX1.out.cells
      have z0 := hwh1.cell 0
      have z1 := hwh1.cell 1
      simp only [List.getElem?_toArray, List.getElem?_cons_zero, List.getElem?_cons_succ] at z0 z1
      clear hc2 hx1 hwl hwh hwh1 Hc1
      rcases HC.out with ⟨hin, h1, h2, h3⟩ | ⟨hout, h1, h2, h3⟩
      · obtain ⟨hr1, hr2⟩ := Hin.out.1 hin
        subst h3
        have hr1' : ¬ R1 < 0 := by omega
        have hr2' : ¬ 0 ≤ R2 := by omega
        have Hq := Lib.hid h1
        have Ht := Lib.hid h2
        have Hqb := Lib.hid (show mdIn q by rw [h1]; exact hin)
        clear Hin HC hin h1 h2 hr1 hr2
        go_wp2_with fail
        refine Hc2.out.mono ?_
        rintro e X2 ⟨rfl, hx2⟩
        have HX2 := Lib.hid (HX1.out.keep hx2)
        clear hx2 Hc2
        have Hbu := Lib.hid HX2.out
        have Hy0 := Hbu
        have hcd := HX2.out.drew.cells
        have hgd0 : gd < X2.heap.size := HX2.out.2.1.lt
        have hgp0 : gp < X2.heap.size := HX2.out.1.lt
        have hw0 : w.heap.size ≤ X2.heap.size := HX2.out.2.2.2.2.2.2.2.size
        have Hiq := Lib.hid fun W => int_any q W Hqb.out
        have Hm1 := Lib.hid fun X W v (hb : Below X.heap.size X W) (hv : IsBig X X.heap.size v q 5) (H : Boxes w X gp gd P D np ap lp cp nd ad ld cd) => mul_any v (.agg #[.bool nd, .slice ad ld cd]) _ _ 5 5 W ((hv.keep hb).more hb.size (Nat.le_refl _)) (H.keep hb).2.2.2.1 (by omega) (by omega)
        have Hsb := Lib.hid fun X W v (hb : Below X.heap.size X W) (hv : IsBig X X.heap.size v (q * D) 10) (H : Boxes w X gp gd P D np ap lp cp nd ad ld cd) => sub_any (.agg #[.bool np, .slice ap lp cp]) v _ _ 10 10 10 W (H.keep hb).2.2.1 ((hv.keep hb).more hb.size (Nat.le_refl _)) (by omega) (by omega) (by omega)
        have HR : Hid (P - q * D = t) := by
          show _ = _
          have h := Hem.out
          rw [← Hq.out, ← Ht.out, Int.mul_comm] at h
          omega
        clear Hm0 Hm1'
        go_wp2_with fail
        go_cut [14] (fun s W => FiveB w W gp gd s P D t)
        case first =>
          go_region_held3 (fun W => W.cell? ⟨gp, 0, none⟩ = some (.bool np) ∧ W.cell? ⟨gp, 1, none⟩ = some (.slice ap lp cp) ∧ W.cell? ⟨gd, 0, none⟩ = some (.bool nd) ∧ W.cell? ⟨gd, 1, none⟩ = some (.slice ad ld cd))
            (first | (with_reducible exact hcd) | (with_reducible exact Hy1.out.cells) | (with_reducible exact Hy2.out.cells) | (with_reducible exact Hy3.out.cells) | (with_reducible exact (Hbu.out.alloc_ _).drew.cells) | (with_reducible exact (Hy1.out.alloc_ _).cells) | (with_reducible exact (Hy2.out.alloc_ _).cells) | (with_reducible exact (Hy3.out.alloc_ _).cells) | ((with_reducible refine Boxes.cells (w := w) (P := P) (D := D) ?_); (repeat' (first | (with_reducible exact HD.out.boxes) | (with_reducible refine Boxes.alloc_ ?_ _) | (with_reducible refine Boxes.set2 (t := 29) (b0 := false) (a0 := none) (n0 := 0) (c0 := 0) ?_ ?_ ?_ ?_ ?_) | (with_reducible refine Div5.alloc_ ?_ _) | (with_reducible refine Div5.set2 (t := 29) (b0 := false) (a0 := none) (n0 := 0) (c0 := 0) ?_ ?_ ?_ ?_ ?_) | (with_reducible exact N1a.out) | (with_reducible exact N1b.out) | (with_reducible exact N2a.out) | (with_reducible exact N2b.out) | (with_reducible exact N3a.out) | (with_reducible exact N3b.out) | (with_reducible exact N4a.out) | (with_reducible exact N4b.out) | ((with_reducible refine Whole.newS ?_) <;> (first | rfl | (simp; done) | (simp [World.setCell]; done))) | (with_reducible refine Whole.alloc ?_ _) | (with_reducible refine Whole.put2 (a := .bool false) (b := .slice none 0 0) ?_) | (with_reducible refine Whole.far2 ?_ ?_) | omega))))
            (first
              | (go_at_call 17; refine (Hiq.out _).mono ?_; rintro e Y1 ⟨y1, rfl, hj1, hy1⟩; (have hb1 := Lib.hid (thru (X := X2) (by (first | exact (Below.refl _ _).drew | exact ((Below.refl _ _).alloc (Nat.le_refl _) _).drew | exact (((Below.refl _ _).alloc (Nat.le_refl _) _).alloc (by simp) _).drew)) hy1)); (have Hy1 := Lib.hid (Hy0.out.keep hb1.out)); (have hs1 := hb1.out.size); (try simp only [World.drew_heap] at hs1); (first | ((have N1a := Lib.hid (two_kept (w := X2) (ca := #[.bool false, .slice none 0 0]) (ta := 29) (cb := #[.bool false, .slice none 0 0]) (tb := 29) (undrew hy1)).1); (have N1b := Lib.hid (two_kept (w := X2) (ca := #[.bool false, .slice none 0 0]) (ta := 29) (cb := #[.bool false, .slice none 0 0]) (tb := 29) (undrew hy1)).2.1); (have l1 : X2.heap.size + 1 < Y1.heap.size := (two_kept (w := X2) (ca := #[.bool false, .slice none 0 0]) (ta := 29) (cb := #[.bool false, .slice none 0 0]) (tb := 29) (undrew hy1)).2.2.2)) | ((have N1a := Lib.hid (one_kept (w := X2) (ca := #[.bool false, .slice none 0 0]) (ta := 29) (undrew hy1)).1); (have l1 : X2.heap.size < Y1.heap.size := (one_kept (w := X2) (ca := #[.bool false, .slice none 0 0]) (ta := 29) (undrew hy1)).2.2)) | skip); clear hy1; (have HJ1 := Lib.hid hj1); clear hj1)
              | (go_at_call 13; (with_reducible refine (Hm1.out _ _ _ (by (first | exact Below.refl _ _ | exact (Below.refl _ _).alloc (Nat.le_refl _) _ | exact ((Below.refl _ _).alloc (Nat.le_refl _) _).alloc (by simp) _)) HJ1.out Hy1.out).mono ?_); rintro e Y2 ⟨y2, rfl, hs5, hy2⟩; (have hb2 := Lib.hid (thru (X := Y1) (by (first | exact Below.refl _ _ | exact (Below.refl _ _).alloc (Nat.le_refl _) _ | exact ((Below.refl _ _).alloc (Nat.le_refl _) _).alloc (by simp) _)) hy2)); (have Hy2 := Lib.hid (Hy1.out.keep hb2.out)); (have hs2 := hb2.out.size); (try simp only [World.drew_heap] at hs2); (first | ((have N2a := Lib.hid (two_kept (w := Y1) (ca := #[.bool false, .slice none 0 0]) (ta := 29) (cb := #[.bool false, .slice none 0 0]) (tb := 29) hy2).1); (have N2b := Lib.hid (two_kept (w := Y1) (ca := #[.bool false, .slice none 0 0]) (ta := 29) (cb := #[.bool false, .slice none 0 0]) (tb := 29) hy2).2.1); (have l2 : Y1.heap.size + 1 < Y2.heap.size := (two_kept (w := Y1) (ca := #[.bool false, .slice none 0 0]) (ta := 29) (cb := #[.bool false, .slice none 0 0]) (tb := 29) hy2).2.2.2)) | ((have N2a := Lib.hid (one_kept (w := Y1) (ca := #[.bool false, .slice none 0 0]) (ta := 29) hy2).1); (have l2 : Y1.heap.size < Y2.heap.size := (one_kept (w := Y1) (ca := #[.bool false, .slice none 0 0]) (ta := 29) hy2).2.2)) | skip); (try (have N1a := Lib.hid (N1a.out.kp hb2.out))); (try (have N1b := Lib.hid (N1b.out.kp hb2.out))); clear hy2; (have HL := Lib.hid hs5); clear hs5)
              | (go_at_call 21; (with_reducible refine (Hsb.out _ _ _ (by (first | exact Below.refl _ _ | exact (Below.refl _ _).alloc (Nat.le_refl _) _ | exact ((Below.refl _ _).alloc (Nat.le_refl _) _).alloc (by simp) _)) HL.out Hy2.out).mono ?_); rintro e Y3 ⟨y3, rfl, hs6, hy3⟩; (have hb3 := Lib.hid (thru (X := Y2) (by (first | exact Below.refl _ _ | exact (Below.refl _ _).alloc (Nat.le_refl _) _ | exact ((Below.refl _ _).alloc (Nat.le_refl _) _).alloc (by simp) _)) hy3)); (have Hy3 := Lib.hid (Hy2.out.keep hb3.out)); (have hs3 := hb3.out.size); (try simp only [World.drew_heap] at hs3); (first | ((have N3a := Lib.hid (two_kept (w := Y2) (ca := #[.bool false, .slice none 0 0]) (ta := 29) (cb := #[.bool false, .slice none 0 0]) (tb := 29) hy3).1); (have N3b := Lib.hid (two_kept (w := Y2) (ca := #[.bool false, .slice none 0 0]) (ta := 29) (cb := #[.bool false, .slice none 0 0]) (tb := 29) hy3).2.1); (have l3 : Y2.heap.size + 1 < Y3.heap.size := (two_kept (w := Y2) (ca := #[.bool false, .slice none 0 0]) (ta := 29) (cb := #[.bool false, .slice none 0 0]) (tb := 29) hy3).2.2.2)) | ((have N3a := Lib.hid (one_kept (w := Y2) (ca := #[.bool false, .slice none 0 0]) (ta := 29) hy3).1); (have l3 : Y2.heap.size < Y3.heap.size := (one_kept (w := Y2) (ca := #[.bool false, .slice none 0 0]) (ta := 29) hy3).2.2)) | skip); (try (have N1a := Lib.hid (N1a.out.kp hb3.out))); (try (have N1b := Lib.hid (N1b.out.kp hb3.out))); (try (have N2a := Lib.hid (N2a.out.kp hb3.out))); (try (have N2b := Lib.hid (N2b.out.kp hb3.out))); clear hy3; obtain ⟨n5, a5, m5, c5, rfl⟩ := hs6.parts; (have HD := Lib.hid (show Div5 w Y3 gp gd P D np ap lp cp nd ad ld cd (.agg #[.bool n5, .slice a5 m5 c5]) _ from ⟨Hy3.out, hs6⟩)); clear hs6; (try ((have k1a0 := (facts2 N1a.out).1); (have k1a1 := (facts2 N1a.out).2.1); (have k1a2 := (facts2 N1a.out).2.2.1); (have k1a3 := (facts2 N1a.out).2.2.2.1); (have k1a4 := (facts2 N1a.out).2.2.2.2))); (try ((have k1b0 := (facts2 N1b.out).1); (have k1b1 := (facts2 N1b.out).2.1); (have k1b2 := (facts2 N1b.out).2.2.1); (have k1b3 := (facts2 N1b.out).2.2.2.1); (have k1b4 := (facts2 N1b.out).2.2.2.2))); (try ((have k2a0 := (facts2 N2a.out).1); (have k2a1 := (facts2 N2a.out).2.1); (have k2a2 := (facts2 N2a.out).2.2.1); (have k2a3 := (facts2 N2a.out).2.2.2.1); (have k2a4 := (facts2 N2a.out).2.2.2.2))); (try ((have k2b0 := (facts2 N2b.out).1); (have k2b1 := (facts2 N2b.out).2.1); (have k2b2 := (facts2 N2b.out).2.2.1); (have k2b3 := (facts2 N2b.out).2.2.2.1); (have k2b4 := (facts2 N2b.out).2.2.2.2))); (try ((have k3a0 := (facts2 N3a.out).1); (have k3a1 := (facts2 N3a.out).2.1); (have k3a2 := (facts2 N3a.out).2.2.1); (have k3a3 := (facts2 N3a.out).2.2.2.1); (have k3a4 := (facts2 N3a.out).2.2.2.2))); (try ((have k3b0 := (facts2 N3b.out).1); (have k3b1 := (facts2 N3b.out).2.1); (have k3b2 := (facts2 N3b.out).2.2.1); (have k3b3 := (facts2 N3b.out).2.2.2.1); (have k3b4 := (facts2 N3b.out).2.2.2.2)))))
          all_goals
            go_wp2_with fail
            go_meet
            case rel =>
              rw [HR.out] at HD
              refine ⟨_, n5, a5, m5, c5, np, ap, lp, cp, nd, ad, ld, cd, rfl, ?_, ?_⟩
              all_goals (repeat' (first | (with_reducible exact HD.out) | (with_reducible refine Boxes.alloc_ ?_ _) | (with_reducible refine Boxes.set2 (t := 29) (b0 := false) (a0 := none) (n0 := 0) (c0 := 0) ?_ ?_ ?_ ?_ ?_) | (with_reducible refine Div5.alloc_ ?_ _) | (with_reducible refine Div5.set2 (t := 29) (b0 := false) (a0 := none) (n0 := 0) (c0 := 0) ?_ ?_ ?_ ?_ ?_) | (with_reducible exact N1a.out) | (with_reducible exact N1b.out) | (with_reducible exact N2a.out) | (with_reducible exact N2b.out) | (with_reducible exact N3a.out) | (with_reducible exact N3b.out) | (with_reducible exact N4a.out) | (with_reducible exact N4b.out) | ((with_reducible refine Whole.newS ?_) <;> (first | rfl | (simp; done) | (simp [World.setCell]; done))) | (with_reducible refine Whole.alloc ?_ _) | (with_reducible refine Whole.put2 (a := .bool false) (b := .slice none 0 0) ?_) | (with_reducible refine Whole.far2 ?_ ?_) | omega))
        case rest =>
          clear Hbu Hy0 hcd hgd0 hgp0 hw0 Hiq Hm1 Hsb HR HX HX1 HX2 p0 p1 q0 q1 z0 z1 x0 x1 HL9 HH9
          obtain ⟨gr, n5, a5, m5, c5, np, ap, lp, cp, nd, ad, ld, cd, rfl, hwr, hD5⟩ := hcut
          obtain ⟨N, hN⟩ : ∃ N : Nat, t = (N : Int) := ⟨t.toNat, by have := Hm0'.out; rw [← Ht.out] at this; omega⟩
          subst hN
          have hNl : N < 18446744073709551616 := by have h1 := Hm1''.out; have h2 := HDl.out; rw [← Ht.out] at h1; omega
          have Hw := Lib.hid fun W => word_any N W hNl
          have hs0 : signI ((N : Int) - (N : Int)) = 0 := by simp [signI]
          have hs1 : signI ((N : Int) - D) = -1 := by
            have h1 := Hm1''.out
            rw [← Ht.out] at h1
            unfold signI
            split <;> (try split) <;> omega
          have Hc1 := Lib.hid fun X v (hv : IsBig X X.heap.size v (N : Int) 4) (H : Div5 w X gp gd P D np ap lp cp nd ad ld cd (.agg #[.bool n5, .slice a5 m5 c5]) (N : Int)) => cmp_any (.agg #[.bool n5, .slice a5 m5 c5]) v _ _ 11 4 11 X H.2 hv (by omega) (by omega) (by omega)
          have Hc2 := Lib.hid fun X (H : Div5 w X gp gd P D np ap lp cp nd ad ld cd (.agg #[.bool n5, .slice a5 m5 c5]) (N : Int)) => cmp_any (.agg #[.bool n5, .slice a5 m5 c5]) (.agg #[.bool nd, .slice ad ld cd]) _ _ 11 5 11 X H.2 H.1.2.2.2.1 (by omega) (by omega) (by omega)
          rw [hs0] at Hc1
          rw [hs1] at Hc2
          have H0 := Lib.hid (show Div6 w wc.drew gp gd P D np ap lp cp nd ad ld cd (.bool n5) (.slice a5 m5 c5) (N : Int) gr from ⟨⟨hD5.1.drew, hD5.2⟩, hwr⟩)
          have hlv := Lib.hid fun W => live_any W
          have hcd := Lib.hid fun (n : Int) W => code_any n W
          clear hs0 hs1 hwr hD5 hNl
          go_wp2_with fail
          go_region_held3 (fun W => W.cell? ⟨gr, 0, none⟩ = some (.bool n5) ∧ W.cell? ⟨gr, 1, none⟩ = some (.slice a5 m5 c5) ∧ W.cell? ⟨gd, 0, none⟩ = some (.bool nd) ∧ W.cell? ⟨gd, 1, none⟩ = some (.slice ad ld cd))
            (first | exact H0.out.cells | exact H1.out.cells | exact H2.out.cells | exact H3.out.cells | exact H4.out.cells)
            (first
              | (go_at_call 23; refine (hcd.out _ _).mono ?_; rintro e w' ⟨rfl, rfl⟩)
              | (go_at_call 14; refine (Hw.out _).mono ?_; rintro e X1 ⟨z1, rfl, hi1, hx1⟩; (have H1 := Lib.hid (H0.out.keep hx1)); (have HI1 := Lib.hid hi1); clear hi1 hx1)
              | (go_at_call 11; (with_reducible refine (Hc1.out _ _ HI1.out H1.out.five).mono ?_); rintro e X2 ⟨rfl, hx2⟩; (have H2 := Lib.hid (H1.out.keep hx2)); clear hx2)
              | (go_at_call 11; (with_reducible refine (Hc2.out _ H2.out.five).mono ?_); rintro e X3 ⟨rfl, hx3⟩; (have H3 := Lib.hid (H2.out.keep hx3)); clear hx3)
              | (go_at_call 16; refine (hlv.out _).mono ?_; rintro e X4 ⟨rfl, hx4⟩; (have H4 := Lib.hid (H3.out.keep hx4)); clear hx4))
          go_wp2_with fail
          go_ret
          exact ⟨rfl, H4.out.1.1.2.2.2.2.2.2.2⟩
      · have hor : R1 < 0 ∨ (0 ≤ R1 ∧ 0 ≤ R2) := by
          by_cases h : R1 < 0
          · exact .inl h
          · by_cases h' : R2 < 0
            · exact absurd (Hin.out.2 ⟨by omega, h'⟩) hout
            · exact .inr ⟨by omega, by omega⟩
        subst h1 h2 h3
        clear Hin HC hout
        rcases hor with hr1 | ⟨hr1, hr2⟩
        · go_wp2_with (first | (go_at_call 23; refine (code_any _ _).mono ?_; rintro e w' ⟨rfl, rfl⟩))
          refine (live_any _).mono ?_
          rintro e X3 ⟨rfl, hx3⟩
          go_wp2_with fail
          go_ret
          exact ⟨rfl, (HX1.out.keep hx3).2.2.2.2.2.2.2⟩
        · have hr1' : ¬ R1 < 0 := by omega
          clear hr1
          go_wp2_with fail
          refine Hc2.out.mono ?_
          rintro e X2 ⟨rfl, hx2⟩
          have HX2 := Lib.hid (HX1.out.keep hx2)
          clear hx2 Hc2
          go_wp2_with (first | (go_at_call 23; refine (code_any _ _).mono ?_; rintro e w' ⟨rfl, rfl⟩))
          refine (live_any _).mono ?_
          rintro e X3 ⟨rfl, hx3⟩
          go_wp2_with fail
          go_ret
          exact ⟨rfl, (HX2.out.keep hx3).2.2.2.2.2.2.2⟩
  
theorem wideDivs_walk (a b c : Int) (w : World) (ha : -9223372036854775808 ≤ a ∧ a < 9223372036854775808) (hb : -9223372036854775808 ≤ b ∧ b < 9223372036854775808)
    (hc : -9223372036854775808 ≤ c ∧ c < 9223372036854775808) :
    Calls Try.prog 5 #[.int .i64 a, .int .i64 b, .int .i64 c] w fun e w' => e = .returned (.bool true) ∧ Below w.heap.size w w' := by
  by_cases hc0 : c = 0
  · subst hc0
    exact wideDivs_zero a b w
  · exact wideDivs_some a b c w ha hb hc hc0
end Go.Proofs.Ytcfkhgpcamfecaa
