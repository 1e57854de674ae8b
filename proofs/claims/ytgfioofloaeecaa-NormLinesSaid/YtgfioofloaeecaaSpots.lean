/- Rows of spots. -/
import Derived.Test.YtgfioofloaeecaaPts
import Derived.Test.YtgfioofloaeecaaFracR
namespace Go.Proofs.Ytgfioofloaeecaa
open Go.RowKit
set_option linter.unusedVariables false
set_option maxRecDepth 100000

structure Sp where
  qx : Int
  rx : Nat
  dx : Nat
  qy : Int
  ry : Nat
  dy : Nat
def Sp.cs (s : Sp) : List Value := [.int .i64 s.qx, .int .u64 (s.rx : Int), .int .u64 (s.dx : Int), .int .i64 s.qy, .int .u64 (s.ry : Int), .int .u64 (s.dy : Int)]
def Sp.ok (s : Sp) : Prop := (-9223372036854775808 ≤ s.qx ∧ s.qx < 9223372036854775808) ∧ s.rx < 18446744073709551616 ∧ s.dx < 18446744073709551616 ∧ (-9223372036854775808 ≤ s.qy ∧ s.qy < 9223372036854775808) ∧ s.ry < 18446744073709551616 ∧ s.dy < 18446744073709551616
def spots (l : List Sp) : List Value := l.flatMap Sp.cs
theorem spinfo : (Try.prog.info? 46).map (fun i => (i.zero, i.size, i.bytes)) = some (some (.agg #[.int .i64 0, .int .u64 0, .int .u64 0, .int .i64 0, .int .u64 0, .int .u64 0]), 6, 48) := by kernel_rfl
theorem spots_length (l : List Sp) : (spots l).length = l.length * 6 := by
  induction l with
  | nil => rfl
  | cons p l ih => simp only [spots, Sp.cs, List.flatMap_cons, List.length_append, List.length_cons, List.length_nil] at ih ⊢; omega
theorem spots_append (l m : List Sp) : spots (l ++ m) = spots l ++ spots m := by simp [spots]
theorem spots_one (l : List Sp) : ∀ u ∈ spots l, u.oneCell' = true := by
  intro u hu
  simp only [spots, List.mem_flatMap] at hu
  obtain ⟨p, _, hp⟩ := hu
  simp [Sp.cs] at hp
  rcases hp with rfl | rfl | rfl | rfl | rfl | rfl <;> rfl
theorem spots_get : ∀ (l : List Sp) (i : Nat) (h : i < l.length) (j : Nat) (hj : j < 6), (spots l)[i * 6 + j]? = (l[i].cs)[j]?
  | [], i, h, _, _ => by simp at h
  | p :: l, 0, h, j, hj => by
    have e : spots (p :: l) = p.cs ++ spots l := by simp [spots]
    rw [e, Nat.zero_mul, Nat.zero_add, List.getElem?_append_left (by simpa [Sp.cs] using hj)]; rfl
  | p :: l, i + 1, h, j, hj => by
    have := spots_get l i (by simpa using h) j hj
    have e : spots (p :: l) = p.cs ++ spots l := by simp [spots]
    rw [e, List.getElem?_append_right (by simp [Sp.cs]; omega), show (i + 1) * 6 + j - p.cs.length = i * 6 + j by simp [Sp.cs]; omega]
    simpa using this
/-- The slice that begins at a reads as the spots l. -/
def SAt (w : World) (B : Nat) (a : Option Addr) (l : List Sp) : Prop := Vals w B 6 a l.length (spots l)
theorem SAt.at {w : World} {B : Nat} {a : Option Addr} {l : List Sp} (h : SAt w B a l) (i : Nat) (hi : i < l.length) : ∃ b off, a = some ⟨b, off, none⟩ ∧ b < B ∧
    w.cell? ⟨b, off + i * 6, none⟩ = some (.int .i64 l[i].qx) ∧ w.cell? ⟨b, off + i * 6 + 1, none⟩ = some (.int .u64 (l[i].rx : Int)) ∧ w.cell? ⟨b, off + i * 6 + 2, none⟩ = some (.int .u64 (l[i].dx : Int)) ∧
    w.cell? ⟨b, off + i * 6 + 3, none⟩ = some (.int .i64 l[i].qy) ∧ w.cell? ⟨b, off + i * 6 + 4, none⟩ = some (.int .u64 (l[i].ry : Int)) ∧ w.cell? ⟨b, off + i * 6 + 5, none⟩ = some (.int .u64 (l[i].dy : Int)) := by
  have hl := h.1
  obtain ⟨b, off, rfl, hb, hc⟩ := h.2 (by omega)
  have g := fun j hj => spots_get l i hi j hj
  refine ⟨b, off, rfl, hb, ?_, ?_, ?_, ?_, ?_, ?_⟩
  · rw [hc (i * 6) (by omega), ← Nat.add_zero (i * 6), g 0 (by omega)]; rfl
  · rw [Nat.add_assoc, hc (i * 6 + 1) (by omega), g 1 (by omega)]; rfl
  · rw [Nat.add_assoc, hc (i * 6 + 2) (by omega), g 2 (by omega)]; rfl
  · rw [Nat.add_assoc, hc (i * 6 + 3) (by omega), g 3 (by omega)]; rfl
  · rw [Nat.add_assoc, hc (i * 6 + 4) (by omega), g 4 (by omega)]; rfl
  · rw [Nat.add_assoc, hc (i * 6 + 5) (by omega), g 5 (by omega)]; rfl
theorem SAt.below {w w' : World} {B : Nat} {a : Option Addr} {l : List Sp} (h : SAt w B a l) (hb : Below B w w') : SAt w' B a l := Vals.below h hb
/-- v is a slice that reads as the spots l. -/
def RdS (w : World) (B : Nat) (v : Value) (l : List Sp) : Prop := ∃ a c, v = .slice a l.length c ∧ l.length ≤ c ∧ c ≤ maxLen ∧ SAt w B a l ∧ ∀ s ∈ l, s.ok
theorem RdS.below {w w' : World} {B : Nat} {v : Value} {l : List Sp} (h : RdS w B v l) (hb : Below B w w') : RdS w' B v l := by
  obtain ⟨a, c, h1, h2, h3, h4, h5⟩ := h
  exact ⟨a, c, h1, h2, h3, h4.below hb, h5⟩
theorem RdS.more {w : World} {B B' : Nat} {v : Value} {l : List Sp} (h : RdS w B v l) (hB : B ≤ B') : RdS w B' v l := by
  obtain ⟨a, c, h1, h2, h3, h4, h5⟩ := h
  exact ⟨a, c, h1, h2, h3, Vals.more h4 hB, h5⟩
def OwnS (w : World) (base : Nat) (v : Value) (l : List Sp) : Prop := w.ownsRow base 46 6 v l.length (spots l)
theorem OwnS.nil_ (w : World) (base : Nat) : OwnS w base (.slice none 0 0) [] := ⟨rfl, .inl ⟨rfl, rfl⟩⟩
theorem OwnS.rd {w : World} {base : Nat} {v : Value} {l : List Sp} (h : OwnS w base v l) (hk : ∀ s ∈ l, s.ok) : RdS w w.heap.size v l := by
  obtain ⟨a, c, h1, h2, h3, h4⟩ := Vals.of_own h
  exact ⟨a, c, h1, h2, h3, h4, hk⟩
theorem OwnS.only {S : Nat → Prop} {w w' : World} {base : Nat} {v : Value} {l : List Sp} (h : OwnS w base v l) (ho : Only S w w') (hn : ∀ b, v.ownBlock = some b → ¬ S b) : OwnS w' base v l := own_only h ho hn
theorem OwnS.below {w w' : World} {base : Nat} {v : Value} {l : List Sp} (h : OwnS w base v l) (hb : Below w.heap.size w w') : OwnS w' base v l :=
  h.only (Only.of_below hb (fun _ => False)) (fun _ _ h => h)
theorem OwnS.lt {w : World} {base : Nat} {v : Value} {l : List Sp} (h : OwnS w base v l) : ∀ k, v.ownBlock = some k → base ≤ k ∧ k < w.heap.size := fun k hk => World.ownsRow.lt h k hk

/-- A fraction, rounded; 0 where it may not be. -/
def rz (q : Int) (r d : Nat) : Int := if okF q r d = true then rnd q r d else 0
def rzS (s : Sp) : P2 := (rz s.qx s.rx s.dx, rz s.qy s.ry s.dy)
theorem rz_any (q : Int) (r d : Nat) (w : World) (hr : r < 18446744073709551616) (hd : d < 18446744073709551616) :
    Calls Try.prog 20 #[.agg #[.int .i64 q, .int .u64 (r : Int), .int .u64 (d : Int)]] w fun e w' => e = .returned (.int .i64 (rz q r d)) ∧ Below w.heap.size w w' := round_any q r d w hr hd
theorem own_sub {w : World} {base : Nat} {v : Value} {l : List P2} (h : OwnP w base v l) : w.ownsRow base 27 2 v l.length (pts l) := h
/-- A point is appended to a row of the call's own. -/
theorem app_pt {w : World} (base : Nat) (v : Value) (l : List P2) (x y : Int) (c : Nat) (h : OwnP w base v l) (hl : l.length ≤ 1000000) (hB : base ≤ w.heap.size) :
    ∃ v' w', (Builtin.append_ #[23, 23] 23 #[v, .slice (some ⟨w.heap.size, 0, none⟩) 1 c]).run Try.prog (w.alloc (.cells #[.int .i64 x, .int .i64 y] 27)) = .ok v' w' ∧ GoneP w base v (l ++ [(x, y)]) v' w' := by
  obtain ⟨i0, hi0, hz0, hz1, hz2⟩ := info_parts ptinfo
  have hV : Vals (w.alloc (.cells #[.int .i64 x, .int .i64 y] 27)) (w.heap.size + 1) 2 (some ⟨w.heap.size, 0, none⟩) 1 (pts [(x, y)]) :=
    (Vals.of_block (xs := pts [(x, y)]) (heap_alloc_new w _) rfl).more (by simp)
  obtain ⟨v3, w3, hrun, h2, h3, h5⟩ := run_append_vals (P := Try.prog) (w := w.alloc (.cells #[.int .i64 x, .int .i64 y] 27)) base 23 23 27 i0 _ 2 16 Try.underlying23 hi0 hz0 hz1 hz2 rfl (by omega) v _ _ (World.ownsRow.alloc (own_sub h) _) (w.heap.size + 1) (some ⟨w.heap.size, 0, none⟩) 1 c _ hV (pts_one _) (by unfold maxLen; omega) (by omega) (by simp; omega)
  exact ⟨v3, w3, hrun, GoneP.grown h2 (by simp) (by rw [pts_append]) ((World.grownBy_alloc w _ _).trans h3) (by
    rcases h5 with h5 | h5
    · exact .inl h5
    · exact .inr ⟨_, h5, by simp⟩)⟩
end Go.Proofs.Ytgfioofloaeecaa
