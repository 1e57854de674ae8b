/- Walks over package frac: Cross. -/
import Derived.Test.YtcfkhgpcamfecaaFracMake
namespace Go.Proofs.Ytcfkhgpcamfecaa
open Go.RowKit Big
set_option linter.unusedVariables false
set_option maxRecDepth 100000

def SetB (w : World) (b : Nat) (v : Bool) (e : Ending) (w' : World) : Prop := ∃ u : Bool, u = v ∧ e = .returned (.tuple #[]) ∧ w' = w.setCell ⟨b, 0, none⟩ (.bool u)
theorem check_any (n : Int) (b : Nat) (t : Bool) (w : World) (hc : w.cell? ⟨b, 0, none⟩ = some (.bool t)) (hf : w.frozen? ⟨b, 0, none⟩ = false) :
    Calls Try.prog 57 #[.int .i64 n, .pointer (some ⟨b, 0, none⟩)] w (SetB w b (t && okQ n)) := by
  have hw := Lib.hid fun W => within_any n W
  cases t
  · go_enter Try.func57, Try.ntmps57
    go_wp2_with fail
    go_end0
    exact ⟨_, rfl, rfl, rfl⟩
  · go_enter Try.func57, Try.ntmps57
    go_wp2_with (first | (go_at_call 51; refine (hw.out _).mono ?_; rintro e w' ⟨rfl, rfl⟩))
    go_end0
    exact ⟨_, rfl, rfl, by simp⟩

theorem turned_any (x y : Int) (w : World) : Calls Try.prog 58 #[.agg #[.int .i64 x, .int .i64 y]] w fun e w' => e = .returned (.agg #[.int .i64 y, .int .i64 x]) ∧ Below w.heap.size w w' := by
  go_enter Try.func58, Try.ntmps58
  go_wp2_with fail
  exact bodyPost_ret (v := .agg #[.int .i64 y, .int .i64 x]) (by simp [results, Try.results58, go_sem]) rfl ⟨rfl, ((Below.refl _ _).alloc (Nat.le_refl _) _).alloc (by simp) _⟩


/-- The boxes of Cross: both points, what is answered, what is still inside. -/
def CrossSt (w W : World) (n : Nat) (a b e f : Int) (t : Bool) : Prop :=
  Whole W n 63 #[.int .i64 a, .int .i64 b] ∧ Whole W (n + 1) 63 #[.int .i64 e, .int .i64 f] ∧ Whole W (n + 1 + 1) 46 #[.int .i64 0, .int .u64 0, .int .u64 0] ∧ Whole W (n + 1 + 1 + 1) 4 #[.bool t] ∧ Below w.heap.size w W ∧ w.heap.size ≤ n
theorem CrossSt.new (w : World) (a b e f : Int) : CrossSt w ((((w.alloc (.cells #[.int .i64 a, .int .i64 b] 63)).alloc (.cells #[.int .i64 e, .int .i64 f] 63)).alloc (.cells #[.int .i64 0, .int .u64 0, .int .u64 0] 46)).alloc (.cells #[.bool true] 4)) w.heap.size a b e f true := by
  refine ⟨(((Whole.new w _ _).alloc _).alloc _).alloc _, ?_, ?_, ?_, ?_, Nat.le_refl _⟩
  · have h := ((Whole.new (w.alloc (.cells #[.int .i64 a, .int .i64 b] 63)) 63 #[.int .i64 e, .int .i64 f]).alloc (.cells #[.int .i64 0, .int .u64 0, .int .u64 0] 46)).alloc (.cells #[.bool true] 4)
    simpa using h
  · have h := (Whole.new ((w.alloc (.cells #[.int .i64 a, .int .i64 b] 63)).alloc (.cells #[.int .i64 e, .int .i64 f] 63)) 46 #[.int .i64 0, .int .u64 0, .int .u64 0]).alloc (.cells #[.bool true] 4)
    simpa using h
  · have h := Whole.new (((w.alloc (.cells #[.int .i64 a, .int .i64 b] 63)).alloc (.cells #[.int .i64 e, .int .i64 f] 63)).alloc (.cells #[.int .i64 0, .int .u64 0, .int .u64 0] 46)) 4 #[.bool true]
    simpa using h
  · exact ((((Below.refl _ _).alloc (Nat.le_refl _) _).alloc (by simp) _).alloc (by simp; omega) _).alloc (by simp; omega) _
theorem CrossSt.set {w W : World} {n : Nat} {a b e f : Int} {t : Bool} (h : CrossSt w W n a b e f t) (u : Bool) : CrossSt w (W.setCell ⟨n + 1 + 1 + 1, 0, none⟩ (.bool u)) n a b e f u := by
  obtain ⟨h1, h2, h3, h4, h5, h6⟩ := h
  exact ⟨h1.far (by simp; omega) _, h2.far (by simp) _, h3.far (by simp) _, h4.set 0 _, h5.setCell (show w.heap.size ≤ n + 1 + 1 + 1 by omega) _, h6⟩
theorem CrossSt.cells {w W : World} {n : Nat} {a b e f : Int} {t : Bool} (h : CrossSt w W n a b e f t) :
    W.cell? ⟨n, 0, none⟩ = some (.int .i64 a) ∧ W.cell? ⟨n, 1, none⟩ = some (.int .i64 b) ∧ W.cell? ⟨n + 1, 0, none⟩ = some (.int .i64 e) ∧ W.cell? ⟨n + 1, 1, none⟩ = some (.int .i64 f) ∧ W.cell? ⟨n + 1 + 1 + 1, 0, none⟩ = some (.bool t) ∧ W.frozen? ⟨n + 1 + 1 + 1, 0, none⟩ = false :=
  ⟨h.1.cell 0, h.1.cell 1, h.2.1.cell 0, h.2.1.cell 1, h.2.2.2.1.cell 0, h.2.2.2.1.frozen 0⟩

def makeG (q : Int) (r d : Nat) : Value := makeV (okF q (r / Nat.gcd r d) (d / Nat.gcd r d)) q (r / Nat.gcd r d) (d / Nat.gcd r d)
def okAll (a b e f c : Int) : Bool := (((okQ a && okQ b) && okQ e) && okQ f) && okQ c
/-- Where the line crosses; its points lie in order. -/
def crossR (a b e f c : Int) : Value :=
  if a = e ∨ c < a ∨ e < c then .tuple #[.agg #[.int .i64 0, .int .u64 0, .int .u64 0], .int .i64 6] else makeG (b + ((f - b) * (c - a)) / (e - a)) (((f - b) * (c - a)) % (e - a)).toNat (e - a).toNat
def crossS (a b e f c : Int) : Value := if e < a then crossR e f a b c else crossR a b e f c
def crossV (a b e f c : Int) (up : Bool) : Value :=
  if okAll a b e f c = true then (if up = true then crossS b a f e c else crossS a b e f c) else .tuple #[.agg #[.int .i64 0, .int .u64 0, .int .u64 0], .int .i64 8]
def FracEx (w : World) (V : Value) (e : Ending) (w' : World) : Prop := ∃ (x : Int) (y z : Nat) (er : Int), e = .returned (.tuple #[.agg #[.int .i64 x, .int .u64 (y : Int), .int .u64 (z : Int)], .int .i64 er]) ∧ V = .tuple #[.agg #[.int .i64 x, .int .u64 (y : Int), .int .u64 (z : Int)], .int .i64 er] ∧ Below w.heap.size w w'
theorem make_ex (q : Int) (r d : Nat) (w : World) (hr : r < 18446744073709551616) (hd : d < 18446744073709551616) (h : r < d) :
    Calls Try.prog 25 #[.int .i64 q, .int .u64 (r : Int), .int .u64 (d : Int)] w (FracEx w (makeG q r d)) := by
  refine (make_any q r d w hr hd h).mono ?_
  rintro e w' ⟨rfl, hb⟩
  unfold FracEx makeG makeV
  cases okF q (r / Nat.gcd r d) (d / Nat.gcd r d)
  · exact ⟨0, 0, 0, 8, rfl, rfl, hb⟩
  · exact ⟨_, _, _, 0, rfl, rfl, hb⟩
theorem CrossSt.keep {w W W' : World} {n : Nat} {a b e f : Int} {t : Bool} (h : CrossSt w W n a b e f t) (hb : Below W.heap.size W W') : CrossSt w W' n a b e f t := by
  obtain ⟨h1, h2, h3, h4, h5, h6⟩ := h
  exact ⟨h1.below hb h1.lt, h2.below hb h2.lt, h3.below hb h3.lt, h4.below hb h4.lt, below_then h5 hb h5.size, h6⟩
theorem CrossSt.points {w W : World} {n : Nat} {a b e f : Int} {t : Bool} (h : CrossSt w W n a b e f t) (A B E F : Int) :
    CrossSt w ((((W.setCell ⟨n, 0, none⟩ (.int .i64 A)).setCell ⟨n, 1, none⟩ (.int .i64 B)).setCell ⟨n + 1, 0, none⟩ (.int .i64 E)).setCell ⟨n + 1, 1, none⟩ (.int .i64 F)) n A B E F t := by
  obtain ⟨h1, h2, h3, h4, h5, h6⟩ := h
  refine ⟨(((h1.set 0 (.int .i64 A)).set 1 (.int .i64 B)).far (p := ⟨n + 1, 0, none⟩) (by simp) (.int .i64 E)).far (p := ⟨n + 1, 1, none⟩) (by simp) (.int .i64 F), (((h2.far (p := ⟨n, 0, none⟩) (by simp) (.int .i64 A)).far (p := ⟨n, 1, none⟩) (by simp) (.int .i64 B)).set 0 (.int .i64 E)).set 1 (.int .i64 F),
    (((h3.far (p := ⟨n, 0, none⟩) (by simp; omega) (.int .i64 A)).far (p := ⟨n, 1, none⟩) (by simp; omega) (.int .i64 B)).far (p := ⟨n + 1, 0, none⟩) (by simp) (.int .i64 E)).far (p := ⟨n + 1, 1, none⟩) (by simp) (.int .i64 F),
    (((h4.far (p := ⟨n, 0, none⟩) (by simp; omega) (.int .i64 A)).far (p := ⟨n, 1, none⟩) (by simp; omega) (.int .i64 B)).far (p := ⟨n + 1, 0, none⟩) (by simp; omega) (.int .i64 E)).far (p := ⟨n + 1, 1, none⟩) (by simp; omega) (.int .i64 F),
    (((h5.setCell h6 _).setCell h6 _).setCell (show w.heap.size ≤ n + 1 by omega) _).setCell (show w.heap.size ≤ n + 1 by omega) _, h6⟩
theorem CrossSt.out {w W : World} {n : Nat} {a b e f : Int} {t : Bool} (h : CrossSt w W n a b e f t) (x y z : Value) :
    Whole (((W.setCell ⟨n + 1 + 1, 0, none⟩ x).setCell ⟨n + 1 + 1, 1, none⟩ y).setCell ⟨n + 1 + 1, 2, none⟩ z) (n + 1 + 1) 46 #[x, y, z] ∧ Below w.heap.size w (((W.setCell ⟨n + 1 + 1, 0, none⟩ x).setCell ⟨n + 1 + 1, 1, none⟩ y).setCell ⟨n + 1 + 1, 2, none⟩ z) := by
  obtain ⟨h1, h2, h3, h4, h5, h6⟩ := h
  have hn : w.heap.size ≤ n + 1 + 1 := by omega
  exact ⟨((h3.set 0 x).set 1 y).set 2 z, ((h5.setCell hn _).setCell hn _).setCell hn _⟩
theorem CrossSt.frees {w W : World} {n : Nat} {a b e f : Int} {t : Bool} (h : CrossSt w W n a b e f t) :
    W.cell? ⟨n + 1 + 1, 0, none⟩ = some (.int .i64 0) ∧ W.cell? ⟨n + 1 + 1, 1, none⟩ = some (.int .u64 0) ∧ W.cell? ⟨n + 1 + 1, 2, none⟩ = some (.int .u64 0) ∧ W.frozen? ⟨n + 1 + 1, 0, none⟩ = false ∧ W.frozen? ⟨n + 1 + 1, 1, none⟩ = false ∧ W.frozen? ⟨n + 1 + 1, 2, none⟩ = false ∧
    W.frozen? ⟨n, 0, none⟩ = false ∧ W.frozen? ⟨n, 1, none⟩ = false ∧ W.frozen? ⟨n + 1, 0, none⟩ = false ∧ W.frozen? ⟨n + 1, 1, none⟩ = false :=
  ⟨h.2.2.1.cell 0, h.2.2.1.cell 1, h.2.2.1.cell 2, h.2.2.1.frozen 0, h.2.2.1.frozen 1, h.2.2.1.frozen 2, h.1.frozen 0, h.1.frozen 1, h.2.1.frozen 0, h.2.1.frozen 1⟩

end Go.Proofs.Ytcfkhgpcamfecaa
