/- Slices of points and of spots that came in. -/
import Derived.Test.YtgfioofloaeecaaOpenRows
import Derived.Test.YtgfioofloaeecaaSpots
import Derived.Lib.SmallJoins
namespace Go.Proofs.Ytgfioofloaeecaa
open Go.ChangeShapes Go.WideShapes Go.ChangeAt Go.RowKit Go.Deep Go.Joins
set_option linter.unusedVariables false

section
variable {H : Type} {enc : TypeId × Value → H} {W : World}
theorem el_pt (n : Nat) (cs : List Value) (x : DataW H × List MemPlace) (h : DataW.trod enc Try.prog W 0 (fun _ => true) true n 27 cs = some x) :
    ∃ s : P2, cs = [.int .i64 s.1, .int .i64 s.2] ∧ ((-9223372036854775808 ≤ s.1 ∧ s.1 < 9223372036854775808) ∧ (-9223372036854775808 ≤ s.2 ∧ s.2 < 9223372036854775808)) := by
  obtain ⟨xs, n', rfl, rfl, hl, hxl, hf⟩ := DataW.trod_struct Try.underlying27 h
  have hc : Try.prog.cellsOf 27 = 2 := by kernel_rfl
  have hi : Try.prog.cellsOf 3 = 1 := by kernel_rfl
  rw [hc] at hl
  obtain ⟨c0, c1, rfl⟩ : ∃ a b, cs = [a, b] := by
    rcases cs with _ | ⟨a, _ | ⟨b, _ | ⟨c, cs⟩⟩⟩ <;> simp at hl
    exact ⟨a, b, rfl⟩
  obtain ⟨y0, y1, rfl⟩ : ∃ a b, xs = [a, b] := by
    rcases xs with _ | ⟨a, _ | ⟨b, _ | ⟨c, xs⟩⟩⟩ <;> simp at hxl
    exact ⟨a, b, rfl⟩
  have h0 : DataW.trod enc Try.prog W 0 (fun _ => true) true n' 3 (([c0, c1].drop 0).take (Try.prog.cellsOf 3)) = some y0 := hf 0 _ rfl
  rw [hi] at h0
  have h1 : DataW.trod enc Try.prog W 0 (fun _ => true) true n' 3 (([c0, c1].drop 1).take (Try.prog.cellsOf 3)) = some y1 := hf 1 _ rfl
  rw [hi] at h1
  obtain ⟨z0, e0, _, w0⟩ := DataW.trod_int Try.underlying3 (show DataW.trod enc Try.prog W 0 (fun _ => true) true n' 3 [c0] = some y0 from h0)
  obtain ⟨z1, e1, _, w1⟩ := DataW.trod_int Try.underlying3 (show DataW.trod enc Try.prog W 0 (fun _ => true) true n' 3 [c1] = some y1 from h1)
  simp at e0 e1
  subst e0 e1
  exact ⟨(z0, z1), rfl, int_i64 w0, int_i64 w1⟩
theorem el_frac (n : Nat) (cs : List Value) (x : DataW H × List MemPlace) (h : DataW.trod enc Try.prog W 0 (fun _ => true) true n 44 cs = some x) :
    ∃ (q : Int) (r d : Nat), cs = [.int .i64 q, .int .u64 (r : Int), .int .u64 (d : Int)] ∧ (-9223372036854775808 ≤ q ∧ q < 9223372036854775808) ∧ r < 18446744073709551616 ∧ d < 18446744073709551616 := by
  obtain ⟨xs, n', rfl, rfl, hl, hxl, hf⟩ := DataW.trod_struct Try.underlying44 h
  have hc : Try.prog.cellsOf 44 = 3 := by kernel_rfl
  have hi : Try.prog.cellsOf 3 = 1 := by kernel_rfl
  have hu : Try.prog.cellsOf 42 = 1 := by kernel_rfl
  rw [hc] at hl
  obtain ⟨c0, c1, c2, rfl⟩ : ∃ a b c, cs = [a, b, c] := by
    rcases cs with _ | ⟨a, _ | ⟨b, _ | ⟨c, _ | ⟨d, cs⟩⟩⟩⟩ <;> simp at hl
    exact ⟨a, b, c, rfl⟩
  obtain ⟨y0, y1, y2, rfl⟩ : ∃ a b c, xs = [a, b, c] := by
    rcases xs with _ | ⟨a, _ | ⟨b, _ | ⟨c, _ | ⟨d, xs⟩⟩⟩⟩ <;> simp at hxl
    exact ⟨a, b, c, rfl⟩
  have h0 : DataW.trod enc Try.prog W 0 (fun _ => true) true n' 3 (([c0, c1, c2].drop 0).take (Try.prog.cellsOf 3)) = some y0 := hf 0 _ rfl
  rw [hi] at h0
  have h1 : DataW.trod enc Try.prog W 0 (fun _ => true) true n' 42 (([c0, c1, c2].drop 1).take (Try.prog.cellsOf 42)) = some y1 := hf 1 _ rfl
  rw [hu] at h1
  have h2 : DataW.trod enc Try.prog W 0 (fun _ => true) true n' 42 (([c0, c1, c2].drop 2).take (Try.prog.cellsOf 42)) = some y2 := hf 2 _ rfl
  rw [hu] at h2
  obtain ⟨z0, e0, _, w0⟩ := DataW.trod_int Try.underlying3 (show DataW.trod enc Try.prog W 0 (fun _ => true) true n' 3 [c0] = some y0 from h0)
  obtain ⟨z1, e1, _, w1⟩ := DataW.trod_int Try.underlying42 (show DataW.trod enc Try.prog W 0 (fun _ => true) true n' 42 [c1] = some y1 from h1)
  obtain ⟨z2, e2, _, w2⟩ := DataW.trod_int Try.underlying42 (show DataW.trod enc Try.prog W 0 (fun _ => true) true n' 42 [c2] = some y2 from h2)
  simp at e0 e1 e2
  subst e0 e1 e2
  obtain ⟨b, rfl, hb⟩ := nat_u64 w1
  obtain ⟨c, rfl, hcc⟩ := nat_u64 w2
  exact ⟨z0, b, c, rfl, int_i64 w0, hb, hcc⟩
theorem el_spot (n : Nat) (cs : List Value) (x : DataW H × List MemPlace) (h : DataW.trod enc Try.prog W 0 (fun _ => true) true n 46 cs = some x) : ∃ s : Sp, cs = s.cs ∧ s.ok := by
  obtain ⟨xs, n', rfl, rfl, hl, hxl, hf⟩ := DataW.trod_struct Try.underlying46 h
  have hc : Try.prog.cellsOf 46 = 6 := by kernel_rfl
  have hi : Try.prog.cellsOf 44 = 3 := by kernel_rfl
  rw [hc] at hl
  obtain ⟨c0, c1, c2, c3, c4, c5, rfl⟩ : ∃ a b c d e f, cs = [a, b, c, d, e, f] := by
    rcases cs with _ | ⟨a, _ | ⟨b, _ | ⟨c, _ | ⟨d, _ | ⟨e, _ | ⟨f, _ | ⟨g, cs⟩⟩⟩⟩⟩⟩⟩ <;> simp at hl
    exact ⟨a, b, c, d, e, f, rfl⟩
  obtain ⟨y0, y1, rfl⟩ : ∃ a b, xs = [a, b] := by
    rcases xs with _ | ⟨a, _ | ⟨b, _ | ⟨c, xs⟩⟩⟩ <;> simp at hxl
    exact ⟨a, b, rfl⟩
  have h0 : DataW.trod enc Try.prog W 0 (fun _ => true) true n' 44 (([c0, c1, c2, c3, c4, c5].drop 0).take (Try.prog.cellsOf 44)) = some y0 := hf 0 _ rfl
  rw [hi] at h0
  have h1 : DataW.trod enc Try.prog W 0 (fun _ => true) true n' 44 (([c0, c1, c2, c3, c4, c5].drop 3).take (Try.prog.cellsOf 44)) = some y1 := hf 1 _ rfl
  rw [hi] at h1
  obtain ⟨q, r, d, e0, k1, k2, k3⟩ := el_frac n' [c0, c1, c2] y0 h0
  obtain ⟨q', r', d', e1, k4, k5, k6⟩ := el_frac n' [c3, c4, c5] y1 h1
  injection e0 with e0 e2; injection e2 with e2 e3; injection e3 with e3 _
  injection e1 with e1 e4; injection e4 with e4 e5; injection e5 with e5 _
  subst e0 e1 e2 e3 e4 e5
  exact ⟨⟨q, r, d, q', r', d'⟩, rfl, k1, k2, k3, k4, k5, k6⟩
theorem open_pts {v : Value} {base : Nat} {d : DataW H} {p : List MemPlace} (hv : Value.okWide Try.prog W .any base 23 v) (h : DataW.Trod enc Try.prog W 0 (fun _ => true) true 23 v d p) : ∃ l, RdP W W.heap.size v l := by
  obtain ⟨l, a, c, e, h1, h2, h3, _⟩ := open_rows Try.underlying23 (fun s : P2 => [.int .i64 s.1, .int .i64 s.2]) _ 2 (by omega) (by kernel_rfl) (fun _ => rfl) el_pt hv h
  exact ⟨l, a, c, e, h1, h2, h3⟩
theorem open_pts_in {v : Value} {base : Nat} {d : DataW H} {p : List MemPlace} (hv : Value.okWide Try.prog W .any base 23 v) (h : DataW.Trod enc Try.prog W 0 (fun _ => true) true 23 v d p) :
    ∃ l, RdP W W.heap.size v l ∧ ∀ s ∈ l, (-9223372036854775808 ≤ s.1 ∧ s.1 < 9223372036854775808) ∧ (-9223372036854775808 ≤ s.2 ∧ s.2 < 9223372036854775808) := by
  obtain ⟨l, a, c, e, h1, h2, h3, h4⟩ := open_rows Try.underlying23 (fun s : P2 => [.int .i64 s.1, .int .i64 s.2]) _ 2 (by omega) (by kernel_rfl) (fun _ => rfl) el_pt hv h
  exact ⟨l, ⟨a, c, e, h1, h2, h3⟩, h4⟩
instance : Inhabited Sp := ⟨⟨0, 0, 0, 0, 0, 0⟩⟩
theorem open_spots {v : Value} {base : Nat} {d : DataW H} {p : List MemPlace} (hv : Value.okWide Try.prog W .any base 22 v) (h : DataW.Trod enc Try.prog W 0 (fun _ => true) true 22 v d p) : ∃ l, RdS W W.heap.size v l := by
  obtain ⟨l, a, c, e, h1, h2, h3, h4⟩ := open_rows Try.underlying22 Sp.cs Sp.ok 6 (by omega) (by kernel_rfl) (fun _ => rfl) el_spot hv h
  exact ⟨l, a, c, e, h1, h2, h3, h4⟩
end
end Go.Proofs.Ytgfioofloaeecaa
