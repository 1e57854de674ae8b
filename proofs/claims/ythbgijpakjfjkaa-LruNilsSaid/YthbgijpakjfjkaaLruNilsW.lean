/- Layer 34: the walk of LruNils. -/
import Derived.Test.YthbgijpakjfjkaaLru9
import Derived.Test.YthbgijpakjfjkaaLruAct
namespace Go.Proofs.Ythbgijpakjfjkaa
open Go.RowKit
set_option linter.unusedVariables false
set_option maxRecDepth 100000

set_option maxHeartbeats 4000000 in
theorem put_zero (g base sz h m : Nat) (es : List En) (s : ByteArray) (v : Value) (w : World) (H : Lru w base g 0 sz h m es) : Calls Try.prog 13 #[.pointer (some ⟨g, 0, none⟩), .string s, v] w (PutNo w) := by
  obtain ⟨mark, mp, n', D, hS, hM, hN, hKy⟩ := H.ex
  have c0 : w.cell? ⟨g, 0, none⟩ = some (.int .i64 0) := by rw [hS.cache.cell]; rfl
  clear hS hM hN hKy H
  go_enter Try.func13, Try.ntmps13
  go_wp2_with fail
  go_ret
  exact ⟨rfl, rfl⟩
theorem len_zero (g base ent sz h m : Nat) (w : World) (H : Lru w base g ent sz h m []) : Calls Try.prog 18 #[.pointer (some ⟨g, 0, none⟩)] w fun e w' => e = .returned (.int .i64 0) ∧ w = w' := len_any g base ent sz h m [] w H
set_option maxHeartbeats 8000000 in
theorem lruNils_walk (v : Value) (w : World) (H : ActArg w v) : Calls Try.prog 5 #[v] w fun e w' => e = .returned (.bool true) ∧ Below w.heap.size w w' := by
  obtain ⟨k, s, a, cap, bs, rfl, _, _, _, _, _, _⟩ := H
  go_enter Try.func5, Try.ntmps5
  go_upto_region 1 with (fail)
  obtain ⟨b, hb⟩ : ∃ b, b = w.heap.size := ⟨_, rfl⟩
  obtain ⟨X0, hX0⟩ : ∃ X, X = w.alloc (.cells #[.int .i64 k, .string s, .slice a bs.length cap] 33) := ⟨_, rfl⟩
  have hW : Whole X0 b 33 #[.int .i64 k, .string s, .slice a bs.length cap] := by rw [hX0, hb]; exact Whole.new w _ _
  have hB0 : Below w.heap.size w X0 := by rw [hX0]; exact (Below.refl _ _).alloc (Nat.le_refl _) _
  rw [← hX0, ← hb]
  have x1 : X0.cell? ⟨b, 1, none⟩ = some (.string s) := by rw [hW.cell]; rfl
  have x2 : X0.cell? ⟨b, 2, none⟩ = some (.slice a bs.length cap) := by rw [hW.cell]; rfl
  have hbl : b < X0.heap.size := hW.lt
  have HB0 := Lib.hid hB0
  clear hX0 hb hW hB0
  by_cases hd : 500 < wrap64 ((s.size : Int) + (bs.length : Int))
  · have d1 : decide (500 < wrap64 ((s.size : Int) + (bs.length : Int))) = true := decide_eq_true hd
    have HL := Lib.hid (live34_any X0)
    go_wp2_with fail
    refine HL.out.mono ?_
    rintro e X1 ⟨rfl, hB1⟩
    have HB1 := Lib.hid (HB0.out.trans (hB1.mono HB0.out.size))
    clear hB1 HB0 HL x1 x2
    go_wp2_with fail
    go_ret
    exact ⟨rfl, HB1.out⟩
  · have d1 : decide (500 < wrap64 ((s.size : Int) + (bs.length : Int))) = false := decide_eq_false hd
    have Hnew := Lib.hid (new_any 0 1000 0 1000 X0 (.inl ⟨by omega, rfl⟩) (.inr ⟨rfl, by omega⟩))
    go_wp2_with fail
    refine (clear_nil _).mono ?_
    rintro e X ⟨rfl, rfl⟩
    go_wp2_with fail
    refine (get_nil _ _).mono ?_
    rintro e X ⟨rfl, rfl⟩
    go_wp2_with fail
    refine (counts_nil _).mono ?_
    rintro e X ⟨rfl, rfl⟩
    go_wp2_with fail
    refine Hnew.out.mono ?_
    rintro e X1 ⟨g, rfl, hL1, hB1⟩
    have y1 : X1.cell? ⟨b, 1, none⟩ = some (.string s) := (hB1.cell hbl).trans x1
    have y2 : X1.cell? ⟨b, 2, none⟩ = some (.slice a bs.length cap) := (hB1.cell hbl).trans x2
    have HB1 := Lib.hid (HB0.out.trans (hB1.mono HB0.out.size))
    have HP := Lib.hid (put_zero g X0.heap.size 1000 0 0 [] s (.slice a bs.length cap) X1 hL1)
    have HN := Lib.hid (len_zero g X0.heap.size 0 1000 0 0 X1 hL1)
    have HL := Lib.hid (live34_any X1)
    clear hL1 hB1 x1 x2 Hnew HB0 hbl
    go_wp2_with fail
    refine (put_nil _ _ _).mono ?_
    rintro e X ⟨rfl, rfl⟩
    go_wp2_with fail
    refine HP.out.mono ?_
    rintro e X ⟨rfl, rfl⟩
    go_wp2_with fail
    refine (keys_nil _).mono ?_
    rintro e X ⟨rfl, rfl⟩
    go_wp2_with fail
    refine (len_nil _).mono ?_
    rintro e X ⟨rfl, rfl⟩
    go_wp2_with fail
    refine (size_nil _).mono ?_
    rintro e X ⟨rfl, rfl⟩
    go_wp2_with fail
    refine HN.out.mono ?_
    rintro e X ⟨rfl, rfl⟩
    go_wp2_with fail
    refine HL.out.mono ?_
    rintro e X2 ⟨rfl, hB2⟩
    have HB2 := Lib.hid (HB1.out.trans (hB2.mono HB1.out.size))
    clear hB2 HB1 HL HN HP y1 y2
    go_wp2_with fail
    go_ret
    exact ⟨rfl, HB2.out⟩
end Go.Proofs.Ythbgijpakjfjkaa
