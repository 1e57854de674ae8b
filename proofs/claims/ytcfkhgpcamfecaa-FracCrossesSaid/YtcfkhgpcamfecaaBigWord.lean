/- The reference's big numbers: Word. -/
import Derived.Test.YtcfkhgpcamfecaaBigMade
import Derived.Outline
namespace Go.Proofs.Ytcfkhgpcamfecaa
open Go.RowKit Big
set_option linter.unusedVariables false
set_option maxRecDepth 100000

theorem own_wd {base : Nat} {e : TypeId} {w : World} {v : Value} {n : Nat} {O : List Nat} (h : w.ownsRow base e 1 v n (u64s O)) (hn : n = O.length) (hd : Dig O) (hl : O.length ≤ 1000000) :
    ∃ a c, v = .slice a O.length c ∧ Wd w w.heap.size a c O := by
  subst hn
  have hnone : v.ownBlock = none → v = .slice none 0 0 := by
    intro e
    obtain ⟨_, (⟨rfl, _⟩ | ⟨k, cap, cur, rfl, _⟩)⟩ := h
    · rfl
    · cases e
  obtain ⟨a, c, rfl, h1, h2, h3⟩ := Vals.of_own h
  refine ⟨a, c, rfl, h3.to_nums, hd, h1, hl, fun e => ?_⟩
  subst e
  have := hnone rfl
  injection this

set_option maxHeartbeats 1000000 in
theorem word_any (N : Nat) (w : World) (hN : N < 18446744073709551616) :
    Calls Try.prog 14 #[.int .u64 (N : Int)] w (BigPost w (N : Int) 4) := by
  obtain ⟨i0, hi0, hz0, hz1, hz2⟩ := info_parts u64info
  obtain ⟨w0, hw0⟩ : ∃ w0, w0 = w.alloc (.cells #[.bool false, .slice none 0 0] 29) := ⟨_, rfl⟩
  have hb0 : Below w.heap.size w w0 := by rw [hw0]; exact (Below.refl _ _).alloc (Nat.le_refl _) _
  have hA0 : Whole w0 w.heap.size 29 #[.bool false, .slice none 0 0] := by rw [hw0]; exact Whole.new w _ _
  have hs0 : w0.heap.size = w.heap.size + 1 := by rw [hw0]; simp
  have hlen := dig_length 4 N (by omega)
  have hval := val_dig N
  have hnorm := dig_norm N
  have Hlen := Lib.hid hlen
  have Hval := Lib.hid hval
  have Hnorm := Lib.hid hnorm
  have HN := Lib.hid hN
  have Hs := Lib.hid hs0
  clear hlen hval hnorm hs0 hN
  go_enter Try.func14, Try.ntmps14
  go_wp2_with fail
  rw [← hw0]
  have Hw0 := Lib.hid hw0
  clear hw0
  go_loopw [0, 3] (fun x v W => ∃ (m : Nat) (O : List Nat), x = .int .u64 (m : Int) ∧ m < 18446744073709551616 ∧ Hid (dig N = O ++ dig m) ∧ W.ownsRow w0.heap.size 22 1 v O.length (u64s O) ∧ Below w0.heap.size w0 W) (fun x _ _ => (intOf x).toNat)
  case atStart => exact ⟨N, [], rfl, HN.out, rfl, ⟨rfl, .inl ⟨rfl, rfl⟩⟩, Below.refl _ _⟩
  case round =>
    obtain ⟨m, O, rfl, hm, hd, hown, hb⟩ := hrel
    have hOl : O.length ≤ 4 := by have := Hlen.out; rw [hd.out, List.length_append] at this; omega
    have hbs := hb.size
    by_cases h0 : m = 0
    · subst h0
      have hO : dig N = O := by rw [hd.out, dig_zero, List.append_nil]
      have hdO : Dig O := by rw [← hO]; exact Hnorm.out.1
      obtain ⟨a, c, rfl, hWd⟩ := own_wd hown rfl hdO (by omega)
      have hWA : Whole wr w.heap.size 29 #[.bool false, .slice none 0 0] := hA0.below hb (by rw [Hs.out]; omega)
      have hI : IsBig wr wr.heap.size (.agg #[.bool false, .slice a O.length c]) (N : Int) 4 :=
        ⟨false, a, c, O, rfl, hWd, by rw [← hO]; exact Hnorm.out, hOl, by simp [sv, ← hO, Hval.out], by simp⟩
      have hbw : Below w.heap.size w wr := hb0.trans (hb.mono hb0.size)
      have HI := Lib.hid hI
      have HO := Lib.hid hO
      clear hO hown hd hWd hI
      have b0 : wr.cell? ⟨w.heap.size, 0, none⟩ = some (.bool false) := hWA.cell 0
      have b1 : wr.cell? ⟨w.heap.size, 1, none⟩ = some (.slice none 0 0) := hWA.cell 1
      have f0 := hWA.frozen 0
      have f1 := hWA.frozen 1
      go_wp2_with fail
      obtain ⟨k1, k2⟩ := big_put hWA HI.out
      exact bodyPost_ret (results_cell_row rfl _ _ w.heap.size 29 _ (0, 0) _ rfl k2 Try.underlying29 rfl (by kernel_rfl)) rfl ⟨_, rfl, k1, (hbw.setCell (Nat.le_refl _) _).setCell (Nat.le_refl _) _⟩
    · have hpos : 0 < m := by omega
      have Hl1 : Hid (O.length + 1 ≤ maxLen) := by unfold Hid maxLen; omega
      have Hl2 : Hid ((O.length + 1) * 8 ≤ 140737488355328) := by unfold Hid; omega
      have Hls : Hid (u64s O ++ [Value.int .u64 ((m : Int) % 65536)] = u64s (O ++ [m % 65536])) := by simp [u64s, Hid]
      have Hdn : Hid (dig N = (O ++ [m % 65536]) ++ dig (m / 65536)) := by
        show dig N = _
        rw [hd.out, dig_pos hpos]; simp
      have hmd : m / 65536 < 18446744073709551616 := by omega
      clear h0
      go_wp2_with (at_builtin; refine app_one rfl (.tmp 6) (.tmp 9) 27 rfl w0.heap.size 22 i0 _ 8 Try.underlying27 hi0 hz0 hz1 hz2 rfl _ _ _ rfl hown _ 1 rfl rfl Hl1.out Hl2.out hbs ?_)
      intro v1 w1 h2 h3 _
      rw [Hls.out] at h2
      have hb2 := below_of_grown hb hown h3 hbs
      clear h3 hown hb
      go_wp2
      go_roundw
      case rel => exact ⟨m / 65536, O ++ [m % 65536], rfl, hmd, Hdn.out, by simpa using h2, hb2⟩
      case measure => simp [intOf] <;> omega
end Go.Proofs.Ytcfkhgpcamfecaa
