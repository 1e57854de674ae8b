/- The walk over the statement HilbNear. -/
import Derived.Test.YtnghefakcocchaaHilbAbove
namespace Go.Proofs.Ytnghefakcocchaa
open Go.RowKit Hilb
set_option linter.unusedVariables false
attribute [local go_sem ↓] Go.wp_at_zero Go.wp_at_succ

theorem of_at (z d : Nat) (hz : z ≤ 30) (hd : d < 4 ^ z) : ∀ i : Int, i = ((fst z + d : Nat) : Int) → ∀ w,
    Calls Try.prog 17 #[.int .u64 i] w fun e w' => e = .returned (.tuple #[.agg #[.int .i64 (z : Int), .int .i64 ((pln z d).1 : Nat), .int .i64 ((pln z d).2 : Nat)], .int .i64 0]) ∧ Below w.heap.size w w' := by
  rintro i rfl w
  exact of_yes z d w hz hd _ rfl

theorem two_drewN {w w1 : World} {g h : Nat} {a b c d e f : Int} (H : two w w1 g h a b c d e f) (n : Nat) : two w (w1.drewN n) g h a b c d e f := by
  obtain ⟨h0, h1, h2, h3, h4, h5, h6, h7, h8⟩ := H
  exact ⟨h0, h1, h2, h3, h4, h5, below_drewN h6 n, h7, h8⟩
theorem two_alloc {w w1 : World} {g h : Nat} {a b c d e f : Int} (H : two w w1 g h a b c d e f) (o : Obj) : two w (w1.alloc o) g h a b c d e f := by
  obtain ⟨h0, h1, h2, h3, h4, h5, h6, h7, h8⟩ := H
  exact ⟨(World.cell?_alloc_lt _ _ _ h7).trans h0, (World.cell?_alloc_lt _ _ _ h7).trans h1, (World.cell?_alloc_lt _ _ _ h7).trans h2, (World.cell?_alloc_lt _ _ _ h8).trans h3, (World.cell?_alloc_lt _ _ _ h8).trans h4,
    (World.cell?_alloc_lt _ _ _ h8).trans h5, h6.alloc h6.size _, by simp; omega, by simp; omega⟩

theorem three_keep {w w1 w2 : World} {g h l : Nat} {a b c d e f : Int} {u v t : Value} (hb : Below w1.heap.size w1 w2) (H : (w1.cell? ⟨l, 0, none⟩ = some u ∧ w1.cell? ⟨l, 1, none⟩ = some v ∧ w1.cell? ⟨l, 2, none⟩ = some t ∧ l < w1.heap.size) ∧ two w w1 g h a b c d e f) :
    (w2.cell? ⟨l, 0, none⟩ = some u ∧ w2.cell? ⟨l, 1, none⟩ = some v ∧ w2.cell? ⟨l, 2, none⟩ = some t ∧ l < w2.heap.size) ∧ two w w2 g h a b c d e f :=
  ⟨⟨(hb.cell H.1.2.2.2).trans H.1.1, (hb.cell H.1.2.2.2).trans H.1.2.1, (hb.cell H.1.2.2.2).trans H.1.2.2.1, Nat.lt_of_lt_of_le H.1.2.2.2 hb.size⟩, two_keep hb H.2⟩
theorem three_drew {w w1 : World} {g h l : Nat} {a b c d e f : Int} {u v t : Value} (H : (w1.cell? ⟨l, 0, none⟩ = some u ∧ w1.cell? ⟨l, 1, none⟩ = some v ∧ w1.cell? ⟨l, 2, none⟩ = some t ∧ l < w1.heap.size) ∧ two w w1 g h a b c d e f) :
    (w1.drew.cell? ⟨l, 0, none⟩ = some u ∧ w1.drew.cell? ⟨l, 1, none⟩ = some v ∧ w1.drew.cell? ⟨l, 2, none⟩ = some t ∧ l < w1.drew.heap.size) ∧ two w w1.drew g h a b c d e f := ⟨H.1, two_drew H.2⟩

set_option maxHeartbeats 4000000 in
theorem hilbNear_core (z d zq x y xq yq id F30 : Nat) (dx dy : Int) (w : World) (hz : z < 30) (hd : d < 4 ^ z) (hid : id = fst z + d) (hF : F30 = fst 30) (hlt : id < F30) (hx : x = (pln z d).1) (hy : y = (pln z d).2)
    (hq : ∀ i : Int, i = ((id + 1 : Nat) : Int) → ∀ W, Calls Try.prog 17 #[.int .u64 i] W fun e w' => e = .returned (.tuple #[.agg #[.int .i64 (zq : Int), .int .i64 (xq : Int), .int .i64 (yq : Int)], .int .i64 0]) ∧ Below W.heap.size W w')
    (hdx : (x : Int) - (xq : Int) = dx) (hdy : (y : Int) - (yq : Int) = dy) (hsmall : z ≠ zq ∨ (zq = z ∧ ((dx = 0 ∧ (dy = 1 ∨ dy = -1)) ∨ (dy = 0 ∧ (dx = 1 ∨ dx = -1))))) :
    Calls Try.prog 5 #[.int .u64 (id : Int)] w fun e w' => e = .returned (.bool true) ∧ Below w.heap.size w w' := by
  have hlive := Lib.hid live_any
  have hf := fun W => Lib.hid (rfirst_any 30 W)
  rw [show cut31 30 = 30 by decide, ← hF] at hf
  have Hf := Lib.hid hf
  have hp := fun W => of_yes z d W (by omega) hd _ rfl
  rw [← hx, ← hy, ← hid] at hp
  have Hp := Lib.hid hp
  have Hq := Lib.hid hq
  have h4 : ∀ k, k < 4 → (pln (z + 1) (4 * d + k)).1 / 2 = x ∧ (pln (z + 1) (4 * d + k)).2 / 2 = y := by
    intro k hk
    have := pln_half z (4 * d + k)
    rw [show (4 * d + k) / 4 = d by omega] at this
    rw [hx, hy]
    exact this
  have hd4 : ∀ k, k < 4 → 4 * d + k < 4 ^ (z + 1) := by
    intro k hk; rw [Nat.pow_succ]; omega
  have hof := fun k (hk : k < 4) => of_at (z + 1) (4 * d + k) (by omega) (hd4 k hk)
  have hpar : ∀ k, k < 4 → ∀ W, Calls Try.prog 14 #[.agg #[.int .i64 ((z + 1 : Nat) : Int), .int .i64 ((pln (z + 1) (4 * d + k)).1 : Nat), .int .i64 ((pln (z + 1) (4 * d + k)).2 : Nat)], .int .i64 1] W
      fun e w' => e = .returned (.agg #[.int .i64 (z : Int), .int .i64 (x : Int), .int .i64 (y : Int)]) ∧ Below W.heap.size W w' := by
    intro k hk W
    have hl := pln_lt (z + 1) (4 * d + k)
    have := parent_yes (z + 1) (pln (z + 1) (4 * d + k)).1 (pln (z + 1) (4 * d + k)).2 1 W (by omega) hl.1 hl.2 (by omega)
    rw [show 2 ^ 1 = 2 from rfl, (h4 k hk).1, (h4 k hk).2, Nat.add_sub_cancel] at this
    exact this
  have Hof := Lib.hid hof; have Hpar := Lib.hid hpar
  have h62 : fst (z + 1) + 4 * d + 4 < 4611686018427387904 := by
    have h2 : fst (z + 2) ≤ fst 31 := fst_mono (by omega)
    have h3 : fst 31 < 4611686018427387904 := by decide +kernel
    have e1 : fst (z + 2) = fst (z + 1) + 4 ^ (z + 1) := rfl
    rw [Nat.pow_succ] at e1
    omega
  have hid62 : id < 4611686018427387904 := by
    have e1 : fst (z + 1) = fst z + 4 ^ z := rfl
    omega
  have hsub : IntKind.u64.wrap ((id : Int) - ((fst z : Nat) : Int)) = (d : Int) := by
    rw [hid, show (((fst z + d : Nat) : Int) - ((fst z : Nat) : Int)) = (d : Int) by omega]; exact u64_wrap d (by omega)
  have Hsub := Lib.hid hsub
  have hf1 : ∀ i : Int, i = ((z + 1 : Nat) : Int) → ∀ W, Calls Try.prog 13 #[.int .i64 i] W fun e w' => e = .returned (.int .u64 (fst (z + 1) : Nat)) ∧ w' = W := by
    rintro i rfl W
    have := rfirst_any ((z + 1 : Nat) : Int) W
    rw [show cut31 ((z + 1 : Nat) : Int) = z + 1 by unfold cut31; rw [if_pos (by omega)]; omega] at this
    exact this.mono fun _ _ h => ⟨h.1, h.2.symm⟩
  have hf0 : ∀ i : Int, i = (z : Int) → ∀ W, Calls Try.prog 13 #[.int .i64 i] W fun e w' => e = .returned (.int .u64 (fst z : Nat)) ∧ w' = W := by
    rintro i rfl W
    have := rfirst_any (z : Int) W
    rw [show cut31 (z : Int) = z by unfold cut31; rw [if_pos (by omega)]; omega] at this
    exact this.mono fun _ _ h => ⟨h.1, h.2.symm⟩
  have Hf0' := Lib.hid hf0; have Hf1 := Lib.hid hf1
  clear hf hp hq h4 hd4 hof hpar hsub hf0 hf1 hF hx hy hid hd
  generalize fst (z + 1) = G at *
  generalize fst z = F at *
  have hnF : ¬ F30 ≤ id := by omega
  go_enter Try.func5, Try.ntmps5
  go_wp2_with fail
  refine ((Hf.out _).out).mono ?_
  rintro e w' ⟨rfl, rfl⟩
  go_wp2_with fail
  refine (Hp.out _).mono ?_
  rintro e w1 ⟨rfl, hb1⟩
  go_wp2_with fail
  refine (Hq.out _ (by omega) _).mono ?_
  rintro e w2 ⟨rfl, hb2⟩
  have hs1 : w.heap.size ≤ w1.heap.size := hb1.size
  have hlt2 : w1.heap.size < w2.heap.size := by have := hb2.size; simp at this; omega
  have hT : two w (w2.alloc (.cells #[.int .i64 (zq : Int), .int .i64 (xq : Int), .int .i64 (yq : Int)] 23)) w1.heap.size w2.heap.size z x y zq xq yq := by
    have hn := fun i => (Whole.new w2 23 #[.int .i64 (zq : Int), .int .i64 (xq : Int), .int .i64 (yq : Int)]).cell i
    have ho := fun i => (Whole.new w1 23 #[.int .i64 (z : Int), .int .i64 (x : Int), .int .i64 (y : Int)]).cell i
    have hk := fun i => (World.cell?_alloc_lt w2 (.cells #[.int .i64 (zq : Int), .int .i64 (xq : Int), .int .i64 (yq : Int)] 23) ⟨w1.heap.size, i, none⟩ hlt2).trans (hb2.cell (p := ⟨w1.heap.size, i, none⟩) (by simp))
    refine ⟨(hk 0).trans (ho 0), (hk 1).trans (ho 1), (hk 2).trans (ho 2), hn 0, hn 1, hn 2, ((hb1.alloc hs1 _).trans (hb2.mono (by simp; omega))).alloc (by omega) _, by simp; omega, by simp⟩
  clear hb1 hb2 hs1 hlt2
  go_wp2_with (go_at_call 11; refine (code_any _ _).mono ?_; rintro e w' ⟨rfl, rfl⟩)
  generalize w2.alloc (.cells #[.int .i64 (zq : Int), .int .i64 (xq : Int), .int .i64 (yq : Int)] 23) = w3 at *
  generalize w2.heap.size = h at *
  generalize w1.heap.size = g at *
  have hT0 := hT
  obtain ⟨c0, c1, c2, d0, d1, d2, hB', hg, hh⟩ := hT
  go_quiet (fail)
  have hT1 : two w (w3.drewN nq) g h z x y zq xq yq := two_drewN hT0 _
  generalize w3.drewN nq = w4 at *
  clear c0 c1 c2 d0 d1 d2 hB' hg hh hT0
  have hT0 := hT1
  obtain ⟨c0, c1, c2, d0, d1, d2, hB', hg, hh⟩ := hT1
  have hcond : ((z == zq) = false ∧ ((z : Int) == (zq : Int)) = false) ∨ (((z == zq) = true ∧ ((z : Int) == (zq : Int)) = true) ∧ dx = 0 ∧ dy = 1) ∨ (((z == zq) = true ∧ ((z : Int) == (zq : Int)) = true) ∧ dx = 0 ∧ dy = -1) ∨ (((z == zq) = true ∧ ((z : Int) == (zq : Int)) = true) ∧ dx = 1 ∧ dy = 0) ∨ (((z == zq) = true ∧ ((z : Int) == (zq : Int)) = true) ∧ dx = -1 ∧ dy = 0) := by
    rcases hsmall with h | ⟨h0, ⟨h1, h2 | h2⟩ | ⟨h1, h2 | h2⟩⟩
    · exact .inl ⟨by simpa using h, by simp; omega⟩
    · exact .inr (.inl ⟨⟨by simp [h0], by simp [h0]⟩, h1, h2⟩)
    · exact .inr (.inr (.inl ⟨⟨by simp [h0], by simp [h0]⟩, h1, h2⟩))
    · exact .inr (.inr (.inr (.inl ⟨⟨by simp [h0], by simp [h0]⟩, h2, h1⟩)))
    · exact .inr (.inr (.inr (.inr ⟨⟨by simp [h0], by simp [h0]⟩, h2, h1⟩)))
  clear hsmall
  have hw0 : wrap64 0 = 0 := IntWalk.wrap64_in _ ⟨by omega, by omega⟩
  have hw1 : wrap64 1 = 1 := IntWalk.wrap64_in _ ⟨by omega, by omega⟩
  have hwm : wrap64 (-1) = -1 := IntWalk.wrap64_in _ ⟨by omega, by omega⟩
  rcases hcond with ⟨hz1, hz2⟩ | ⟨⟨hz1, hz2⟩, rfl, rfl⟩ | ⟨⟨hz1, hz2⟩, rfl, rfl⟩ | ⟨⟨hz1, hz2⟩, rfl, rfl⟩ | ⟨⟨hz1, hz2⟩, rfl, rfl⟩
  all_goals
    go_wp2
    clear hw0 hw1 hwm hdx hdy
    have hsub := Hsub.out
    have hwz : IntKind.i64.wrap ((z : Int) + 1) = (z : Int) + 1 := IntWalk.i64_in _ ⟨by omega, by omega⟩
    have hwd : IntKind.u64.wrap (4 * (d : Int)) = 4 * (d : Int) := IntWalk.u64_in _ ⟨by omega, by omega⟩
    have hwg : IntKind.u64.wrap ((G : Int) + 4 * (d : Int)) = (G : Int) + 4 * (d : Int) := IntWalk.u64_in _ ⟨by omega, by omega⟩
    go_quiet ((first
      | (go_at_call 13; refine Calls.quiet_of_same (Hf1.out _ ?_ _); omega)
      | (go_at_call 13; refine Calls.quiet_of_same (Hf0'.out _ ?_ _); omega)))
    have hT2 : two w (w4.drewN nq) g h z x y zq xq yq := two_drewN hT0 _
    generalize w4.drewN nq = w5 at *
    clear c0 c1 c2 d0 d1 d2 hB' hg hh hT0 hsub hwz hwd
    have Hwg := Lib.hid hwg; clear hwg
    go_wp2_with fail
    go_loopw [10] (fun k W => ∃ j : Nat, j ≤ 4 ∧ k = .int .u64 j ∧ two w W g h z x y zq xq yq) (fun k _ => 4 - (intOf k).toNat)
    case atStart => exact ⟨0, by omega, rfl, hT2⟩
    case round =>
      obtain ⟨j, hj, rfl, hT⟩ := hrel
      by_cases hlt4 : j < 4
      · have hO := Lib.hid (Hof.out j hlt4)
        have hP := Lib.hid (Hpar.out j hlt4)
        generalize (pln (z + 1) (4 * d + j)).1 = px at *
        generalize (pln (z + 1) (4 * d + j)).2 = py at *
        have hz1 : ((z + 1 : Nat) : Int) = (z : Int) + 1 := by omega
        generalize hzz : z + 1 = z1 at *
        clear hz1 hzz
        go_wp2_with fail
        refine (hO.out _ ?_ _).mono ?_
        · first | omega | (simp; omega)
        rintro e w6 ⟨rfl, hb6⟩
        have hT6 := two_keep hb6 hT
        have hS : (( w6.alloc (.cells #[.int .i64 (z1 : Int), .int .i64 (px : Int), .int .i64 (py : Int)] 23)).cell? ⟨w6.heap.size, 0, none⟩ = some (.int .i64 (z1 : Int)) ∧
            (w6.alloc (.cells #[.int .i64 (z1 : Int), .int .i64 (px : Int), .int .i64 (py : Int)] 23)).cell? ⟨w6.heap.size, 1, none⟩ = some (.int .i64 (px : Int)) ∧
            (w6.alloc (.cells #[.int .i64 (z1 : Int), .int .i64 (px : Int), .int .i64 (py : Int)] 23)).cell? ⟨w6.heap.size, 2, none⟩ = some (.int .i64 (py : Int)) ∧
            w6.heap.size < (w6.alloc (.cells #[.int .i64 (z1 : Int), .int .i64 (px : Int), .int .i64 (py : Int)] 23)).heap.size) ∧ two w (w6.alloc (.cells #[.int .i64 (z1 : Int), .int .i64 (px : Int), .int .i64 (py : Int)] 23)) g h z x y zq xq yq := by
          have hn := fun i => (Whole.new w6 23 #[.int .i64 (z1 : Int), .int .i64 (px : Int), .int .i64 (py : Int)]).cell i
          exact ⟨⟨hn 0, hn 1, hn 2, by simp⟩, two_alloc hT6 _⟩
        clear hT hb6 hT6
        go_wp2_with fail
        generalize w6.alloc (.cells #[.int .i64 (z1 : Int), .int .i64 (px : Int), .int .i64 (py : Int)] 23) = w7 at *
        generalize w6.heap.size = l at *
        go_region_held3 (fun w1 => (w1.cell? ⟨l, 0, none⟩ = some (.int .i64 (z1 : Int)) ∧ w1.cell? ⟨l, 1, none⟩ = some (.int .i64 (px : Int)) ∧ w1.cell? ⟨l, 2, none⟩ = some (.int .i64 (py : Int)) ∧ l < w1.heap.size) ∧
            (w1.cell? ⟨g, 0, none⟩ = some (.int .i64 (z : Int)) ∧ w1.cell? ⟨g, 1, none⟩ = some (.int .i64 (x : Int)) ∧ w1.cell? ⟨g, 2, none⟩ = some (.int .i64 (y : Int)) ∧
            w1.cell? ⟨h, 0, none⟩ = some (.int .i64 (zq : Int)) ∧ w1.cell? ⟨h, 1, none⟩ = some (.int .i64 (xq : Int)) ∧ w1.cell? ⟨h, 2, none⟩ = some (.int .i64 (yq : Int)) ∧ Below w.heap.size w w1 ∧ g < w1.heap.size ∧ h < w1.heap.size))
          (first | exact three_drew hS | exact three_keep hbb (by assumption) | assumption)
          (first
            | (go_at_call 11; refine (code_any _ _).mono ?_; rintro e w' ⟨rfl, rfl⟩)
            | (go_at_call 14; refine (hP.out _).mono ?_; rintro e w' ⟨rfl, hbb⟩))
        clear hS
        rename_i hS
        have hT8 := hS.2
        clear hS
        go_wp2
        go_roundw
        case rel => exact ⟨j + 1, by omega, by go_num, hT8⟩
        case measure => simp [intOf]; omega
      · obtain rfl : j = 4 := by omega
        go_wp2_with (go_at_call 16; (refine (hlive.out _).mono ?_); rintro e w7 ⟨rfl, hj⟩)
        go_ret
        exact ⟨rfl, keepB hj hT.2.2.2.2.2.2.1⟩

theorem hilbNear_walk (id : Nat) (w : World) (hid : id < 18446744073709551616) :
    Calls Try.prog 5 #[.int .u64 (id : Int)] w fun e w' => e = .returned (.bool true) ∧ Below w.heap.size w w' := by
  by_cases hbig : fst 30 ≤ id
  · have hlive := Lib.hid live_any
    have hf := fun W => Lib.hid (rfirst_any 30 W)
    rw [show cut31 30 = 30 by decide] at hf
    have Hf := Lib.hid hf; clear hf
    generalize fst 30 = F at *
    go_enter Try.func5, Try.ntmps5
    go_wp2_with (first
      | (go_at_call 13; (refine ((Hf.out _).out).mono ?_); rintro e w' ⟨rfl, rfl⟩)
      | (go_at_call 16; (refine (hlive.out _).mono ?_); rintro e w' ⟨rfl, hj⟩))
    go_ret
    exact ⟨rfl, hj⟩
  · obtain ⟨z, hz, hz1, hz2⟩ := zoom_of 30 id (by omega)
    obtain ⟨d, rfl⟩ : ∃ d, id = fst z + d := ⟨id - fst z, by omega⟩
    rw [fst_succ] at hz2
    by_cases hn : d + 1 < 4 ^ z
    · have hnear := pln_near z d hn
      refine hilbNear_core z d z _ _ (pln z (d + 1)).1 (pln z (d + 1)).2 _ _ _ _ w hz (by omega) rfl rfl (by omega) rfl rfl ?_ rfl rfl (.inr ⟨rfl, ?_⟩)
      · intro i hi W
        exact of_at z (d + 1) (by omega) hn i (by rw [hi]; omega) W
      · unfold near at hnear
        omega
    · have hd1 : d + 1 = 4 ^ z := by omega
      refine hilbNear_core z d (z + 1) _ _ 0 0 _ _ _ _ w hz (by omega) rfl rfl (by omega) rfl rfl ?_ rfl rfl (.inl (by omega))
      intro i hi W
      have := of_at (z + 1) 0 (by omega) (p4 _) i (by rw [hi, fst_succ]; omega) W
      rw [pln_zero] at this
      exact this
end Go.Proofs.Ytnghefakcocchaa
