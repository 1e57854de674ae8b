/- RefDataF -/
import Derived.Test.YtngnhkghpnamoaaGc26
import Derived.Test.YtngnhkghpnamoaaGc42
import Derived.Test.YtngnhkghpnamoaaDefRef
import Derived.Test.YtngnhkghpnamoaaBitRef
import Derived.Test.YtngnhkghpnamoaaHuffRef3
namespace Go.Proofs.Ytngnhkghpnamoaa
open Go.RowKit Huff Bit
set_option linter.unusedVariables false
set_option maxRecDepth 100000

theorem digs_get (V m : Nat) : ∀ k i, i < k → (digs V k)[i]? = some (48 + V / 2 ^ (k - 1 - i) % 2)
  | 0, i, h => by omega
  | k + 1, 0, h => by show ([48 + V / 2 ^ k % 2] ++ digs V k)[0]? = _; simp
  | k + 1, i + 1, h => by
    show ([48 + V / 2 ^ k % 2] ++ digs V k)[i + 1]? = _
    simp only [List.singleton_append, List.getElem?_cons_succ]
    rw [digs_get V m k i (by omega), show k + 1 - 1 - (i + 1) = k - 1 - i by omega]
def BoolPost (w : World) (l : List Bool) (e : Ending) (w' : World) : Prop := ∃ v, e = .returned v ∧ w'.ownsRow w.heap.size 4 1 v l.length (bools l) ∧ Below w.heap.size w w'
set_option maxHeartbeats 2000000 in
theorem rcode_any (V m : Nat) (w : World) (hm : m ≤ 32) : Calls Try.prog 32 #[.string (strOf (digs V m))] w (BoolPost w (turnL V m m)) := by
  obtain ⟨i0, hi0, hz0, hz1, hz2⟩ := info_parts boolinfo
  have hsz : (strOf (digs V m)).size = m := by rw [strOf_size, digs_length]
  have hget : ∀ i, i < m → (strOf (digs V m)).data[i]? = some (UInt8.ofNat (48 + V / 2 ^ (m - 1 - i) % 2)) := fun i hi => by
    show ((digs V m).map UInt8.ofNat).toArray[i]? = _
    rw [List.getElem?_toArray, List.getElem?_map, digs_get V m m i hi]; rfl
  obtain ⟨s, hs⟩ : ∃ s, strOf (digs V m) = s := ⟨_, rfl⟩
  rw [hs] at hsz hget ⊢
  have Hg := Lib.hid hget
  clear hs hget
  go_enter Try.func32, Try.ntmps32
  go_wp2_with fail
  go_loopw [3, 4] (fun v i W => ∃ k : Nat, k ≤ m ∧ i = .int .i64 (k : Int) ∧ Hid (W.ownsRow w.heap.size 4 1 v k (bools (turnL V m k))) ∧ Hid (Below w.heap.size w W)) (fun _ i _ => m - (intOf i).toNat)
  case atStart => exact ⟨0, Nat.zero_le _, rfl, ⟨rfl, .inl ⟨rfl, rfl⟩⟩, Below.refl _ _⟩
  case round =>
    obtain ⟨k, hk, rfl, HO, HB⟩ := hrel
    by_cases hlt : k < m
    · have d1 : decide ((k : Int) < (m : Int)) = true := decide_eq_true (by omega)
      have k0 : (0 : Int) ≤ (k : Int) := by omega
      have k1 : (k : Int) < (m : Int) := by omega
      have hgk := Hg.out k hlt
      have hks : k < s.size := by omega
      have hbit : (((s[k]'hks).toNat : Int) == 49) = bitAt V (m - 1 - k) := by
        have h1 : s[k]'hks = UInt8.ofNat (48 + V / 2 ^ (m - 1 - k) % 2) := by
          have h2 : s.data[k]? = some (s[k]'hks) := Array.getElem?_eq_getElem hks
          rw [hgk] at h2; injection h2 with h2; exact h2.symm
        rw [h1]
        unfold bitAt
        rcases Nat.mod_two_eq_zero_or_one (V / 2 ^ (m - 1 - k)) with h | h <;> rw [h] <;> rfl
      have hown := HO.out
      have hbs : w.heap.size ≤ wr.heap.size := HB.out.size
      have HO2 : Hid (∀ (X : World) (v' : Value), X.ownsRow w.heap.size 4 1 v' (k + 1) (bools (turnL V m k) ++ [.bool (bitAt V (m - 1 - k))]) → X.ownsRow w.heap.size 4 1 v' (k + 1) (bools (turnL V m (k + 1)))) := fun X v' h => by
        rw [turnL_succ]; simpa [bools] using h
      clear hgk
      go_wp2_with (at_builtin; go_must (refine app_one rfl (.tmp 11) (.tmp 16) 61 rfl w.heap.size 4 i0 _ 1 Try.underlying61 hi0 hz0 hz1 hz2 rfl u3 k _ rfl hown (.bool (bitAt V (m - 1 - k))) 1 (by simp [Act.eval]) rfl (by unfold maxLen; omega) (by omega) hbs ?_); intro v' w' h2 hg _)
      have HN2 := Lib.hid (HO2.out w' v' h2)
      have HB2 := Lib.hid (below_of_grown HB.out hown hg hbs)
      clear h2 hg hown
      go_roundw
      case rel => exact ⟨k + 1, hlt, by go_num, HN2.out, HB2.out⟩
      case measure => simp [intOf]; omega
    · obtain rfl : k = m := by omega
      have d1 : decide ((k : Int) < (k : Int)) = false := decide_eq_false (by omega)
      go_wp2_with fail
      go_ret
      exact ⟨_, rfl, by rw [turnL_length]; exact HO.out, HB.out⟩
end Go.Proofs.Ytngnhkghpnamoaa

namespace Go.Proofs.Ytngnhkghpnamoaa
open Go.RowKit Bit
set_option linter.unusedVariables false

/-- v owns the bits L in W; since X nothing older than X has turned but block g. -/
structure RS (base g : Nat) (X : World) (v : Value) (L : List Bool) (W : World) : Prop where
  own : W.ownsRow base 4 1 v L.length (bools L)
  only : Only (fun b => b = g) X W
  blk : v.ownBlock = some g ∨ ∃ q, v.ownBlock = some q ∧ X.heap.size ≤ q
theorem RS.below {base g : Nat} {X W W' : World} {v : Value} {L : List Bool} (h : RS base g X v L W) (hb : Below W.heap.size W W') : RS base g X v L W' :=
  ⟨own_only h.own (Only.of_below hb (fun _ => False)) (fun _ _ q => q), ⟨hb.os.trans h.only.os, hb.tape.trans h.only.tape, hb.output.trans h.only.output, Nat.le_trans h.only.size hb.size, fun k hk hs => (hb.block k (Nat.lt_of_lt_of_le hk h.only.size)).trans (h.only.block k hk hs)⟩, h.blk⟩
theorem RS.app {base g : Nat} {X W W' : World} {v v' : Value} {L M : List Bool} {n : Nat} (h : RS base g X v L W) (hn : n = M.length) (ho : W'.ownsRow base 4 1 v' (L.length + n) (bools L ++ bools M)) (hg : W.grownBy W' v.ownBlock)
    (hat : v'.ownBlock = v.ownBlock ∨ v'.ownBlock = some W.heap.size) : RS base g X v' (L ++ M) W' := by
  subst hn
  have e : bools (L ++ M) = bools L ++ bools M := by simp [bools]
  refine ⟨by rw [e, List.length_append]; exact ho, ⟨hg.os.trans h.only.os, hg.tape.trans h.only.tape, hg.output.trans h.only.output, Nat.le_trans h.only.size hg.size, fun k hk hs => (hg.block k (Nat.lt_of_lt_of_le hk h.only.size) ?_).trans (h.only.block k hk hs)⟩, ?_⟩
  · rcases h.blk with e | ⟨q, e, hq⟩
    · rw [e]; intro q; injection q with q; exact hs q
    · rw [e]; intro r; injection r with r; omega
  · rcases hat with e | e
    · rcases h.blk with e' | ⟨q, e', hq⟩
      · exact .inl (e.trans e')
      · exact .inr ⟨q, e.trans e', hq⟩
    · exact .inr ⟨_, e, h.only.size⟩
end Go.Proofs.Ytngnhkghpnamoaa

namespace Go.Proofs.Ytngnhkghpnamoaa
open Go.RowKit Huff Bit
set_option linter.unusedVariables false
set_option maxRecDepth 100000

theorem five_next (k : Nat) : (fillTo 32 k (fun _ => 5)).set (k % 32) 5 = fillTo 32 (k + 1) (fun _ => 5) := by
  apply List.ext_getElem
  · simp [fillTo]
  · intro i h1 h2
    have hi : i < 32 := by simpa [fillTo] using h2
    rw [List.getElem_set]
    simp only [fillTo, List.getElem_map, List.getElem_range]
    by_cases h : k % 32 = i
    · rw [if_pos h, if_pos (by omega)]
    · rw [if_neg h]
      by_cases hk : i < k
      · rw [if_pos hk, if_pos (by omega)]
      · rw [if_neg hk, if_neg (by omega)]
theorem five_full : fillTo 32 288 (fun _ => 5) = List.replicate 32 5 := by decide
theorem bools_one (l : List Bool) : ∀ u ∈ bools l, u.oneCell' = true := by
  intro u hu
  obtain ⟨x, _, rfl⟩ := List.mem_map.1 hu
  rfl
theorem text_at {W : World} {g i : Nat} (h : Whole W g 9 (strs (texts fixL)).toArray) (hi : i < 288) : W.cell? ⟨g, i, none⟩ = some (.string (strOf (digs (fixW i).1 (fixW i).2))) := by
  have hl : i < fixL.length := by rw [fixL_length]; exact hi
  rw [h.cell]
  simp only [List.getElem?_toArray, strs, texts, List.map_map, List.getElem?_map, List.getElem?_range hl, Option.map_some, Function.comp]
  unfold textOf
  rw [fixW_of hi]
theorem text5_at {W : World} {g i : Nat} (h : Whole W g 9 (strs (texts (List.replicate 32 5))).toArray) (hi : i < 32) : W.cell? ⟨g, i, none⟩ = some (.string (strOf (digs i 5))) := by
  have hl : i < (List.replicate 32 5).length := by rw [List.length_replicate]; exact hi
  rw [h.cell]
  simp only [List.getElem?_toArray, strs, texts, List.map_map, List.getElem?_map, List.getElem?_range hl, Option.map_some, Function.comp]
  unfold textOf
  rw [five_word hi]
set_option maxHeartbeats 8000000 in
theorem refData_fixed (A : Option Addr) (c : Nat) (l : List Nat) (w : World) (hb : Bytes255 l) (hl : l.length ≤ 400) (hN : Nums .u8 w w.heap.size A l) :
    Calls Try.prog 16 #[.slice A l.length c, .bool false] w fun e w' => ∃ a c', e = .returned (.slice a (fixedB hb).length c') ∧ Nums .u8 w' w'.heap.size a (fixedB hb) ∧ Below w.heap.size w w' := by
  obtain ⟨i0, hi0, hz0, hz1, hz2⟩ := info_parts boolinfo
  obtain ⟨i1, hi1, hy0, hy1, hy2⟩ := info_parts i64info
  have hmk := fun (W : World) (n : Nat) (hn : n ≤ 1000) => run_make (P := Try.prog) W 57 3 i1 _ Try.underlying57 hi1 hy0 .i64 .i64 (n : Int) (n : Int) (by omega) (Int.le_refl _) (by rw [hy2]; omega) (by omega)
  have hm1 : ∀ W, (Instr.makeSlice 57 (.int .i64 288) (.int .i64 288)).run Try.prog W = .ok (.slice (some ⟨W.heap.size, 0, none⟩) 288 288) (W.alloc (.cells (i64s (List.replicate 288 0)).toArray 3)) := fun W => by
    have := hmk W 288 (by omega)
    rw [hy1, show (Value.int .i64 0).cells = #[.int .i64 0] from rfl, Nat.mul_one, Int.toNat_natCast, imade] at this
    exact this
  have hm2 : ∀ W, (Instr.makeSlice 57 (.int .i64 32) (.int .i64 32)).run Try.prog W = .ok (.slice (some ⟨W.heap.size, 0, none⟩) 32 32) (W.alloc (.cells (i64s (List.replicate 32 0)).toArray 3)) := fun W => by
    have := hmk W 32 (by omega)
    rw [hy1, show (Value.int .i64 0).cells = #[.int .i64 0] from rfl, Nat.mul_one, Int.toNat_natCast, imade] at this
    exact this
  obtain ⟨A1, hA1⟩ : ∃ A, A = i64s (List.replicate 288 0) := ⟨_, rfl⟩
  obtain ⟨A2, hA2⟩ : ∃ A, A = i64s (List.replicate 32 0) := ⟨_, rfl⟩
  rw [← hA1] at hm1
  rw [← hA2] at hm2
  have HA1 := Lib.hid hA1
  have HA2 := Lib.hid hA2
  have Hfl := Lib.hid refFixed_any
  have HN := Lib.hid hN
  obtain ⟨L, hL⟩ : ∃ L, L = l.length := ⟨_, rfl⟩
  rw [← hL] at hl ⊢
  have HL := Lib.hid hL
  clear hmk hA1 hA2 hN hL
  go_enter Try.func16, Try.ntmps16
  go_wp2_with fail
  obtain ⟨g, hg⟩ : ∃ g, w.heap.size = g := ⟨_, rfl⟩
  obtain ⟨X1, hX1⟩ : ∃ X, (w.alloc (.cells A1.toArray 3)).alloc (.cells A2.toArray 3) = X := ⟨_, rfl⟩
  have HW0 : Hid (Whole X1 g 3 (i64s (fillTo 288 0 fxl)).toArray) := by show Whole _ _ _ _; rw [← hX1, ← hg, fillTo_start, ← HA1.out]; exact (Whole.new w _ _).alloc _
  have HV0 : Hid (Whole X1 (g + 1) 3 (i64s (fillTo 32 0 (fun _ => 5))).toArray) := by
    show Whole _ _ _ _
    rw [← hX1, ← hg, fillTo_start, ← HA2.out]
    have := Whole.new (w.alloc (.cells A1.toArray 3)) 3 A2.toArray
    rwa [World.size_alloc] at this
  have HB0 : Hid (Below w.heap.size w X1) := by show Below _ _ _; rw [← hX1]; exact ((Below.refl _ _).alloc (Nat.le_refl _) _).alloc (by simp) _
  rw [hX1, hg]
  have Hg := Lib.hid hg
  clear hX1 hg hm1 hm2
  go_loopw [10] (fun x W => ∃ k : Nat, k ≤ 288 ∧ x = .int .i64 (k : Int) ∧ Hid (Whole W g 3 (i64s (fillTo 288 k fxl)).toArray) ∧ Hid (Whole W (g + 1) 3 (i64s (fillTo 32 k (fun _ => 5))).toArray) ∧ Hid (Below w.heap.size w W)) (fun x _ => 288 - (intOf x).toNat)
  case atStart => exact ⟨0, by omega, rfl, HW0, HV0, HB0⟩
  case round =>
    obtain ⟨k, hk, rfl, HW, HV, HB⟩ := hrel
    clear HW0 HV0 HB0
    by_cases hlt : k < 288
    · obtain ⟨j, hj⟩ : ∃ j, j = k % 32 := ⟨_, rfl⟩
      have hj32 : j < 32 := by omega
      have hc : wr.cell? ⟨g, k, none⟩ = some (.int .i64 (((fillTo 288 k fxl)[k]'(by rw [fillTo_length]; exact hlt) : Nat) : Int)) := by
        rw [HW.out.cell]; simp [i64s, hlt, fillTo_length]
      have hf : wr.frozen? ⟨g, k, none⟩ = false := HW.out.frozen _
      have hc2 : wr.cell? ⟨g + 1, j, none⟩ = some (.int .i64 (((fillTo 32 k (fun _ => 5))[j]'(by rw [fillTo_length]; exact hj32) : Nat) : Int)) := by
        rw [HV.out.cell]; simp [i64s, hj32, fillTo_length]
      have hf2 : wr.frozen? ⟨g + 1, j, none⟩ = false := HV.out.frozen _
      have HW2 : Hid (Whole ((wr.setCell ⟨g, k, none⟩ (.int .i64 (fxl k : Int))).setCell ⟨g + 1, j, none⟩ (.int .i64 5)) g 3 (i64s (fillTo 288 (k + 1) fxl)).toArray) := by
        have := HW.out.seti k (fxl k)
        rw [fillTo_next _ _ _ hlt] at this; exact this.far (p := ⟨g + 1, j, none⟩) (by simp) _
      have HV2 : Hid (Whole ((wr.setCell ⟨g, k, none⟩ (.int .i64 (fxl k : Int))).setCell ⟨g + 1, j, none⟩ (.int .i64 5)) (g + 1) 3 (i64s (fillTo 32 (k + 1) (fun _ => 5))).toArray) := by
        have := (HV.out.far (p := ⟨g, k, none⟩) (by simp) (.int .i64 (fxl k : Int))).seti j 5
        rw [hj, five_next k, ← hj] at this; exact this
      have HB2 := Lib.hid ((HB.out.setCell (p := ⟨g, k, none⟩) (by rw [Hg.out]; exact Nat.le_refl _) (.int .i64 (fxl k : Int))).setCell (p := ⟨g + 1, j, none⟩) (by rw [Hg.out]; exact Nat.le_succ _) (.int .i64 5))
      have Hq := Lib.hid (Hfl.out k wr hlt)
      generalize fxl k = f at *
      generalize (fillTo 288 k fxl)[k]'(by rw [fillTo_length]; exact hlt) = f0 at *
      generalize (fillTo 32 k (fun _ => 5))[j]'(by rw [fillTo_length]; exact hj32) = f1 at *
      have d1 : decide ((k : Int) < 288) = true := decide_eq_true (by omega)
      have k0 : (0 : Int) ≤ (k : Int) := by omega
      have k1 : (k : Int) < 288 := by omega
      have j0 : (0 : Int) ≤ (j : Int) := by omega
      have j1 : (j : Int) < 32 := by omega
      have e1 : (k : Int) % 32 = (j : Int) := by omega
      have e1b : (k : Int).tmod 32 = (j : Int) := by rw [Int.tmod_eq_emod_of_nonneg (by omega)]; exact e1
      have hgg : g ≠ g + 1 := by omega
      clear HW HV HB hj
      go_wp2_with fail
      refine Hq.out.mono ?_
      rintro e X ⟨rfl, rfl⟩
      go_wp2_with fail
      go_roundw
      case rel => exact ⟨k + 1, by omega, by go_num, HW2, HV2, HB2⟩
      case measure => simp [intOf]; omega
    · obtain rfl : k = 288 := by omega
      have d1 : decide (((288 : Nat) : Int) < 288) = false := by decide
      have hWf : Whole wr g 3 (i64s fixL).toArray := by
        have := HW.out
        rwa [show fillTo 288 288 fxl = fixL from by unfold fillTo fixL; apply List.map_congr_left; intro i hi; rw [if_pos (List.mem_range.1 hi)]] at this
      have hVf : Whole wr (g + 1) 3 (i64s (List.replicate 32 5)).toArray := by
        have := HV.out
        rwa [five_full] at this
      have HC1 : Hid (Calls Try.prog 30 #[.slice (some ⟨g, 0, none⟩) 288 288] wr (CodesPost wr fixL)) := by
        have h1 : Nums .i64 wr wr.heap.size (some ⟨g, 0, none⟩) fixL := Nums.of_block (show wr.heap[g]? = some (.cells (fixL.map fun n : Nat => Value.int .i64 (n : Int)).toArray 3 (0, 0)) from hWf)
        have := codes_any (some ⟨g, 0, none⟩) 288 fixL wr h1 (by rw [fixL_length]; omega) (fun x hx => by obtain ⟨i, _, rfl⟩ := List.mem_map.1 hx; unfold fxl; split <;> (try split) <;> (try split) <;> omega)
        rw [fixL_length] at this
        exact this
      have HC2 : Hid (∀ X, Below wr.heap.size wr X → Calls Try.prog 30 #[.slice (some ⟨g + 1, 0, none⟩) 32 32] X (CodesPost X (List.replicate 32 5))) := fun X hX => by
        have h0 : Whole X (g + 1) 3 (i64s (List.replicate 32 5)).toArray := hVf.below hX hVf.lt
        have h1 : Nums .i64 X X.heap.size (some ⟨g + 1, 0, none⟩) (List.replicate 32 5) := Nums.of_block (show X.heap[g + 1]? = some (.cells ((List.replicate 32 5).map fun n : Nat => Value.int .i64 (n : Int)).toArray 3 (0, 0)) from h0)
        have := codes_any (some ⟨g + 1, 0, none⟩) 32 (List.replicate 32 5) X h1 (by rw [List.length_replicate]; omega) (fun x hx => by rw [List.eq_of_mem_replicate hx]; omega)
        rw [List.length_replicate] at this
        exact this
      clear hWf hVf HW HV hlt hk
      go_wp2_with fail
      refine HC1.out.mono ?_
      rintro e X2 ⟨g1, rfl, hS1, hB1, hg1⟩
      rw [fixL_length]
      have HS1 := Lib.hid hS1
      have HB1 : Hid (Below w.heap.size w X2) := HB.out.trans (hB1.mono HB.out.size)
      have HC2b := Lib.hid (HC2.out X2 hB1)
      clear hS1 hB1 HC1 HC2
      go_wp2_with fail
      refine HC2b.out.mono ?_
      rintro e X3 ⟨g2, rfl, hS2, hB2, hg2⟩
      rw [List.length_replicate]
      have HS2 := Lib.hid hS2
      have HS1b := Lib.hid (HS1.out.below hB2 HS1.out.lt)
      have HB2 : Hid (Below w.heap.size w X3) := HB1.out.trans (hB2.mono HB1.out.size)
      clear hS2 hB2 HC2b
      go_wp2_with fail
      obtain ⟨W4, hW4⟩ : ∃ W4, X3.alloc (.cells #[.bool true, .bool true, .bool false] 4) = W4 := ⟨_, rfl⟩
      obtain ⟨g3, hg3⟩ : ∃ g3, X3.heap.size = g3 := ⟨_, rfl⟩
      have hB34 : Below X3.heap.size X3 W4 := by rw [← hW4]; exact (Below.refl _ _).alloc (Nat.le_refl _) _
      have hO4 : W4.ownsRow w.heap.size 4 1 (.slice (some ⟨g3, 0, none⟩) 3 3) 3 (bools (bitsE [])) := by
        refine ⟨rfl, .inr ⟨g3, 3, #[.bool true, .bool true, .bool false], rfl, by rw [← hg3]; exact HB2.out.size, ?_, Nat.le_refl _, by unfold maxLen; omega, rfl, rfl⟩⟩
        rw [← hW4, ← hg3]; exact heap_alloc_new X3 _
      have HB4 : Hid (Below w.heap.size w W4) := HB2.out.trans (hB34.mono HB2.out.size)
      have HS14 : Hid (Whole W4 g1 9 (strs (texts fixL)).toArray) := HS1b.out.below hB34 HS1b.out.lt
      have HS24 : Hid (Whole W4 g2 9 (strs (texts (List.replicate 32 5))).toArray) := HS2.out.below hB34 HS2.out.lt
      have HP := Lib.hid (rparse_any A c l W4 hb ((HN.out.below HB4.out).more HB4.out.size) (by rw [← HL.out]; omega))
      rw [← HL.out] at HP
      have HGw0 : w.heap.size ≤ g3 := by rw [← hg3]; exact HB2.out.size
      have HGw := Lib.hid HGw0
      have HGa : Hid (∀ n, W4.heap.size ≤ n → g1 < g3 ∧ g2 < g3 ∧ g3 < n ∧ g3 < W4.heap.size) := fun n hn => by
        have h1 := HS1b.out.lt
        have h2 := HS2.out.lt
        have h3 : W4.heap.size = X3.heap.size + 1 := by rw [← hW4]; simp
        omega
      rw [hW4, hg3]
      clear hW4 hg3 HB2 HS1b HS2 HB1 HS1
      go_wp2_with fail
      refine HP.out.mono ?_
      rintro e X5 ⟨v5, rfl, hR5, hB5, hV5⟩
      have hO5 : X5.ownsRow w.heap.size 4 1 (.slice (some ⟨g3, 0, none⟩) 3 3) 3 (bools (bitsE [])) := own_only hO4 (Only.of_below hB5 (fun _ => False)) (fun _ _ q => q)
      have HS15 : Hid (Whole X5 g1 9 (strs (texts fixL)).toArray) := HS14.out.below hB5 HS14.out.lt
      have HS25 : Hid (Whole X5 g2 9 (strs (texts (List.replicate 32 5))).toArray) := HS24.out.below hB5 HS24.out.lt
      have HB5 : Hid (Below w.heap.size w X5) := HB4.out.trans (hB5.mono HB4.out.size)
      obtain ⟨ap, cp, rfl, _, _, hAp⟩ := hR5
      have HAp := Lib.hid hAp
      have HO5 := Lib.hid hO5
      obtain ⟨N, hN5⟩ : ∃ N, N = (parseE hb).length := ⟨_, rfl⟩
      have HNl := Lib.hid hN5
      have hN400 : N ≤ 400 := by have := parseFrom_length (h := hb) l.length 0; rw [hN5]; unfold parseE; have := HL.out; omega
      rw [p2s_length, ← hN5]
      have HG : Hid (g1 < g3 ∧ g2 < g3 ∧ g3 < X5.heap.size ∧ g3 < W4.heap.size) := HGa.out _ hB5.size
      clear hO5 hO4 hB5 hB34 hAp hN5 HS14 HS24 HB4 HP HGa
      go_wp2_with fail
      obtain ⟨ms, hms⟩ : ∃ ms, ms = parseE hb := ⟨_, rfl⟩
      have HMs := Lib.hid hms
      have HV5 := Lib.hid hV5
      rw [← hms] at HAp HNl
      clear hms hV5
      go_loopw [13, 15] (fun v i W => ∃ k : Nat, i = .int .i64 (k : Int) ∧ k ≤ N ∧ Hid (W.ownsRow w.heap.size 4 1 v (bitsE (ms.take k)).length (bools (bitsE (ms.take k)))) ∧ Hid (Only (fun b => b = g3) X5 W) ∧ Hid (v.ownBlock = some g3 ∨ ∃ q, v.ownBlock = some q ∧ X5.heap.size ≤ q)) (fun _ i _ => N - (intOf i).toNat)
      case atStart => exact ⟨0, rfl, Nat.zero_le _, by show World.ownsRow _ _ _ _ _ _ _; rw [List.take_zero]; exact HO5.out, Only.refl _ _, .inl rfl⟩
      case round =>
        obtain ⟨k, rfl, hk, HO, HOn, HOb⟩ := hrel
        by_cases hlt : k < N
        · have d1 : decide ((k : Int) < (N : Int)) = true := decide_eq_true (by omega)
          have y0 : (0 : Int) ≤ (k : Int) := by omega
          have y1 : (k : Int) < (N : Int) := by omega
          have hks : k < ms.length := by rw [← HNl.out]; exact hlt
          have hRS : RS w.heap.size g3 X5 u13 (bitsE (ms.take k)) wr := ⟨HO.out, HOn.out, HOb.out⟩
          have hS1 : Whole wr g1 9 (strs (texts fixL)).toArray := (HOn.out.block g1 HS15.out.lt (by have := HG.out; omega)).trans HS15.out
          obtain ⟨b, off, rfl, hbX, q0, q1⟩ := HAp.out.at k (by rw [p2s_length]; exact hks)
          have hb4 := HV5.out b rfl
          have hbg : wr.heap[b]? = X5.heap[b]? := HOn.out.block b hbX (by have := HG.out; omega)
          have q0 := (World.cell?_of_block (w := X5) (w' := wr) (a := ⟨b, off + k * 2, none⟩) hbg).trans q0
          have q1 := (World.cell?_of_block (w := X5) (w' := wr) (a := ⟨b, off + k * 2 + 1, none⟩) hbg).trans q1
          obtain ⟨x, hx⟩ : ∃ x, ms[k]'hks = x := ⟨_, rfl⟩
          have hpk : (p2s ms)[k]'(by rw [p2s_length]; exact hks) = ((x.1.1 : Int), (x.1.2 : Int)) := by rw [← hx]; simp [p2s]
          rw [hpk] at q0 q1
          have htk : bitsE (ms.take (k + 1)) = emitL (bitsE (ms.take k)) x.1 := by
            rw [List.take_add_one, List.getElem?_eq_getElem hks, hx]; exact bitsE_snoc _ _
          obtain ⟨⟨m1, m2⟩, hok⟩ := x
          simp only at q0 q1 htk
          have hbl : (bitsE (ms.take k)).length ≤ 20000 := by
            have h1 : (numL (bitsE (ms.take k))).2 = (accE (ms.take k)).2 := by rw [numL_bits]
            have h2 := accE_n (ms.take k)
            have h3 : (ms.take k).length ≤ 400 := by rw [List.length_take]; omega
            change (bitsE (ms.take k)).length = _ at h1
            omega
          have Hbl := Lib.hid hbl
          have HBw : Hid (Below w.heap.size w wr) := by
            have h5 := HB5.out
            exact ⟨HOn.out.os.trans h5.os, HOn.out.tape.trans h5.tape, HOn.out.output.trans h5.output, Nat.le_trans h5.size HOn.out.size, fun b hb => (HOn.out.block b (by have := h5.size; omega) (by rintro rfl; have := HGw.out; omega)).trans (h5.block b hb)⟩
          have hbs := HBw.out.size
          have HRS := Lib.hid hRS
          clear hRS hbg hb4 hx hpk hbl
          by_cases h0 : m1 = 0
          · subst h0
            have hm2 : m2 ≤ 255 := by rcases hok with ⟨_, h⟩ | ⟨h, _⟩ <;> simp only at h <;> omega
            have ct := text_at hS1 (i := m2) (by omega)
            have Hcd := Lib.hid (rcode_any (fixW m2).1 (fixW m2).2 wr (by have := (fixW_bounds m2 (by omega)).2.1; omega))
            have hf9 := (fixW_bounds m2 (by omega)).2.1
            have Htk : Hid (bitsE (ms.take (k + 1)) = bitsE (ms.take k) ++ turnL (fixW m2).1 (fixW m2).2 (fixW m2).2) := by show _ = _; rw [htk]; exact if_pos rfl
            have Hf9 := Lib.hid hf9
            have m0 : (0 : Int) ≤ (m2 : Int) := by omega
            have m1' : (m2 : Int) < 288 := by omega
            clear hok htk hf9 hS1
            go_wp2_with fail
            refine Hcd.out.mono ?_
            rintro e X6 ⟨v2, rfl, ho2, hB6⟩
            have HR6 := Lib.hid (HRS.out.below hB6)
            obtain ⟨av, cv, rfl, _, _, hVv⟩ := Vals.of_own ho2
            have hbs6 : w.heap.size ≤ X6.heap.size := Nat.le_trans hbs hB6.size
            have hO6 := HR6.out.own
            clear ho2 hB6
            go_wp2_with (at_builtin; go_must (refine app_vals rfl (.tmp 90) (.tmp 99) 61 rfl w.heap.size 4 i0 _ 1 1 Try.underlying61 hi0 hz0 hz1 hz2 rfl (by omega) u13 _ _ rfl hO6 X6.heap.size _ _ _ _ rfl hVv (bools_one _) (by have := Hbl.out; have := Hf9.out; rw [turnL_length]; unfold maxLen; omega) (by have := Hbl.out; have := Hf9.out; rw [turnL_length]; omega) hbs6 ?_); intro v7 w7 ho7 hg7 hat7; have HR7 := Lib.hid (HR6.out.app rfl ho7 hg7 hat7))
            rw [← Htk.out] at HR7
            clear ho7 hg7 hat7 hVv hO6
            go_roundw
            case rel => exact ⟨k + 1, by go_num, hlt, HR7.out.own, HR7.out.only, HR7.out.blk⟩
            case measure => simp [intOf]; omega
          · have d2 : ((m1 : Int) == 0) = false := beq_eq_false_iff_ne.mpr (by omega)
            have hx2 : 3 ≤ m1 ∧ m1 ≤ 258 ∧ 1 ≤ m2 ∧ m2 ≤ 256 := by rcases hok with ⟨h, _⟩ | h <;> simp only at h <;> omega
            have htk2 : bitsE (ms.take (k + 1)) = (((bitsE (ms.take k) ++ wordL (symE m1).1) ++ lowL (symE m1).2.1 (symE m1).2.2) ++ turnL (farE m2).1 5 5) ++ lowL (farE m2).2.1 (farE m2).2.2 := by rw [htk]; exact if_neg h0
            obtain ⟨b1, b2, b3⟩ := symE_in hx2.2.1
            obtain ⟨b4, b5, b6⟩ := farE_in (n := m2) (by omega)
            have hsy := fun X => refsym_any (m1 : Int) ⟨by omega, by omega⟩ X
            have hfy := fun X => reffar_any (m2 : Int) ⟨by omega, by omega⟩ X
            rw [if_pos (by omega), Int.toNat_natCast] at hsy
            rw [if_pos (by omega), Int.toNat_natCast] at hfy
            change ∀ X, Calls Try.prog _ _ X fun e w' => e = .returned (tup3 (symE m1)) ∧ X = w' at hsy
            change ∀ X, Calls Try.prog _ _ X fun e w' => e = .returned (tup3 (farE m2)) ∧ X = w' at hfy
            obtain ⟨⟨s1, s2, s3⟩, hs⟩ : ∃ s, symE m1 = s := ⟨_, rfl⟩
            obtain ⟨⟨f1, f2, f3⟩, hff⟩ : ∃ s, farE m2 = s := ⟨_, rfl⟩
            rw [hs] at htk2 hsy b1 b2 b3
            rw [hff] at htk2 hfy b4 b5 b6
            simp only at b1 b2 b3 b4 b5 b6 htk2
            have Hsy : Hid (∀ X, Calls Try.prog 33 #[.int .i64 (m1 : Int)] X fun e w' => e = .returned (.tuple #[.int .i64 (s1 : Int), .int .i64 (s2 : Int), .int .i64 (s3 : Int)]) ∧ X = w') := hsy
            have Hfy : Hid (∀ X, Calls Try.prog 34 #[.int .i64 (m2 : Int)] X fun e w' => e = .returned (.tuple #[.int .i64 (f1 : Int), .int .i64 (f2 : Int), .int .i64 (f3 : Int)]) ∧ X = w') := hfy
            have ct := text_at hS1 (i := s1) b1
            have hf9 := (fixW_bounds s1 b1).2.1
            have HT2 : Hid (∀ W', Only (fun b => b = g3) X5 W' → W'.cell? ⟨g2, f1, none⟩ = some (.string (strOf (digs f1 5)))) := fun W' h => text5_at ((h.block g2 HS25.out.lt (by have := HG.out; omega)).trans HS25.out) (by omega)
            have Hw1 := Lib.hid fun X => rcode_any (fixW s1).1 (fixW s1).2 X (by omega)
            have Hw2 := Lib.hid fun X => rcode_any f1 5 X (by omega)
            have Hl1 := Lib.hid fun X => low_any s2 s3 X (by omega) (by omega)
            have Hl2 := Lib.hid fun X => low_any f2 f3 X (by omega) (by omega)
            have Htk := Lib.hid htk2
            have Hf9 := Lib.hid hf9
            have u2 : IntKind.u32.wrap (s2 : Int) = (s2 : Int) := IntWalk.u32_in _ ⟨by omega, by omega⟩
            have v2 : IntKind.u32.wrap (f2 : Int) = (f2 : Int) := IntWalk.u32_in _ ⟨by omega, by omega⟩
            have z0 : (0 : Int) ≤ (s1 : Int) := by omega
            have z1 : (s1 : Int) < 288 := by omega
            have z2 : (0 : Int) ≤ (f1 : Int) := by omega
            have z3 : (f1 : Int) < 32 := by omega
            clear hok htk htk2 hf9 hS1 hsy hfy hs hff h0 hx2
            go_wp2_with fail
            refine (Hsy.out _).mono ?_
            rintro e X0 ⟨rfl, rfl⟩
            go_wp2_with fail
            refine (Hfy.out _).mono ?_
            rintro e X0 ⟨rfl, rfl⟩
            go_wp2_with fail
            refine (Hw1.out _).mono ?_
            rintro e X6 ⟨vv1, rfl, ho2, hB6⟩
            have HR1a := Lib.hid (HRS.out.below hB6)
            obtain ⟨av1, cv1, rfl, _, _, hVv⟩ := Vals.of_own ho2
            have hbs1 : w.heap.size ≤ X6.heap.size := Nat.le_trans hbs hB6.size
            have hO6 := HR1a.out.own
            clear ho2 hB6
            go_wp2_with (at_builtin; go_must (refine app_vals rfl (.tmp 121) (.tmp 126) 61 rfl w.heap.size 4 i0 _ 1 1 Try.underlying61 hi0 hz0 hz1 hz2 rfl (by omega) _ _ _ rfl hO6 X6.heap.size _ _ _ _ rfl hVv (bools_one _) (by have := Hbl.out; have := Hf9.out; simp only [List.length_append, turnL_length, lowL_length, wordL]; unfold maxLen; omega) (by have := Hbl.out; have := Hf9.out; simp only [List.length_append, turnL_length, lowL_length, wordL]; omega) hbs1 ?_); intro v11 w11 ho7 hg7 hat7; have HR1 := Lib.hid (HR1a.out.app rfl ho7 hg7 hat7); have hbs1b : w.heap.size ≤ w11.heap.size := Nat.le_trans hbs1 hg7.size)
            clear ho7 hg7 hat7 hVv hO6
            refine (Hl1.out _).mono ?_
            rintro e X7 ⟨vv2, rfl, ho2, hB6⟩
            have HR2a := Lib.hid (HR1.out.below hB6)
            obtain ⟨av2, cv2, rfl, _, _, hVv⟩ := Vals.of_own ho2
            have hbs2 : w.heap.size ≤ X7.heap.size := Nat.le_trans hbs1b hB6.size
            have hO6 := HR2a.out.own
            clear ho2 hB6
            go_wp2_with (at_builtin; go_must (refine app_vals rfl (.tmp 127) (.tmp 131) 61 rfl w.heap.size 4 i0 _ 1 1 Try.underlying61 hi0 hz0 hz1 hz2 rfl (by omega) _ _ _ rfl hO6 X7.heap.size _ _ _ _ rfl hVv (bools_one _) (by have := Hbl.out; have := Hf9.out; simp only [List.length_append, turnL_length, lowL_length, wordL]; unfold maxLen; omega) (by have := Hbl.out; have := Hf9.out; simp only [List.length_append, turnL_length, lowL_length, wordL]; omega) hbs2 ?_); intro v12 w12 ho7 hg7 hat7; have HR2 := Lib.hid (HR2a.out.app (by rw [lowL_length]) ho7 hg7 hat7); have hbs2b : w.heap.size ≤ w12.heap.size := Nat.le_trans hbs2 hg7.size; have ct2 := HT2.out _ HR2.out.only)
            clear ho7 hg7 hat7 hVv hO6
            refine (Hw2.out _).mono ?_
            rintro e X8 ⟨vv3, rfl, ho2, hB6⟩
            have HR3a := Lib.hid (HR2.out.below hB6)
            obtain ⟨av3, cv3, rfl, _, _, hVv⟩ := Vals.of_own ho2
            have hbs3 : w.heap.size ≤ X8.heap.size := Nat.le_trans hbs2b hB6.size
            have hO6 := HR3a.out.own
            clear ho2 hB6
            go_wp2_with (at_builtin; go_must (refine app_vals rfl (.tmp 133) (.tmp 138) 61 rfl w.heap.size 4 i0 _ 1 1 Try.underlying61 hi0 hz0 hz1 hz2 rfl (by omega) _ _ _ rfl hO6 X8.heap.size _ _ _ _ rfl hVv (bools_one _) (by have := Hbl.out; have := Hf9.out; simp only [List.length_append, turnL_length, lowL_length, wordL]; unfold maxLen; omega) (by have := Hbl.out; have := Hf9.out; simp only [List.length_append, turnL_length, lowL_length, wordL]; omega) hbs3 ?_); intro v13 w13 ho7 hg7 hat7; have HR3 := Lib.hid (HR3a.out.app rfl ho7 hg7 hat7); have hbs3b : w.heap.size ≤ w13.heap.size := Nat.le_trans hbs3 hg7.size)
            clear ho7 hg7 hat7 hVv hO6
            refine (Hl2.out _).mono ?_
            rintro e X9 ⟨vv4, rfl, ho2, hB6⟩
            have HR4a := Lib.hid (HR3.out.below hB6)
            obtain ⟨av4, cv4, rfl, _, _, hVv⟩ := Vals.of_own ho2
            have hbs4 : w.heap.size ≤ X9.heap.size := Nat.le_trans hbs3b hB6.size
            have hO6 := HR4a.out.own
            clear ho2 hB6
            go_wp2_with (at_builtin; go_must (refine app_vals rfl (.tmp 139) (.tmp 143) 61 rfl w.heap.size 4 i0 _ 1 1 Try.underlying61 hi0 hz0 hz1 hz2 rfl (by omega) _ _ _ rfl hO6 X9.heap.size _ _ _ _ rfl hVv (bools_one _) (by have := Hbl.out; have := Hf9.out; simp only [List.length_append, turnL_length, lowL_length, wordL]; unfold maxLen; omega) (by have := Hbl.out; have := Hf9.out; simp only [List.length_append, turnL_length, lowL_length, wordL]; omega) hbs4 ?_); intro v14 w14 ho7 hg7 hat7; have HR4 := Lib.hid (HR4a.out.app (by rw [lowL_length]) ho7 hg7 hat7); have hbs4b : w.heap.size ≤ w14.heap.size := Nat.le_trans hbs4 hg7.size)
            clear ho7 hg7 hat7 hVv hO6
            have e5 : (((bitsE (ms.take k) ++ turnL (fixW s1).1 (fixW s1).2 (fixW s1).2) ++ lowL s2 s3) ++ turnL f1 5 5) ++ lowL f2 f3 = bitsE (ms.take (k + 1)) := Htk.out.symm
            rw [e5] at HR4
            go_roundw
            case rel => exact ⟨k + 1, by go_num, hlt, HR4.out.own, HR4.out.only, HR4.out.blk⟩
            case measure => simp [intOf]; omega
        · obtain rfl : k = N := by omega
          have d1 : decide ((k : Int) < (k : Int)) = false := decide_eq_false (by omega)
          have hS1 : Whole wr g1 9 (strs (texts fixL)).toArray := (HOn.out.block g1 HS15.out.lt (by have := HG.out; omega)).trans HS15.out
          have c256 := text_at hS1 (i := 256) (by omega)
          have hO := HO.out
          rw [HNl.out, List.take_length] at hO
          have HOf := Lib.hid hO
          have Hcd := Lib.hid (rcode_any (fixW 256).1 (fixW 256).2 wr (by decide))
          have hbl : (bitsE ms).length ≤ 20000 := by
            have h1 : (numL (bitsE ms)).2 = (accE ms).2 := by rw [numL_bits]
            have h2 := accE_n ms
            have h3 := HNl.out
            change (bitsE ms).length = _ at h1
            omega
          have hBw : Below w.heap.size w wr := by
            have h5 := HB5.out
            exact ⟨HOn.out.os.trans h5.os, HOn.out.tape.trans h5.tape, HOn.out.output.trans h5.output, Nat.le_trans h5.size HOn.out.size, fun b hb => (HOn.out.block b (by have := h5.size; omega) (by rintro rfl; have := HGw.out; omega)).trans (h5.block b hb)⟩
          have HBw := Lib.hid hBw
          have Hbl := Lib.hid hbl
          clear hO hS1 hBw hbl
          go_wp2_with fail
          refine Hcd.out.mono ?_
          rintro e X6 ⟨v2, rfl, ho2, hB6⟩
          have hO6 : X6.ownsRow w.heap.size 4 1 u13 (bitsE ms).length (bools (bitsE ms)) := own_only HOf.out (Only.of_below hB6 (fun _ => False)) (fun _ _ q => q)
          obtain ⟨av, cv, rfl, _, _, hVv⟩ := Vals.of_own ho2
          have HB6 : Hid (Below w.heap.size w X6) := HBw.out.trans (hB6.mono HBw.out.size)
          have hbs6 := HB6.out.size
          clear ho2 hB6
          go_wp2_with (at_builtin; go_must (refine app_vals rfl (.tmp 145) (.tmp 149) 61 rfl w.heap.size 4 i0 _ 1 1 Try.underlying61 hi0 hz0 hz1 hz2 rfl (by omega) u13 _ _ rfl hO6 X6.heap.size _ _ _ _ rfl hVv (bools_one _) (by have := Hbl.out; rw [turnL_length]; show _ + 7 ≤ _; unfold maxLen; omega) (by have := Hbl.out; rw [turnL_length]; show (_ + 7) * 1 ≤ _; omega) hbs6 ?_); intro v7 w7 ho7 hg7 _; have HB7 := Lib.hid (below_of_grown HB6.out hO6 hg7 hbs6); obtain ⟨a7, c7, rfl, _, _, hV7⟩ := Vals.of_own ho7)
          have hV8 : Vals w7 w7.heap.size 1 a7 (bitsE ms ++ wordL 256).length (bools (bitsE ms ++ wordL 256)) := by
            have e1 : bools (bitsE ms ++ wordL 256) = bools (bitsE ms) ++ bools (turnL (fixW 256).1 (fixW 256).2 (fixW 256).2) := by simp [bools, wordL]
            rw [e1, List.length_append]
            exact hV7
          have HBs := Lib.hid (refBytes_any (bitsE ms ++ wordL 256) a7 c7 w7 hV8 (by have := Hbl.out; rw [List.length_append]; unfold wordL; rw [turnL_length]; show _ + 7 ≤ _; omega))
          rw [List.length_append] at HBs
          have hby := bits_bytes hb
          rw [← HMs.out] at hby
          change _ = fixedB hb at hby
          rw [List.length_append] at hby
          rw [hby] at HBs
          refine HBs.out.mono ?_
          rintro e X8 ⟨v8, rfl, ho8, hB8⟩
          have hown8 : Own8 X8 w7.heap.size v8 (fixedB hb) := ho8
          obtain ⟨a8, c8, rfl, _, _, _, hN8⟩ := hown8.nums
          have HB8 : Hid (Below w.heap.size w X8) := HB7.out.trans (hB8.mono HB7.out.size)
          have HN8 := Lib.hid hN8
          clear hV7 hV8 ho8 hown8 hB8 hN8 hby HBs
          go_wp2_with fail
          go_ret
          exact ⟨_, _, rfl, HN8.out, HB8.out⟩
end Go.Proofs.Ytngnhkghpnamoaa
