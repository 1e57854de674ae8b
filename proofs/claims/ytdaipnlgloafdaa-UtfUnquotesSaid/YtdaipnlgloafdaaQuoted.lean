/- Walks over layer 15: quoted. -/
import Derived.Test.YtdaipnlgloafdaaQuoMath
import Derived.Test.YtdaipnlgloafdaaUtfAppend
import Derived.Test.YtdaipnlgloafdaaUtfHex
import Derived.Test.YtdaipnlgloafdaaHeld
namespace Go.Proofs.Ytdaipnlgloafdaa
open Go.RowKit Utf
set_option linter.unusedVariables false
set_option maxRecDepth 100000

theorem hex_at (i : Nat) (h : i < (⟨#[48, 49, 50, 51, 52, 53, 54, 55, 56, 57, 97, 98, 99, 100, 101, 102]⟩ : ByteArray).size) : ((⟨#[48, 49, 50, 51, 52, 53, 54, 55, 56, 57, 97, 98, 99, 100, 101, 102]⟩ : ByteArray)[i]'h).toNat = dg i := by
  have hdg : ∀ k, k < 16 → smallD.getD k 0 = dg k := by decide
  rw [bs_get _ i h, small_bs, hdg i h]
theorem letter_98 (w : World) : Calls Try.prog 24 #[.int .u8 98] w fun e w' => e = .returned (.int .u8 98) ∧ w = w' := by
  go_enter Try.func24, Try.ntmps24
  go_wp2_with fail
  go_ret
  exact ⟨rfl, rfl⟩
theorem letter_9 (w : World) : Calls Try.prog 24 #[.int .u8 9] w fun e w' => e = .returned (.int .u8 116) ∧ w = w' := by
  go_enter Try.func24, Try.ntmps24
  go_wp2_with fail
  go_ret
  exact ⟨rfl, rfl⟩
theorem letter_10 (w : World) : Calls Try.prog 24 #[.int .u8 10] w fun e w' => e = .returned (.int .u8 110) ∧ w = w' := by
  go_enter Try.func24, Try.ntmps24
  go_wp2_with fail
  go_ret
  exact ⟨rfl, rfl⟩
theorem letter_12 (w : World) : Calls Try.prog 24 #[.int .u8 12] w fun e w' => e = .returned (.int .u8 102) ∧ w = w' := by
  go_enter Try.func24, Try.ntmps24
  go_wp2_with fail
  go_ret
  exact ⟨rfl, rfl⟩
theorem letter_13 (w : World) : Calls Try.prog 24 #[.int .u8 13] w fun e w' => e = .returned (.int .u8 114) ∧ w = w' := by
  go_enter Try.func24, Try.ntmps24
  go_wp2_with fail
  go_ret
  exact ⟨rfl, rfl⟩
set_option maxHeartbeats 2000000 in
theorem quoted_8 (base : Nat) (v : Value) (l : List Nat) (w : World) (h : Own8 w base v l) (hl : l.length ≤ 1000000000000) (hB : base ≤ w.heap.size) :
    Calls Try.prog 18 #[v, .int .u8 8] w (AddPost w base v (l ++ esc 8)) := by
  obtain ⟨i0, hi0, hz0, hz1, hz2⟩ := info_parts u8info
  have Hl1 : Hid (l.length + 2 ≤ maxLen) := by unfold Hid maxLen; omega
  have Hl2 : Hid ((l.length + 2) * 1 ≤ 140737488355328) := by unfold Hid; omega
  have he : Hid (esc 8 = [92, 98]) := by show _ = _; rfl
  have hV : Vals (w.alloc (.cells #[.int .u8 92, .int .u8 98] 5)) (w.heap.size + 1) 1 (some ⟨w.heap.size, 0, none⟩) 2 (u8s [92, 98]) :=
    (Vals.of_block (xs := u8s [92, 98]) (heap_alloc_new w _) rfl).more (by simp)
  have hB2 : base ≤ (w.alloc (.cells #[.int .u8 92, .int .u8 98] 5)).heap.size := by simp; omega
  have hown : (w.alloc (.cells #[.int .u8 92, .int .u8 98] 5)).ownsRow base 5 1 v l.length (u8s l) := World.ownsRow.alloc h _
  have Hone := Lib.hid (u8s_one [92, 98])
  clear hB hl
  go_enter Try.func18, Try.ntmps18
  go_wp2_with fail
  refine (letter_98 _).mono ?_
  rintro e X ⟨rfl, rfl⟩
  go_wp2_with (first | (at_builtin; refine app_vals rfl (.tmp 18) (.tmp 20) 37 rfl base 5 i0 _ 1 1 Try.underlying37 hi0 hz0 hz1 hz2 rfl (by omega) v _ _ rfl hown (w.heap.size + 1) _ 2 2 _ rfl hV Hone.out Hl1.out Hl2.out hB2 ?_) | fail)
  intro v3 w3 h2 h3 h5
  have hg : Gone w base v (l ++ [92, 98]) v3 w3 := Gone.grown h2 (by simp) (by rw [u8s_append]) ((World.grownBy_alloc w _ _).trans h3) (by
    rcases h5 with h5 | h5
    · exact .inl h5
    · exact .inr ⟨_, h5, by simp⟩)
  have HG := Lib.hid hg
  clear h2 h3 h5 hg hown hV hB2
  go_wp2
  go_ret
  exact ⟨_, rfl, by have := HG.out; rwa [← he.out] at this⟩
set_option maxHeartbeats 2000000 in
theorem quoted_9 (base : Nat) (v : Value) (l : List Nat) (w : World) (h : Own8 w base v l) (hl : l.length ≤ 1000000000000) (hB : base ≤ w.heap.size) :
    Calls Try.prog 18 #[v, .int .u8 9] w (AddPost w base v (l ++ esc 9)) := by
  obtain ⟨i0, hi0, hz0, hz1, hz2⟩ := info_parts u8info
  have Hl1 : Hid (l.length + 2 ≤ maxLen) := by unfold Hid maxLen; omega
  have Hl2 : Hid ((l.length + 2) * 1 ≤ 140737488355328) := by unfold Hid; omega
  have he : Hid (esc 9 = [92, 116]) := by show _ = _; rfl
  have hV : Vals (w.alloc (.cells #[.int .u8 92, .int .u8 116] 5)) (w.heap.size + 1) 1 (some ⟨w.heap.size, 0, none⟩) 2 (u8s [92, 116]) :=
    (Vals.of_block (xs := u8s [92, 116]) (heap_alloc_new w _) rfl).more (by simp)
  have hB2 : base ≤ (w.alloc (.cells #[.int .u8 92, .int .u8 116] 5)).heap.size := by simp; omega
  have hown : (w.alloc (.cells #[.int .u8 92, .int .u8 116] 5)).ownsRow base 5 1 v l.length (u8s l) := World.ownsRow.alloc h _
  have Hone := Lib.hid (u8s_one [92, 116])
  clear hB hl
  go_enter Try.func18, Try.ntmps18
  go_wp2_with fail
  refine (letter_9 _).mono ?_
  rintro e X ⟨rfl, rfl⟩
  go_wp2_with (first | (at_builtin; refine app_vals rfl (.tmp 18) (.tmp 20) 37 rfl base 5 i0 _ 1 1 Try.underlying37 hi0 hz0 hz1 hz2 rfl (by omega) v _ _ rfl hown (w.heap.size + 1) _ 2 2 _ rfl hV Hone.out Hl1.out Hl2.out hB2 ?_) | fail)
  intro v3 w3 h2 h3 h5
  have hg : Gone w base v (l ++ [92, 116]) v3 w3 := Gone.grown h2 (by simp) (by rw [u8s_append]) ((World.grownBy_alloc w _ _).trans h3) (by
    rcases h5 with h5 | h5
    · exact .inl h5
    · exact .inr ⟨_, h5, by simp⟩)
  have HG := Lib.hid hg
  clear h2 h3 h5 hg hown hV hB2
  go_wp2
  go_ret
  exact ⟨_, rfl, by have := HG.out; rwa [← he.out] at this⟩
set_option maxHeartbeats 2000000 in
theorem quoted_10 (base : Nat) (v : Value) (l : List Nat) (w : World) (h : Own8 w base v l) (hl : l.length ≤ 1000000000000) (hB : base ≤ w.heap.size) :
    Calls Try.prog 18 #[v, .int .u8 10] w (AddPost w base v (l ++ esc 10)) := by
  obtain ⟨i0, hi0, hz0, hz1, hz2⟩ := info_parts u8info
  have Hl1 : Hid (l.length + 2 ≤ maxLen) := by unfold Hid maxLen; omega
  have Hl2 : Hid ((l.length + 2) * 1 ≤ 140737488355328) := by unfold Hid; omega
  have he : Hid (esc 10 = [92, 110]) := by show _ = _; rfl
  have hV : Vals (w.alloc (.cells #[.int .u8 92, .int .u8 110] 5)) (w.heap.size + 1) 1 (some ⟨w.heap.size, 0, none⟩) 2 (u8s [92, 110]) :=
    (Vals.of_block (xs := u8s [92, 110]) (heap_alloc_new w _) rfl).more (by simp)
  have hB2 : base ≤ (w.alloc (.cells #[.int .u8 92, .int .u8 110] 5)).heap.size := by simp; omega
  have hown : (w.alloc (.cells #[.int .u8 92, .int .u8 110] 5)).ownsRow base 5 1 v l.length (u8s l) := World.ownsRow.alloc h _
  have Hone := Lib.hid (u8s_one [92, 110])
  clear hB hl
  go_enter Try.func18, Try.ntmps18
  go_wp2_with fail
  refine (letter_10 _).mono ?_
  rintro e X ⟨rfl, rfl⟩
  go_wp2_with (first | (at_builtin; refine app_vals rfl (.tmp 18) (.tmp 20) 37 rfl base 5 i0 _ 1 1 Try.underlying37 hi0 hz0 hz1 hz2 rfl (by omega) v _ _ rfl hown (w.heap.size + 1) _ 2 2 _ rfl hV Hone.out Hl1.out Hl2.out hB2 ?_) | fail)
  intro v3 w3 h2 h3 h5
  have hg : Gone w base v (l ++ [92, 110]) v3 w3 := Gone.grown h2 (by simp) (by rw [u8s_append]) ((World.grownBy_alloc w _ _).trans h3) (by
    rcases h5 with h5 | h5
    · exact .inl h5
    · exact .inr ⟨_, h5, by simp⟩)
  have HG := Lib.hid hg
  clear h2 h3 h5 hg hown hV hB2
  go_wp2
  go_ret
  exact ⟨_, rfl, by have := HG.out; rwa [← he.out] at this⟩
set_option maxHeartbeats 2000000 in
theorem quoted_12 (base : Nat) (v : Value) (l : List Nat) (w : World) (h : Own8 w base v l) (hl : l.length ≤ 1000000000000) (hB : base ≤ w.heap.size) :
    Calls Try.prog 18 #[v, .int .u8 12] w (AddPost w base v (l ++ esc 12)) := by
  obtain ⟨i0, hi0, hz0, hz1, hz2⟩ := info_parts u8info
  have Hl1 : Hid (l.length + 2 ≤ maxLen) := by unfold Hid maxLen; omega
  have Hl2 : Hid ((l.length + 2) * 1 ≤ 140737488355328) := by unfold Hid; omega
  have he : Hid (esc 12 = [92, 102]) := by show _ = _; rfl
  have hV : Vals (w.alloc (.cells #[.int .u8 92, .int .u8 102] 5)) (w.heap.size + 1) 1 (some ⟨w.heap.size, 0, none⟩) 2 (u8s [92, 102]) :=
    (Vals.of_block (xs := u8s [92, 102]) (heap_alloc_new w _) rfl).more (by simp)
  have hB2 : base ≤ (w.alloc (.cells #[.int .u8 92, .int .u8 102] 5)).heap.size := by simp; omega
  have hown : (w.alloc (.cells #[.int .u8 92, .int .u8 102] 5)).ownsRow base 5 1 v l.length (u8s l) := World.ownsRow.alloc h _
  have Hone := Lib.hid (u8s_one [92, 102])
  clear hB hl
  go_enter Try.func18, Try.ntmps18
  go_wp2_with fail
  refine (letter_12 _).mono ?_
  rintro e X ⟨rfl, rfl⟩
  go_wp2_with (first | (at_builtin; refine app_vals rfl (.tmp 18) (.tmp 20) 37 rfl base 5 i0 _ 1 1 Try.underlying37 hi0 hz0 hz1 hz2 rfl (by omega) v _ _ rfl hown (w.heap.size + 1) _ 2 2 _ rfl hV Hone.out Hl1.out Hl2.out hB2 ?_) | fail)
  intro v3 w3 h2 h3 h5
  have hg : Gone w base v (l ++ [92, 102]) v3 w3 := Gone.grown h2 (by simp) (by rw [u8s_append]) ((World.grownBy_alloc w _ _).trans h3) (by
    rcases h5 with h5 | h5
    · exact .inl h5
    · exact .inr ⟨_, h5, by simp⟩)
  have HG := Lib.hid hg
  clear h2 h3 h5 hg hown hV hB2
  go_wp2
  go_ret
  exact ⟨_, rfl, by have := HG.out; rwa [← he.out] at this⟩
set_option maxHeartbeats 2000000 in
theorem quoted_13 (base : Nat) (v : Value) (l : List Nat) (w : World) (h : Own8 w base v l) (hl : l.length ≤ 1000000000000) (hB : base ≤ w.heap.size) :
    Calls Try.prog 18 #[v, .int .u8 13] w (AddPost w base v (l ++ esc 13)) := by
  obtain ⟨i0, hi0, hz0, hz1, hz2⟩ := info_parts u8info
  have Hl1 : Hid (l.length + 2 ≤ maxLen) := by unfold Hid maxLen; omega
  have Hl2 : Hid ((l.length + 2) * 1 ≤ 140737488355328) := by unfold Hid; omega
  have he : Hid (esc 13 = [92, 114]) := by show _ = _; rfl
  have hV : Vals (w.alloc (.cells #[.int .u8 92, .int .u8 114] 5)) (w.heap.size + 1) 1 (some ⟨w.heap.size, 0, none⟩) 2 (u8s [92, 114]) :=
    (Vals.of_block (xs := u8s [92, 114]) (heap_alloc_new w _) rfl).more (by simp)
  have hB2 : base ≤ (w.alloc (.cells #[.int .u8 92, .int .u8 114] 5)).heap.size := by simp; omega
  have hown : (w.alloc (.cells #[.int .u8 92, .int .u8 114] 5)).ownsRow base 5 1 v l.length (u8s l) := World.ownsRow.alloc h _
  have Hone := Lib.hid (u8s_one [92, 114])
  clear hB hl
  go_enter Try.func18, Try.ntmps18
  go_wp2_with fail
  refine (letter_13 _).mono ?_
  rintro e X ⟨rfl, rfl⟩
  go_wp2_with (first | (at_builtin; refine app_vals rfl (.tmp 18) (.tmp 20) 37 rfl base 5 i0 _ 1 1 Try.underlying37 hi0 hz0 hz1 hz2 rfl (by omega) v _ _ rfl hown (w.heap.size + 1) _ 2 2 _ rfl hV Hone.out Hl1.out Hl2.out hB2 ?_) | fail)
  intro v3 w3 h2 h3 h5
  have hg : Gone w base v (l ++ [92, 114]) v3 w3 := Gone.grown h2 (by simp) (by rw [u8s_append]) ((World.grownBy_alloc w _ _).trans h3) (by
    rcases h5 with h5 | h5
    · exact .inl h5
    · exact .inr ⟨_, h5, by simp⟩)
  have HG := Lib.hid hg
  clear h2 h3 h5 hg hown hV hB2
  go_wp2
  go_ret
  exact ⟨_, rfl, by have := HG.out; rwa [← he.out] at this⟩
set_option maxHeartbeats 2000000 in
theorem quoted_34 (base : Nat) (v : Value) (l : List Nat) (w : World) (h : Own8 w base v l) (hl : l.length ≤ 1000000000000) (hB : base ≤ w.heap.size) :
    Calls Try.prog 18 #[v, .int .u8 34] w (AddPost w base v (l ++ esc 34)) := by
  obtain ⟨i0, hi0, hz0, hz1, hz2⟩ := info_parts u8info
  have Hl1 : Hid (l.length + 2 ≤ maxLen) := by unfold Hid maxLen; omega
  have Hl2 : Hid ((l.length + 2) * 1 ≤ 140737488355328) := by unfold Hid; omega
  have he : Hid (esc 34 = [92, 34]) := by show _ = _; rfl
  have hV : Vals (w.alloc (.cells #[.int .u8 92, .int .u8 34] 5)) (w.heap.size + 1) 1 (some ⟨w.heap.size, 0, none⟩) 2 (u8s [92, 34]) :=
    (Vals.of_block (xs := u8s [92, 34]) (heap_alloc_new w _) rfl).more (by simp)
  have hB2 : base ≤ (w.alloc (.cells #[.int .u8 92, .int .u8 34] 5)).heap.size := by simp; omega
  have hown : (w.alloc (.cells #[.int .u8 92, .int .u8 34] 5)).ownsRow base 5 1 v l.length (u8s l) := World.ownsRow.alloc h _
  have Hone := Lib.hid (u8s_one [92, 34])
  clear hB hl
  go_enter Try.func18, Try.ntmps18
  go_wp2_with (first | (at_builtin; refine app_vals rfl (.tmp 18) (.tmp 20) 37 rfl base 5 i0 _ 1 1 Try.underlying37 hi0 hz0 hz1 hz2 rfl (by omega) v _ _ rfl hown (w.heap.size + 1) _ 2 2 _ rfl hV Hone.out Hl1.out Hl2.out hB2 ?_) | fail)
  intro v3 w3 h2 h3 h5
  have hg : Gone w base v (l ++ [92, 34]) v3 w3 := Gone.grown h2 (by simp) (by rw [u8s_append]) ((World.grownBy_alloc w _ _).trans h3) (by
    rcases h5 with h5 | h5
    · exact .inl h5
    · exact .inr ⟨_, h5, by simp⟩)
  have HG := Lib.hid hg
  clear h2 h3 h5 hg hown hV hB2
  go_wp2
  go_ret
  exact ⟨_, rfl, by have := HG.out; rwa [← he.out] at this⟩
set_option maxHeartbeats 2000000 in
theorem quoted_92 (base : Nat) (v : Value) (l : List Nat) (w : World) (h : Own8 w base v l) (hl : l.length ≤ 1000000000000) (hB : base ≤ w.heap.size) :
    Calls Try.prog 18 #[v, .int .u8 92] w (AddPost w base v (l ++ esc 92)) := by
  obtain ⟨i0, hi0, hz0, hz1, hz2⟩ := info_parts u8info
  have Hl1 : Hid (l.length + 2 ≤ maxLen) := by unfold Hid maxLen; omega
  have Hl2 : Hid ((l.length + 2) * 1 ≤ 140737488355328) := by unfold Hid; omega
  have he : Hid (esc 92 = [92, 92]) := by show _ = _; rfl
  have hV : Vals (w.alloc (.cells #[.int .u8 92, .int .u8 92] 5)) (w.heap.size + 1) 1 (some ⟨w.heap.size, 0, none⟩) 2 (u8s [92, 92]) :=
    (Vals.of_block (xs := u8s [92, 92]) (heap_alloc_new w _) rfl).more (by simp)
  have hB2 : base ≤ (w.alloc (.cells #[.int .u8 92, .int .u8 92] 5)).heap.size := by simp; omega
  have hown : (w.alloc (.cells #[.int .u8 92, .int .u8 92] 5)).ownsRow base 5 1 v l.length (u8s l) := World.ownsRow.alloc h _
  have Hone := Lib.hid (u8s_one [92, 92])
  clear hB hl
  go_enter Try.func18, Try.ntmps18
  go_wp2_with (first | (at_builtin; refine app_vals rfl (.tmp 18) (.tmp 20) 37 rfl base 5 i0 _ 1 1 Try.underlying37 hi0 hz0 hz1 hz2 rfl (by omega) v _ _ rfl hown (w.heap.size + 1) _ 2 2 _ rfl hV Hone.out Hl1.out Hl2.out hB2 ?_) | fail)
  intro v3 w3 h2 h3 h5
  have hg : Gone w base v (l ++ [92, 92]) v3 w3 := Gone.grown h2 (by simp) (by rw [u8s_append]) ((World.grownBy_alloc w _ _).trans h3) (by
    rcases h5 with h5 | h5
    · exact .inl h5
    · exact .inr ⟨_, h5, by simp⟩)
  have HG := Lib.hid hg
  clear h2 h3 h5 hg hown hV hB2
  go_wp2
  go_ret
  exact ⟨_, rfl, by have := HG.out; rwa [← he.out] at this⟩
set_option maxHeartbeats 2000000 in
theorem quoted_plain (base : Nat) (v : Value) (l : List Nat) (c : Nat) (w : World) (h : Own8 w base v l) (hl : l.length ≤ 1000000000000) (hB : base ≤ w.heap.size) (hc : 32 ≤ c ∧ c ≠ 34 ∧ c ≠ 92) :
    Calls Try.prog 18 #[v, .int .u8 (c : Int)] w (AddPost w base v (l ++ esc c)) := by
  obtain ⟨i0, hi0, hz0, hz1, hz2⟩ := info_parts u8info
  have Hl1 : Hid (l.length + 1 ≤ maxLen) := by unfold Hid maxLen; omega
  have Hl2 : Hid ((l.length + 1) * 1 ≤ 140737488355328) := by unfold Hid; omega
  have he : Hid (esc c = [c]) := by show _ = _; unfold esc; repeat (first | rw [if_pos (by omega)] | rw [if_neg (by omega)])
  have q8 : ((c : Int) == 8) = false := beq_eq_false_iff_ne.mpr (by omega)
  have q9 : ((c : Int) == 9) = false := beq_eq_false_iff_ne.mpr (by omega)
  have q10 : ((c : Int) == 10) = false := beq_eq_false_iff_ne.mpr (by omega)
  have q12 : ((c : Int) == 12) = false := beq_eq_false_iff_ne.mpr (by omega)
  have q13 : ((c : Int) == 13) = false := beq_eq_false_iff_ne.mpr (by omega)
  have q34 : ((c : Int) == 34) = false := beq_eq_false_iff_ne.mpr (by omega)
  have q92 : ((c : Int) == 92) = false := beq_eq_false_iff_ne.mpr (by omega)
  have q32 : decide ((c : Int) < 32) = false := decide_eq_false (by omega)
  clear hc
  have hV : Vals (w.alloc (.cells #[.int .u8 (c : Int)] 5)) (w.heap.size + 1) 1 (some ⟨w.heap.size, 0, none⟩) 1 (u8s [c]) :=
    (Vals.of_block (xs := u8s [c]) (heap_alloc_new w _) rfl).more (by simp)
  have hB2 : base ≤ (w.alloc (.cells #[.int .u8 (c : Int)] 5)).heap.size := by simp; omega
  have hown : (w.alloc (.cells #[.int .u8 (c : Int)] 5)).ownsRow base 5 1 v l.length (u8s l) := World.ownsRow.alloc h _
  have Hone := Lib.hid (u8s_one [c])
  clear hB hl
  go_enter Try.func18, Try.ntmps18
  go_wp2_with (first | (at_builtin; refine app_vals rfl (.tmp 33) (.tmp 35) 37 rfl base 5 i0 _ 1 1 Try.underlying37 hi0 hz0 hz1 hz2 rfl (by omega) v _ _ rfl hown (w.heap.size + 1) _ 1 1 _ rfl hV Hone.out Hl1.out Hl2.out hB2 ?_) | fail)
  intro v3 w3 h2 h3 h5
  have hg : Gone w base v (l ++ [c]) v3 w3 := Gone.grown h2 (by simp) (by rw [u8s_append]) ((World.grownBy_alloc w _ _).trans h3) (by
    rcases h5 with h5 | h5
    · exact .inl h5
    · exact .inr ⟨_, h5, by simp⟩)
  have HG := Lib.hid hg
  clear h2 h3 h5 hg hown hV hB2
  go_wp2
  go_ret
  exact ⟨_, rfl, by have := HG.out; rwa [← he.out] at this⟩
set_option maxHeartbeats 2000000 in
theorem quoted_ctl (base : Nat) (v : Value) (l : List Nat) (c : Nat) (w : World) (h : Own8 w base v l) (hl : l.length ≤ 1000000000000) (hB : base ≤ w.heap.size) (hc : c < 32 ∧ c ≠ 8 ∧ c ≠ 9 ∧ c ≠ 10 ∧ c ≠ 12 ∧ c ≠ 13) :
    Calls Try.prog 18 #[v, .int .u8 (c : Int)] w (AddPost w base v (l ++ esc c)) := by
  obtain ⟨i0, hi0, hz0, hz1, hz2⟩ := info_parts u8info
  have Hl1 : Hid (l.length + 6 ≤ maxLen) := by unfold Hid maxLen; omega
  have Hl2 : Hid ((l.length + 6) * 1 ≤ 140737488355328) := by unfold Hid; omega
  have he : Hid (esc c = [92, 117, 48, 48, dg (c / 16), dg (c % 16)]) := by show _ = _; unfold esc; repeat (first | rw [if_pos (by omega)] | rw [if_neg (by omega)])
  have q8 : ((c : Int) == 8) = false := beq_eq_false_iff_ne.mpr (by omega)
  have q9 : ((c : Int) == 9) = false := beq_eq_false_iff_ne.mpr (by omega)
  have q10 : ((c : Int) == 10) = false := beq_eq_false_iff_ne.mpr (by omega)
  have q12 : ((c : Int) == 12) = false := beq_eq_false_iff_ne.mpr (by omega)
  have q13 : ((c : Int) == 13) = false := beq_eq_false_iff_ne.mpr (by omega)
  have q34 : ((c : Int) == 34) = false := beq_eq_false_iff_ne.mpr (by omega)
  have q92 : ((c : Int) == 92) = false := beq_eq_false_iff_ne.mpr (by omega)
  have q32 : decide ((c : Int) < 32) = true := decide_eq_true (by omega)
  obtain ⟨q, hq⟩ : ∃ q, q = c / 16 := ⟨_, rfl⟩
  obtain ⟨r, hr⟩ : ∃ r, r = c % 16 := ⟨_, rfl⟩
  have hqi : (c : Int) / 16 = (q : Int) := by omega
  have hri : bits .and .u8 (c : Int) 15 = (r : Int) := by rw [show (15 : Int) = ((15 : Nat) : Int) from rfl, u8_and_nat c 15 (by omega) (by omega), show (15 : Nat) = 2 ^ 4 - 1 from rfl, Nat.and_two_pow_sub_one_eq_mod, hr]
  have hq0 : (0 : Int) ≤ (q : Int) := by omega
  have hq1 : (q : Int) < 16 := by omega
  have hr0 : (0 : Int) ≤ (r : Int) := by omega
  have hr1 : (r : Int) < 16 := by omega
  have hq16 : q < 16 := by omega
  have hr16 : r < 16 := by omega
  have hgq := hex_at q hq16
  have hgr := hex_at r hr16
  rw [← hq, ← hr] at he
  generalize dg q = dq at *
  generalize dg r = dr at *
  clear hc hq hr
  have hV : Vals (w.drew.alloc (.cells #[.int .u8 92, .int .u8 117, .int .u8 48, .int .u8 48, .int .u8 (dq : Int), .int .u8 (dr : Int)] 5)) (w.heap.size + 1) 1 (some ⟨w.heap.size, 0, none⟩) 6 (u8s [92, 117, 48, 48, dq, dr]) :=
    (Vals.of_block (xs := u8s [92, 117, 48, 48, dq, dr]) (heap_alloc_new w.drew _) rfl).more (by simp)
  have hB2 : base ≤ (w.drew.alloc (.cells #[.int .u8 92, .int .u8 117, .int .u8 48, .int .u8 48, .int .u8 (dq : Int), .int .u8 (dr : Int)] 5)).heap.size := by simp; omega
  have hown : (w.drew.alloc (.cells #[.int .u8 92, .int .u8 117, .int .u8 48, .int .u8 48, .int .u8 (dq : Int), .int .u8 (dr : Int)] 5)).ownsRow base 5 1 v l.length (u8s l) := World.ownsRow.alloc (w := w.drew) h _
  obtain ⟨v3, w3, hrun, h2, h3, h5⟩ := run_append_vals (P := Try.prog) base 37 37 5 i0 _ 1 1 Try.underlying37 hi0 hz0 hz1 hz2 rfl (by omega) v _ _ hown (w.heap.size + 1) (some ⟨w.heap.size, 0, none⟩) 6 6 _ hV (u8s_one _) Hl1.out Hl2.out hB2
  have hg : Gone w.drew base v (l ++ [92, 117, 48, 48, dq, dr]) v3 w3 := Gone.grown h2 (by simp) (by rw [u8s_append]) ((World.grownBy_alloc w.drew _ _).trans h3) (by
    rcases h5 with h5 | h5
    · exact .inl h5
    · exact .inr ⟨_, h5, by simp⟩)
  have HG := Lib.hid hg.undrew
  have Hrun := Lib.hid hrun
  clear h2 h3 h5 hg hown hV hB2 hrun hB hl h
  go_enter Try.func18, Try.ntmps18
  go_wp2_with fail
  refine wp_region_held (S := fun _ => True) (by kernel_rfl) ?_
  refine wpAnyH_take (i := 0) (oi := { dst := some 24, op := Go.Op.move (Go.Operand.tmp 0), type := 37, pos := "utf.go:94", after := #[], guard := none }) (v := ?_) rfl (by kernel_rfl) (by kernel_rfl) (by kernel_rfl) (fun _ _ _ h => h) (Or.inl ⟨by rfl, ?_⟩) (trivial) ?_
  rotate_left 1
  · intro w5 hSw
    go_simp; all_goals (with_reducible rfl)
  try simp only [Act.put, List.setIfInBounds_toArray, List.set_cons_zero, List.set_cons_succ]
  refine wpAnyH_take (i := 1) (oi := { dst := some 25, op := Go.Op.move (Go.Operand.tmp 1), type := 5, pos := "utf.go:94", after := #[], guard := none }) (v := ?_) rfl (by kernel_rfl) (by kernel_rfl) (by kernel_rfl) (fun _ _ _ h => h) (Or.inl ⟨by rfl, ?_⟩) (trivial) ?_
  rotate_left 1
  · intro w5 hSw
    go_simp; all_goals (with_reducible rfl)
  try simp only [Act.put, List.setIfInBounds_toArray, List.set_cons_zero, List.set_cons_succ]
  refine wpAnyH_take (i := 2) (oi := { dst := some 26, op := Go.Op.binOp Go.BinOp.shr 5 (Go.Operand.tmp 25) (Go.Operand.const (Go.Value.int Go.IntKind.u64 4)) 51, type := 5, pos := "utf.go:94", after := #[{ on := 1, ground := Go.Ground.data }], guard := none }) (v := ?_) rfl (by kernel_rfl) (by kernel_rfl) (by kernel_rfl) (fun _ _ _ h => h) (Or.inl ⟨by rfl, ?_⟩) (trivial) ?_
  rotate_left 1
  · intro w5 hSw
    go_simp; all_goals (with_reducible rfl)
  try simp only [Act.put, List.setIfInBounds_toArray, List.set_cons_zero, List.set_cons_succ]
  refine wpAnyH_take (i := 3) (oi := { dst := some 27, op := Go.Op.index 9 (Go.Operand.const (Go.Value.string { data := #[48, 49, 50, 51, 52, 53, 54, 55, 56, 57, 97, 98, 99, 100, 101, 102] })) (Go.Operand.tmp 26), type := 5, pos := "utf.go:94", after := #[{ on := 2, ground := Go.Ground.data }], guard := none }) (v := ?_) rfl (by kernel_rfl) (by kernel_rfl) (by kernel_rfl) (fun _ _ _ h => h) (Or.inl ⟨by rfl, ?_⟩) (trivial) ?_
  rotate_left 1
  · intro w5 hSw
    go_simp; all_goals (with_reducible rfl)
  try simp only [Act.put, List.setIfInBounds_toArray, List.set_cons_zero, List.set_cons_succ]
  refine wpAnyH_take (i := 4) (oi := { dst := some 28, op := Go.Op.move (Go.Operand.tmp 1), type := 5, pos := "utf.go:94", after := #[], guard := none }) (v := ?_) rfl (by kernel_rfl) (by kernel_rfl) (by kernel_rfl) (fun _ _ _ h => h) (Or.inl ⟨by rfl, ?_⟩) (trivial) ?_
  rotate_left 1
  · intro w5 hSw
    go_simp; all_goals (with_reducible rfl)
  try simp only [Act.put, List.setIfInBounds_toArray, List.set_cons_zero, List.set_cons_succ]
  refine wpAnyH_take (i := 5) (oi := { dst := some 29, op := Go.Op.binOp Go.BinOp.and 5 (Go.Operand.tmp 28) (Go.Operand.const (Go.Value.int Go.IntKind.u8 15)) 5, type := 5, pos := "utf.go:94", after := #[{ on := 4, ground := Go.Ground.data }], guard := none }) (v := ?_) rfl (by kernel_rfl) (by kernel_rfl) (by kernel_rfl) (fun _ _ _ h => h) (Or.inl ⟨by rfl, ?_⟩) (trivial) ?_
  rotate_left 1
  · intro w5 hSw
    go_simp; all_goals (with_reducible rfl)
  try simp only [Act.put, List.setIfInBounds_toArray, List.set_cons_zero, List.set_cons_succ]
  refine wpAnyH_take (i := 6) (oi := { dst := some 30, op := Go.Op.index 9 (Go.Operand.const (Go.Value.string { data := #[48, 49, 50, 51, 52, 53, 54, 55, 56, 57, 97, 98, 99, 100, 101, 102] })) (Go.Operand.tmp 29), type := 5, pos := "utf.go:94", after := #[{ on := 5, ground := Go.Ground.data }], guard := none }) (v := ?_) rfl (by kernel_rfl) (by kernel_rfl) (by kernel_rfl) (fun _ _ _ h => h) (Or.inl ⟨by rfl, ?_⟩) (trivial) ?_
  rotate_left 1
  · intro w5 hSw
    go_simp; all_goals (with_reducible rfl)
  try simp only [Act.put, List.setIfInBounds_toArray, List.set_cons_zero, List.set_cons_succ]
  refine wpAnyH_ready (rs := [7]) (by kernel_rfl) (by simp) ?_
  refine AllReadyH.cons (o := { dst := some 31, op := Go.Op.buildSlice 37 6 #[(0, Go.Operand.const (Go.Value.int Go.IntKind.u8 92)), (1, Go.Operand.const (Go.Value.int Go.IntKind.u8 117)), (2, Go.Operand.const (Go.Value.int Go.IntKind.u8 48)), (3, Go.Operand.const (Go.Value.int Go.IntKind.u8 48)), (4, Go.Operand.tmp 27), (5, Go.Operand.tmp 30)], type := 37, pos := "utf.go:94", after := #[{ on := 3, ground := Go.Ground.data }, { on := 6, ground := Go.Ground.data }], guard := none }) rfl (fun K hK => ?_) AllReadyH.nil
  go_simp
  refine hK.out _ _ trivial (fun _ => ?_)
  clear hK K
  try simp only [Act.put, List.setIfInBounds_toArray, List.set_cons_zero, List.set_cons_succ]
  refine wpAnyH_ready (rs := [8]) (by kernel_rfl) (by simp) ?_
  refine AllReadyH.cons (o := { dst := some 32, op := Go.Op.call { callee := Go.Callee.builtin Go.Builtin.append, args := #[Go.Operand.tmp 24, Go.Operand.tmp 31], argTypes := #[37, 37] }, type := 37, pos := "utf.go:94", after := #[{ on := 0, ground := Go.Ground.data }, { on := 7, ground := Go.Ground.data }], guard := none }) rfl (fun K hK => ?_) AllReadyH.nil
  refine held_app (by rfl) (.tmp 24) (.tmp 31) 37 rfl _ _ (v3) rfl rfl (Hrun.out) ?_
  refine hK.out _ _ trivial (fun _ => ?_)
  clear hK K
  try simp only [Act.put, List.setIfInBounds_toArray, List.set_cons_zero, List.set_cons_succ]
  refine wpAnyH_take (i := 9) (oi := { dst := some 4, op := Go.Op.assign (Go.Operand.tmp 32), type := 37, pos := "utf.go:94", after := #[{ on := 8, ground := Go.Ground.data }, { on := 8, ground := Go.Ground.chain }, { on := 0, ground := Go.Ground.phase }, { on := 1, ground := Go.Ground.phase }, { on := 2, ground := Go.Ground.phase }, { on := 3, ground := Go.Ground.phase }, { on := 4, ground := Go.Ground.phase }, { on := 5, ground := Go.Ground.phase }, { on := 6, ground := Go.Ground.phase }, { on := 7, ground := Go.Ground.phase }, { on := 8, ground := Go.Ground.phase }], guard := none }) (v := ?_) rfl (by kernel_rfl) (by kernel_rfl) (by kernel_rfl) (fun _ _ _ h => h) (Or.inl ⟨by rfl, ?_⟩) (trivial) ?_
  rotate_left 1
  · intro w5 hSw
    go_simp; all_goals (with_reducible rfl)
  try simp only [Act.put, List.setIfInBounds_toArray, List.set_cons_zero, List.set_cons_succ]
  refine wpAnyH_done (by kernel_rfl) ?_ _
  go_wp2
  go_ret
  exact ⟨_, rfl, by have := HG.out; rwa [← he.out] at this⟩

end Go.Proofs.Ytdaipnlgloafdaa
