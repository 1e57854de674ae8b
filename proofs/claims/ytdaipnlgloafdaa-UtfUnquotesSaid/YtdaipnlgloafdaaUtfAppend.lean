/- Walks over layer 15: AppendRune of one rune of two bytes. -/
import Derived.Test.YtdaipnlgloafdaaU8
namespace Go.Proofs.Ytdaipnlgloafdaa
open Go.RowKit
set_option linter.unusedVariables false
set_option maxRecDepth 100000

def AddPost (w : World) (base : Nat) (v : Value) (l : List Nat) (e : Ending) (w' : World) : Prop := ∃ v', e = .returned v' ∧ Gone w base v l v' w'

set_option maxHeartbeats 4000000 in
theorem runeTwo_any (base : Nat) (v : Value) (l : List Nat) (w : World) (h : Own8 w base v l) (hl : l.length ≤ 1000000000000) (hB : base ≤ w.heap.size) :
    Calls Try.prog 32 #[v, .int .i32 233] w (AddPost w base v (l ++ [195, 169])) := by
  obtain ⟨i0, hi0, hz0, hz1, hz2⟩ := info_parts u8info
  have h' : w.ownsRow base 5 1 v l.length (u8s l) := h
  have Hl1 : Hid (l.length + 2 ≤ maxLen) := by unfold Hid maxLen; omega
  have Hl2 : Hid ((l.length + 2) * 1 ≤ 140737488355328) := by unfold Hid; omega
  go_enter Try.func32, Try.ntmps32
  have hV : Vals (w.alloc (.cells #[.int .u8 195, .int .u8 169] 5)) (w.heap.size + 1) 1 (some ⟨w.heap.size, 0, none⟩) 2 (u8s [195, 169]) :=
    (Vals.of_block (xs := u8s [195, 169]) (heap_alloc_new w _) rfl).more (by simp)
  have hB2 : base ≤ (w.alloc (.cells #[.int .u8 195, .int .u8 169] 5)).heap.size := by simp; omega
  have hown : (w.alloc (.cells #[.int .u8 195, .int .u8 169] 5)).ownsRow base 5 1 v l.length (u8s l) := World.ownsRow.alloc h _
  have Hone := Lib.hid (u8s_one [195, 169])
  have HB := Lib.hid hB
  clear hB hl h'
  go_wp2_with (at_builtin; refine app_vals rfl (.tmp 14) (.tmp 23) 37 rfl base 5 i0 _ 1 1 Try.underlying37 hi0 hz0 hz1 hz2 rfl (by omega) v _ _ rfl hown (w.heap.size + 1) _ 2 2 _ rfl hV Hone.out Hl1.out Hl2.out hB2 ?_)
  intro v3 w3 h2 h3 h5
  have hg : Gone w base v (l ++ [195, 169]) v3 w3 := Gone.grown h2 (by simp) (by rw [u8s_append]) ((World.grownBy_alloc w _ _).trans h3) (by
    rcases h5 with h5 | h5
    · exact .inl h5
    · exact .inr ⟨_, h5, by simp⟩)
  have HG := Lib.hid hg
  clear h2 h3 h5 hg hown hV hB2
  go_wp2
  go_ret
  exact ⟨_, rfl, HG.out⟩

set_option maxHeartbeats 4000000 in
theorem rune_any (base : Nat) (v : Value) (l : List Nat) (w : World) (h : Own8 w base v l) (hl : l.length ≤ 1000000000000) (hB : base ≤ w.heap.size) :
    Calls Try.prog 31 #[v, .int .i32 233] w (AddPost w base v (l ++ [195, 169])) := by
  have hc := Lib.hid (runeTwo_any base v l w h hl hB)
  clear h hl hB
  go_enter Try.func31, Try.ntmps31
  go_wp2_with fail
  refine hc.out.mono ?_
  rintro e W ⟨v1, rfl, hg⟩
  have HG := Lib.hid hg
  clear hc hg
  go_wp2
  go_ret
  exact ⟨_, rfl, HG.out⟩
end Go.Proofs.Ytdaipnlgloafdaa
