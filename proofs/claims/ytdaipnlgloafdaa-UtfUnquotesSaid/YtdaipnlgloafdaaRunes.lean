/- Walks over layer 15: AppendRune of any rune. -/
import Derived.Test.YtdaipnlgloafdaaUtfAppend
namespace Go.Proofs.Ytdaipnlgloafdaa
open Go.RowKit
set_option linter.unusedVariables false
set_option maxRecDepth 100000

/-- A rune's bytes. -/
def runeB (n : Nat) : List Nat := if n < 128 then [n] else if n < 2048 then [192 + n / 64, 128 + n % 64] else if n < 65536 then [224 + n / 4096, 128 + n / 64 % 64, 128 + n % 64] else [240 + n / 262144, 128 + n / 4096 % 64, 128 + n / 64 % 64, 128 + n % 64]

set_option maxHeartbeats 4000000 in
theorem rune_two (base : Nat) (v : Value) (l : List Nat) (n : Nat) (w : World) (hn : 128 ≤ n ∧ n < 2048) (h : Own8 w base v l) (hl : l.length ≤ 1000000000000) (hB : base ≤ w.heap.size) :
    Calls Try.prog 32 #[v, .int .i32 (n : Int)] w (AddPost w base v (l ++ [192 + n / 64, 128 + n % 64])) := by
  obtain ⟨i0, hi0, hz0, hz1, hz2⟩ := info_parts u8info
  have Hl1 : Hid (l.length + 2 ≤ maxLen) := by unfold Hid maxLen; omega
  have Hl2 : Hid ((l.length + 2) * 1 ≤ 140737488355328) := by unfold Hid; omega
  have q1 : IntKind.u32.wrap (n : Int) = (n : Int) := IntWalk.u32_in _ ⟨by omega, by omega⟩
  have q2 : decide ((n : Int) ≤ 2047) = true := decide_eq_true (by omega)
  have hcells : (#[.int .u8 (192 + (n : Int) / 64), .int .u8 (128 + (n : Int) % 64)] : Array Value) = (u8s [192 + n / 64, 128 + n % 64]).toArray := by simp [u8s]
  have hV : Vals (w.alloc (.cells #[.int .u8 (192 + (n : Int) / 64), .int .u8 (128 + (n : Int) % 64)] 5)) (w.heap.size + 1) 1 (some ⟨w.heap.size, 0, none⟩) 2 (u8s [192 + n / 64, 128 + n % 64]) := by
    rw [hcells]
    exact (Vals.of_block (xs := u8s [192 + n / 64, 128 + n % 64]) (heap_alloc_new w _) rfl).more (by simp)
  have hB2 : base ≤ (w.alloc (.cells #[.int .u8 (192 + (n : Int) / 64), .int .u8 (128 + (n : Int) % 64)] 5)).heap.size := by simp; omega
  have hown : (w.alloc (.cells #[.int .u8 (192 + (n : Int) / 64), .int .u8 (128 + (n : Int) % 64)] 5)).ownsRow base 5 1 v l.length (u8s l) := World.ownsRow.alloc h _
  have Hone := Lib.hid (u8s_one [192 + n / 64, 128 + n % 64])
  obtain ⟨hn1, hn2⟩ := hn
  clear hB hl hcells
  go_enter Try.func32, Try.ntmps32
  go_wp2_with (at_builtin; refine app_vals rfl (.tmp 14) (.tmp 23) 37 rfl base 5 i0 _ 1 1 Try.underlying37 hi0 hz0 hz1 hz2 rfl (by omega) v _ _ rfl hown (w.heap.size + 1) _ 2 2 _ rfl hV Hone.out Hl1.out Hl2.out hB2 ?_)
  intro v3 w3 h2 h3 h5
  have hg : Gone w base v (l ++ [192 + n / 64, 128 + n % 64]) v3 w3 := Gone.grown h2 (by simp) (by rw [u8s_append]) ((World.grownBy_alloc w _ _).trans h3) (by
    rcases h5 with h5 | h5
    · exact .inl h5
    · exact .inr ⟨_, h5, by simp⟩)
  have HG := Lib.hid hg
  clear h2 h3 h5 hg hown hV hB2
  go_wp2
  go_ret
  exact ⟨_, rfl, HG.out⟩

set_option maxHeartbeats 4000000 in
theorem rune_three (base : Nat) (v : Value) (l : List Nat) (n : Nat) (w : World) (hn : 2048 ≤ n ∧ n < 55296) (h : Own8 w base v l) (hl : l.length ≤ 1000000000000) (hB : base ≤ w.heap.size) :
    Calls Try.prog 32 #[v, .int .i32 (n : Int)] w (AddPost w base v (l ++ [224 + n / 4096, 128 + n / 64 % 64, 128 + n % 64])) := by
  obtain ⟨i0, hi0, hz0, hz1, hz2⟩ := info_parts u8info
  have Hl1 : Hid (l.length + 3 ≤ maxLen) := by unfold Hid maxLen; omega
  have Hl2 : Hid ((l.length + 3) * 1 ≤ 140737488355328) := by unfold Hid; omega
  have q1 : IntKind.u32.wrap (n : Int) = (n : Int) := IntWalk.u32_in _ ⟨by omega, by omega⟩
  have q2 : decide ((n : Int) ≤ 2047) = false := decide_eq_false (by omega)
  have q3 : decide ((n : Int) < 55296) = true := decide_eq_true (by omega)
  have hcells : (#[.int .u8 (224 + (n : Int) / 4096), .int .u8 (128 + (n : Int) / 64 % 64), .int .u8 (128 + (n : Int) % 64)] : Array Value) = (u8s [224 + n / 4096, 128 + n / 64 % 64, 128 + n % 64]).toArray := by simp [u8s]
  have hV : Vals (w.alloc (.cells #[.int .u8 (224 + (n : Int) / 4096), .int .u8 (128 + (n : Int) / 64 % 64), .int .u8 (128 + (n : Int) % 64)] 5)) (w.heap.size + 1) 1 (some ⟨w.heap.size, 0, none⟩) 3 (u8s [224 + n / 4096, 128 + n / 64 % 64, 128 + n % 64]) := by
    rw [hcells]
    exact (Vals.of_block (xs := u8s [224 + n / 4096, 128 + n / 64 % 64, 128 + n % 64]) (heap_alloc_new w _) rfl).more (by simp)
  have hB2 : base ≤ (w.alloc (.cells #[.int .u8 (224 + (n : Int) / 4096), .int .u8 (128 + (n : Int) / 64 % 64), .int .u8 (128 + (n : Int) % 64)] 5)).heap.size := by simp; omega
  have hown : (w.alloc (.cells #[.int .u8 (224 + (n : Int) / 4096), .int .u8 (128 + (n : Int) / 64 % 64), .int .u8 (128 + (n : Int) % 64)] 5)).ownsRow base 5 1 v l.length (u8s l) := World.ownsRow.alloc h _
  have Hone := Lib.hid (u8s_one [224 + n / 4096, 128 + n / 64 % 64, 128 + n % 64])
  obtain ⟨hn1, hn2⟩ := hn
  clear hB hl hcells
  go_enter Try.func32, Try.ntmps32
  go_wp2_with (at_builtin; refine app_vals rfl (.tmp 34) (.tmp 48) 37 rfl base 5 i0 _ 1 1 Try.underlying37 hi0 hz0 hz1 hz2 rfl (by omega) v _ _ rfl hown (w.heap.size + 1) _ 3 3 _ rfl hV Hone.out Hl1.out Hl2.out hB2 ?_)
  intro v3 w3 h2 h3 h5
  have hg : Gone w base v (l ++ [224 + n / 4096, 128 + n / 64 % 64, 128 + n % 64]) v3 w3 := Gone.grown h2 (by simp) (by rw [u8s_append]) ((World.grownBy_alloc w _ _).trans h3) (by
    rcases h5 with h5 | h5
    · exact .inl h5
    · exact .inr ⟨_, h5, by simp⟩)
  have HG := Lib.hid hg
  clear h2 h3 h5 hg hown hV hB2
  go_wp2
  go_ret
  exact ⟨_, rfl, HG.out⟩

set_option maxHeartbeats 4000000 in
theorem rune_threeB (base : Nat) (v : Value) (l : List Nat) (n : Nat) (w : World) (hn : 57343 < n ∧ n < 65536) (h : Own8 w base v l) (hl : l.length ≤ 1000000000000) (hB : base ≤ w.heap.size) :
    Calls Try.prog 32 #[v, .int .i32 (n : Int)] w (AddPost w base v (l ++ [224 + n / 4096, 128 + n / 64 % 64, 128 + n % 64])) := by
  obtain ⟨i0, hi0, hz0, hz1, hz2⟩ := info_parts u8info
  have Hl1 : Hid (l.length + 3 ≤ maxLen) := by unfold Hid maxLen; omega
  have Hl2 : Hid ((l.length + 3) * 1 ≤ 140737488355328) := by unfold Hid; omega
  have q1 : IntKind.u32.wrap (n : Int) = (n : Int) := IntWalk.u32_in _ ⟨by omega, by omega⟩
  have q2 : decide ((n : Int) ≤ 2047) = false := decide_eq_false (by omega)
  have q3 : decide ((n : Int) < 55296) = false := decide_eq_false (by omega)
  have q4 : decide ((57343 : Int) < (n : Int)) = true := decide_eq_true (by omega)
  have q5 : decide ((n : Int) ≤ 65535) = true := decide_eq_true (by omega)
  have hcells : (#[.int .u8 (224 + (n : Int) / 4096), .int .u8 (128 + (n : Int) / 64 % 64), .int .u8 (128 + (n : Int) % 64)] : Array Value) = (u8s [224 + n / 4096, 128 + n / 64 % 64, 128 + n % 64]).toArray := by simp [u8s]
  have hV : Vals (w.alloc (.cells #[.int .u8 (224 + (n : Int) / 4096), .int .u8 (128 + (n : Int) / 64 % 64), .int .u8 (128 + (n : Int) % 64)] 5)) (w.heap.size + 1) 1 (some ⟨w.heap.size, 0, none⟩) 3 (u8s [224 + n / 4096, 128 + n / 64 % 64, 128 + n % 64]) := by
    rw [hcells]
    exact (Vals.of_block (xs := u8s [224 + n / 4096, 128 + n / 64 % 64, 128 + n % 64]) (heap_alloc_new w _) rfl).more (by simp)
  have hB2 : base ≤ (w.alloc (.cells #[.int .u8 (224 + (n : Int) / 4096), .int .u8 (128 + (n : Int) / 64 % 64), .int .u8 (128 + (n : Int) % 64)] 5)).heap.size := by simp; omega
  have hown : (w.alloc (.cells #[.int .u8 (224 + (n : Int) / 4096), .int .u8 (128 + (n : Int) / 64 % 64), .int .u8 (128 + (n : Int) % 64)] 5)).ownsRow base 5 1 v l.length (u8s l) := World.ownsRow.alloc h _
  have Hone := Lib.hid (u8s_one [224 + n / 4096, 128 + n / 64 % 64, 128 + n % 64])
  obtain ⟨hn1, hn2⟩ := hn
  clear hB hl hcells
  go_enter Try.func32, Try.ntmps32
  go_wp2_with (at_builtin; refine app_vals rfl (.tmp 34) (.tmp 48) 37 rfl base 5 i0 _ 1 1 Try.underlying37 hi0 hz0 hz1 hz2 rfl (by omega) v _ _ rfl hown (w.heap.size + 1) _ 3 3 _ rfl hV Hone.out Hl1.out Hl2.out hB2 ?_)
  intro v3 w3 h2 h3 h5
  have hg : Gone w base v (l ++ [224 + n / 4096, 128 + n / 64 % 64, 128 + n % 64]) v3 w3 := Gone.grown h2 (by simp) (by rw [u8s_append]) ((World.grownBy_alloc w _ _).trans h3) (by
    rcases h5 with h5 | h5
    · exact .inl h5
    · exact .inr ⟨_, h5, by simp⟩)
  have HG := Lib.hid hg
  clear h2 h3 h5 hg hown hV hB2
  go_wp2
  go_ret
  exact ⟨_, rfl, HG.out⟩

set_option maxHeartbeats 4000000 in
theorem rune_four (base : Nat) (v : Value) (l : List Nat) (n : Nat) (w : World) (hn : 65536 ≤ n ∧ n ≤ 1114111) (h : Own8 w base v l) (hl : l.length ≤ 1000000000000) (hB : base ≤ w.heap.size) :
    Calls Try.prog 32 #[v, .int .i32 (n : Int)] w (AddPost w base v (l ++ [240 + n / 262144, 128 + n / 4096 % 64, 128 + n / 64 % 64, 128 + n % 64])) := by
  obtain ⟨i0, hi0, hz0, hz1, hz2⟩ := info_parts u8info
  have Hl1 : Hid (l.length + 4 ≤ maxLen) := by unfold Hid maxLen; omega
  have Hl2 : Hid ((l.length + 4) * 1 ≤ 140737488355328) := by unfold Hid; omega
  have q1 : IntKind.u32.wrap (n : Int) = (n : Int) := IntWalk.u32_in _ ⟨by omega, by omega⟩
  have q2 : decide ((n : Int) ≤ 2047) = false := decide_eq_false (by omega)
  have q3 : decide ((n : Int) < 55296) = false := decide_eq_false (by omega)
  have q4 : decide ((57343 : Int) < (n : Int)) = true := decide_eq_true (by omega)
  have q5 : decide ((n : Int) ≤ 65535) = false := decide_eq_false (by omega)
  have q6 : decide ((65535 : Int) < (n : Int)) = true := decide_eq_true (by omega)
  have q7 : decide ((n : Int) ≤ 1114111) = true := decide_eq_true (by omega)
  have hcells : (#[.int .u8 (240 + (n : Int) / 262144), .int .u8 (128 + (n : Int) / 4096 % 64), .int .u8 (128 + (n : Int) / 64 % 64), .int .u8 (128 + (n : Int) % 64)] : Array Value) = (u8s [240 + n / 262144, 128 + n / 4096 % 64, 128 + n / 64 % 64, 128 + n % 64]).toArray := by simp [u8s]
  have hV : Vals (w.alloc (.cells #[.int .u8 (240 + (n : Int) / 262144), .int .u8 (128 + (n : Int) / 4096 % 64), .int .u8 (128 + (n : Int) / 64 % 64), .int .u8 (128 + (n : Int) % 64)] 5)) (w.heap.size + 1) 1 (some ⟨w.heap.size, 0, none⟩) 4 (u8s [240 + n / 262144, 128 + n / 4096 % 64, 128 + n / 64 % 64, 128 + n % 64]) := by
    rw [hcells]
    exact (Vals.of_block (xs := u8s [240 + n / 262144, 128 + n / 4096 % 64, 128 + n / 64 % 64, 128 + n % 64]) (heap_alloc_new w _) rfl).more (by simp)
  have hB2 : base ≤ (w.alloc (.cells #[.int .u8 (240 + (n : Int) / 262144), .int .u8 (128 + (n : Int) / 4096 % 64), .int .u8 (128 + (n : Int) / 64 % 64), .int .u8 (128 + (n : Int) % 64)] 5)).heap.size := by simp; omega
  have hown : (w.alloc (.cells #[.int .u8 (240 + (n : Int) / 262144), .int .u8 (128 + (n : Int) / 4096 % 64), .int .u8 (128 + (n : Int) / 64 % 64), .int .u8 (128 + (n : Int) % 64)] 5)).ownsRow base 5 1 v l.length (u8s l) := World.ownsRow.alloc h _
  have Hone := Lib.hid (u8s_one [240 + n / 262144, 128 + n / 4096 % 64, 128 + n / 64 % 64, 128 + n % 64])
  obtain ⟨hn1, hn2⟩ := hn
  clear hB hl hcells
  go_enter Try.func32, Try.ntmps32
  go_wp2_with (at_builtin; refine app_vals rfl (.tmp 57) (.tmp 76) 37 rfl base 5 i0 _ 1 1 Try.underlying37 hi0 hz0 hz1 hz2 rfl (by omega) v _ _ rfl hown (w.heap.size + 1) _ 4 4 _ rfl hV Hone.out Hl1.out Hl2.out hB2 ?_)
  intro v3 w3 h2 h3 h5
  have hg : Gone w base v (l ++ [240 + n / 262144, 128 + n / 4096 % 64, 128 + n / 64 % 64, 128 + n % 64]) v3 w3 := Gone.grown h2 (by simp) (by rw [u8s_append]) ((World.grownBy_alloc w _ _).trans h3) (by
    rcases h5 with h5 | h5
    · exact .inl h5
    · exact .inr ⟨_, h5, by simp⟩)
  have HG := Lib.hid hg
  clear h2 h3 h5 hg hown hV hB2
  go_wp2
  go_ret
  exact ⟨_, rfl, HG.out⟩

theorem runeNon_any (base : Nat) (v : Value) (l : List Nat) (n : Nat) (w : World) (hn : 128 ≤ n ∧ (n < 55296 ∨ 57343 < n) ∧ n ≤ 1114111) (h : Own8 w base v l) (hl : l.length ≤ 1000000000000) (hB : base ≤ w.heap.size) :
    Calls Try.prog 32 #[v, .int .i32 (n : Int)] w (AddPost w base v (l ++ runeB n)) := by
  have e : runeB n = (if n < 2048 then [192 + n / 64, 128 + n % 64] else if n < 65536 then [224 + n / 4096, 128 + n / 64 % 64, 128 + n % 64] else [240 + n / 262144, 128 + n / 4096 % 64, 128 + n / 64 % 64, 128 + n % 64]) := by unfold runeB; rw [if_neg (by omega)]
  rw [e]
  split
  · exact rune_two base v l n w ⟨by omega, by omega⟩ h hl hB
  · split
    · by_cases h1 : n < 55296
      · exact rune_three base v l n w ⟨by omega, by omega⟩ h hl hB
      · exact rune_threeB base v l n w ⟨by omega, by omega⟩ h hl hB
    · exact rune_four base v l n w ⟨by omega, by omega⟩ h hl hB

set_option maxHeartbeats 2000000 in
theorem runes_any (base : Nat) (v : Value) (l : List Nat) (n : Nat) (w : World) (hn : (n < 55296 ∨ 57343 < n) ∧ n ≤ 1114111) (h : Own8 w base v l) (hl : l.length ≤ 1000000000000) (hB : base ≤ w.heap.size) :
    Calls Try.prog 31 #[v, .int .i32 (n : Int)] w (AddPost w base v (l ++ runeB n)) := by
  obtain ⟨i0, hi0, hz0, hz1, hz2⟩ := info_parts u8info
  have Hl1 : Hid (l.length + 1 ≤ maxLen) := by unfold Hid maxLen; omega
  have Hl2 : Hid ((l.length + 1) * 1 ≤ 140737488355328) := by unfold Hid; omega
  have hown : w.ownsRow base 5 1 v l.length (u8s l) := h
  have q6 : IntKind.u32.wrap (n : Int) = (n : Int) := IntWalk.u32_in _ ⟨by omega, by omega⟩
  by_cases hs : n < 128
  · have Hr : Hid (runeB n = [n]) := by show _ = _; unfold runeB; rw [if_pos hs]
    have q3 : decide ((n : Int) ≤ 127) = true := decide_eq_true (by omega)
    have q5 : IntKind.u8.wrap (n : Int) = (n : Int) := IntWalk.u8_in _ ⟨by omega, by omega⟩
    clear hl h hn
    go_enter Try.func31, Try.ntmps31
    go_wp2_with (at_builtin; refine app_one rfl (.tmp 8) (.tmp 11) 37 rfl base 5 i0 _ 1 Try.underlying37 hi0 hz0 hz1 hz2 rfl v _ _ rfl hown (.int .u8 (n : Int)) 1 rfl rfl Hl1.out Hl2.out hB ?_)
    intro v3 w3 h2 h3 h5
    have hg : Gone w base v (l ++ [n]) v3 w3 := Gone.grown h2 (by simp) (by simp [u8s]) h3 h5
    have HG := Lib.hid hg
    clear h2 h3 h5 hg hown
    go_wp2_with fail
    go_ret
    exact ⟨_, rfl, by rw [Hr.out]; exact HG.out⟩
  · have q3 : decide ((n : Int) ≤ 127) = false := decide_eq_false (by omega)
    have hc := Lib.hid (runeNon_any base v l n w ⟨by omega, hn.1, hn.2⟩ h hl hB)
    clear hl h hn hs hown
    go_enter Try.func31, Try.ntmps31
    go_wp2_with fail
    refine hc.out.mono ?_
    rintro e W ⟨v1, rfl, hg⟩
    have HG := Lib.hid hg
    clear hc hg
    go_wp2
    go_ret
    exact ⟨_, rfl, HG.out⟩

/-- A fresh row that reads as l. -/
def NewPost (w : World) (l : List Nat) (e : Ending) (w' : World) : Prop := ∃ v', e = .returned v' ∧ Own8 w' w.heap.size v' l ∧ Below w.heap.size w w'

set_option maxHeartbeats 2000000 in
theorem bytes_one (n : Nat) (w : World) (hn : 0 ≤ n ∧ n < 128) : Calls Try.prog 21 #[.int .i64 (n : Int)] w (NewPost w [n]) := by
  have hcells : (#[.int .u8 ((n : Int))] : Array Value) = (u8s [n]).toArray := by simp [u8s]
  have q1 : decide ((n : Int) < 128) = true := decide_eq_true (by omega)
  have Hf : Hid (Own8 (w.alloc (.cells #[.int .u8 ((n : Int))] 5)) w.heap.size (.slice (some ⟨w.heap.size, 0, none⟩) 1 1) [n]) := by
    rw [hcells]
    exact ⟨rfl, .inr ⟨w.heap.size, 1, (u8s [n]).toArray, rfl, Nat.le_refl _, heap_alloc_new _ _, Nat.le_refl _, by unfold maxLen; omega, rfl, rfl⟩⟩
  obtain ⟨hn1, hn2⟩ := hn
  clear hcells
  go_enter Try.func21, Try.ntmps21
  go_wp2_with fail
  go_ret
  exact ⟨_, rfl, Hf.out, (Below.refl _ _).alloc (Nat.le_refl _) _⟩

set_option maxHeartbeats 2000000 in
theorem bytes_two (n : Nat) (w : World) (hn : 128 ≤ n ∧ n < 2048) : Calls Try.prog 21 #[.int .i64 (n : Int)] w (NewPost w [192 + n / 64, 128 + n % 64]) := by
  have hcells : (#[.int .u8 (192 + (n : Int) / 64), .int .u8 (128 + (n : Int) % 64)] : Array Value) = (u8s [192 + n / 64, 128 + n % 64]).toArray := by simp [u8s]
  have q1 : decide ((n : Int) < 128) = false := decide_eq_false (by omega)
  have q2 : decide ((n : Int) < 2048) = true := decide_eq_true (by omega)
  have Hf : Hid (Own8 (w.alloc (.cells #[.int .u8 (192 + (n : Int) / 64), .int .u8 (128 + (n : Int) % 64)] 5)) w.heap.size (.slice (some ⟨w.heap.size, 0, none⟩) 2 2) [192 + n / 64, 128 + n % 64]) := by
    rw [hcells]
    exact ⟨rfl, .inr ⟨w.heap.size, 2, (u8s [192 + n / 64, 128 + n % 64]).toArray, rfl, Nat.le_refl _, heap_alloc_new _ _, Nat.le_refl _, by unfold maxLen; omega, rfl, rfl⟩⟩
  obtain ⟨hn1, hn2⟩ := hn
  clear hcells
  go_enter Try.func21, Try.ntmps21
  go_wp2_with fail
  go_ret
  exact ⟨_, rfl, Hf.out, (Below.refl _ _).alloc (Nat.le_refl _) _⟩

set_option maxHeartbeats 2000000 in
theorem bytes_three (n : Nat) (w : World) (hn : 2048 ≤ n ∧ n < 65536) : Calls Try.prog 21 #[.int .i64 (n : Int)] w (NewPost w [224 + n / 4096, 128 + n / 64 % 64, 128 + n % 64]) := by
  have hcells : (#[.int .u8 (224 + (n : Int) / 4096), .int .u8 (128 + (n : Int) / 64 % 64), .int .u8 (128 + (n : Int) % 64)] : Array Value) = (u8s [224 + n / 4096, 128 + n / 64 % 64, 128 + n % 64]).toArray := by simp [u8s]
  have q1 : decide ((n : Int) < 128) = false := decide_eq_false (by omega)
  have q2 : decide ((n : Int) < 2048) = false := decide_eq_false (by omega)
  have q3 : decide ((n : Int) < 65536) = true := decide_eq_true (by omega)
  have Hf : Hid (Own8 (w.alloc (.cells #[.int .u8 (224 + (n : Int) / 4096), .int .u8 (128 + (n : Int) / 64 % 64), .int .u8 (128 + (n : Int) % 64)] 5)) w.heap.size (.slice (some ⟨w.heap.size, 0, none⟩) 3 3) [224 + n / 4096, 128 + n / 64 % 64, 128 + n % 64]) := by
    rw [hcells]
    exact ⟨rfl, .inr ⟨w.heap.size, 3, (u8s [224 + n / 4096, 128 + n / 64 % 64, 128 + n % 64]).toArray, rfl, Nat.le_refl _, heap_alloc_new _ _, Nat.le_refl _, by unfold maxLen; omega, rfl, rfl⟩⟩
  obtain ⟨hn1, hn2⟩ := hn
  clear hcells
  go_enter Try.func21, Try.ntmps21
  go_wp2_with fail
  go_ret
  exact ⟨_, rfl, Hf.out, (Below.refl _ _).alloc (Nat.le_refl _) _⟩

set_option maxHeartbeats 2000000 in
theorem bytes_four (n : Nat) (w : World) (hn : 65536 ≤ n ∧ n ≤ 1114111) : Calls Try.prog 21 #[.int .i64 (n : Int)] w (NewPost w [240 + n / 262144, 128 + n / 4096 % 64, 128 + n / 64 % 64, 128 + n % 64]) := by
  have hcells : (#[.int .u8 (240 + (n : Int) / 262144), .int .u8 (128 + (n : Int) / 4096 % 64), .int .u8 (128 + (n : Int) / 64 % 64), .int .u8 (128 + (n : Int) % 64)] : Array Value) = (u8s [240 + n / 262144, 128 + n / 4096 % 64, 128 + n / 64 % 64, 128 + n % 64]).toArray := by simp [u8s]
  have q1 : decide ((n : Int) < 128) = false := decide_eq_false (by omega)
  have q2 : decide ((n : Int) < 2048) = false := decide_eq_false (by omega)
  have q3 : decide ((n : Int) < 65536) = false := decide_eq_false (by omega)
  have Hf : Hid (Own8 (w.alloc (.cells #[.int .u8 (240 + (n : Int) / 262144), .int .u8 (128 + (n : Int) / 4096 % 64), .int .u8 (128 + (n : Int) / 64 % 64), .int .u8 (128 + (n : Int) % 64)] 5)) w.heap.size (.slice (some ⟨w.heap.size, 0, none⟩) 4 4) [240 + n / 262144, 128 + n / 4096 % 64, 128 + n / 64 % 64, 128 + n % 64]) := by
    rw [hcells]
    exact ⟨rfl, .inr ⟨w.heap.size, 4, (u8s [240 + n / 262144, 128 + n / 4096 % 64, 128 + n / 64 % 64, 128 + n % 64]).toArray, rfl, Nat.le_refl _, heap_alloc_new _ _, Nat.le_refl _, by unfold maxLen; omega, rfl, rfl⟩⟩
  obtain ⟨hn1, hn2⟩ := hn
  clear hcells
  go_enter Try.func21, Try.ntmps21
  go_wp2_with fail
  go_ret
  exact ⟨_, rfl, Hf.out, (Below.refl _ _).alloc (Nat.le_refl _) _⟩

theorem bytes_any (n : Nat) (w : World) (hn : n ≤ 1114111) : Calls Try.prog 21 #[.int .i64 (n : Int)] w (NewPost w (runeB n)) := by
  unfold runeB
  split
  · exact bytes_one n w ⟨by omega, by omega⟩
  · split
    · exact bytes_two n w ⟨by omega, by omega⟩
    · split
      · exact bytes_three n w ⟨by omega, by omega⟩
      · exact bytes_four n w ⟨by omega, by omega⟩
end Go.Proofs.Ytdaipnlgloafdaa
