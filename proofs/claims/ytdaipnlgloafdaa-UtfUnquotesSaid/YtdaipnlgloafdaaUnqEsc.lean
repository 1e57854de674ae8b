/- Walks over layer 15: escape, step behind a backslash. -/
import Derived.Test.YtdaipnlgloafdaaUnqStep
namespace Go.Proofs.Ytdaipnlgloafdaa
open Go.RowKit Utf
set_option linter.unusedVariables false
set_option maxRecDepth 100000

set_option maxHeartbeats 2000000 in
theorem escape_98 (g : Nat) (b : ByteArray) (k : Nat) (v : Value) (l : List Nat) (w : World) (h : Rdr w g b k v l) (hl : l.length ≤ 1000000000) (hs : b.size ≤ 1000000000) (hk : k < b.size) (hc : (bs b).getD k 0 = 98) :
    Calls Try.prog 26 #[.pointer (some ⟨g, 0, none⟩)] w (StepPost w g b (k + 1) v (l ++ [8]) (.int .i64 0)) := by
  obtain ⟨i0, hi0, hz0, hz1, hz2⟩ := info_parts u8info
  have hd := Lib.hid (next_any g b k v l w h hk hs)
  have Hl1 : Hid (l.length + 1 ≤ maxLen) := by unfold Hid maxLen; omega
  have Hl2 : Hid ((l.length + 1) * 1 ≤ 140737488355328) := by unfold Hid; omega
  have Hc := Lib.hid hc
  clear h hc hl hs hk
  go_enter Try.func26, Try.ntmps26
  go_wp2_with fail
  refine hd.out.mono ?_
  rintro e W ⟨rfl, hR, hO⟩
  rw [Hc.out]
  have c2 : W.cell? ⟨g, 2, none⟩ = some v := hR.1.cell 2
  have hown : W.ownsRow 0 5 1 v l.length (u8s l) := hR.2.1
  have HR := Lib.hid hR
  have HO := Lib.hid hO
  clear hd hR hO
  go_wp2_with (at_builtin; refine app_one rfl (.tmp 36) (.tmp 38) 37 rfl 0 5 i0 _ 1 Try.underlying37 hi0 hz0 hz1 hz2 rfl v _ _ rfl hown (.int .u8 8) 1 rfl rfl Hl1.out Hl2.out (Nat.zero_le _) ?_)
  intro v3 w3 h2 h3 h5
  have hg : Gone W 0 v (l ++ [8]) v3 w3 := Gone.grown h2 (by simp) (by simp [u8s]) h3 h5
  obtain ⟨f2, d2⟩ := rdr_cell HR.out hg
  obtain ⟨a1, c1, rfl, _, _, _, _⟩ := hg.own.nums
  have HF := Lib.hid (rdr_app HR.out hg (.int .i64 0))
  clear h2 h3 h5 hg hown c2
  obtain ⟨L, hL⟩ : ∃ L, Hid ((l ++ [8]).length = L) := ⟨_, Lib.hid rfl⟩
  rw [hL.out] at HF ⊢
  go_wp2_with fail
  go_ret
  exact HF.out.mono HO.out

set_option maxHeartbeats 2000000 in
theorem escape_102 (g : Nat) (b : ByteArray) (k : Nat) (v : Value) (l : List Nat) (w : World) (h : Rdr w g b k v l) (hl : l.length ≤ 1000000000) (hs : b.size ≤ 1000000000) (hk : k < b.size) (hc : (bs b).getD k 0 = 102) :
    Calls Try.prog 26 #[.pointer (some ⟨g, 0, none⟩)] w (StepPost w g b (k + 1) v (l ++ [12]) (.int .i64 0)) := by
  obtain ⟨i0, hi0, hz0, hz1, hz2⟩ := info_parts u8info
  have hd := Lib.hid (next_any g b k v l w h hk hs)
  have Hl1 : Hid (l.length + 1 ≤ maxLen) := by unfold Hid maxLen; omega
  have Hl2 : Hid ((l.length + 1) * 1 ≤ 140737488355328) := by unfold Hid; omega
  have Hc := Lib.hid hc
  clear h hc hl hs hk
  go_enter Try.func26, Try.ntmps26
  go_wp2_with fail
  refine hd.out.mono ?_
  rintro e W ⟨rfl, hR, hO⟩
  rw [Hc.out]
  have c2 : W.cell? ⟨g, 2, none⟩ = some v := hR.1.cell 2
  have hown : W.ownsRow 0 5 1 v l.length (u8s l) := hR.2.1
  have HR := Lib.hid hR
  have HO := Lib.hid hO
  clear hd hR hO
  go_wp2_with (at_builtin; refine app_one rfl (.tmp 36) (.tmp 38) 37 rfl 0 5 i0 _ 1 Try.underlying37 hi0 hz0 hz1 hz2 rfl v _ _ rfl hown (.int .u8 12) 1 rfl rfl Hl1.out Hl2.out (Nat.zero_le _) ?_)
  intro v3 w3 h2 h3 h5
  have hg : Gone W 0 v (l ++ [12]) v3 w3 := Gone.grown h2 (by simp) (by simp [u8s]) h3 h5
  obtain ⟨f2, d2⟩ := rdr_cell HR.out hg
  obtain ⟨a1, c1, rfl, _, _, _, _⟩ := hg.own.nums
  have HF := Lib.hid (rdr_app HR.out hg (.int .i64 0))
  clear h2 h3 h5 hg hown c2
  obtain ⟨L, hL⟩ : ∃ L, Hid ((l ++ [12]).length = L) := ⟨_, Lib.hid rfl⟩
  rw [hL.out] at HF ⊢
  go_wp2_with fail
  go_ret
  exact HF.out.mono HO.out

set_option maxHeartbeats 2000000 in
theorem escape_110 (g : Nat) (b : ByteArray) (k : Nat) (v : Value) (l : List Nat) (w : World) (h : Rdr w g b k v l) (hl : l.length ≤ 1000000000) (hs : b.size ≤ 1000000000) (hk : k < b.size) (hc : (bs b).getD k 0 = 110) :
    Calls Try.prog 26 #[.pointer (some ⟨g, 0, none⟩)] w (StepPost w g b (k + 1) v (l ++ [10]) (.int .i64 0)) := by
  obtain ⟨i0, hi0, hz0, hz1, hz2⟩ := info_parts u8info
  have hd := Lib.hid (next_any g b k v l w h hk hs)
  have Hl1 : Hid (l.length + 1 ≤ maxLen) := by unfold Hid maxLen; omega
  have Hl2 : Hid ((l.length + 1) * 1 ≤ 140737488355328) := by unfold Hid; omega
  have Hc := Lib.hid hc
  clear h hc hl hs hk
  go_enter Try.func26, Try.ntmps26
  go_wp2_with fail
  refine hd.out.mono ?_
  rintro e W ⟨rfl, hR, hO⟩
  rw [Hc.out]
  have c2 : W.cell? ⟨g, 2, none⟩ = some v := hR.1.cell 2
  have hown : W.ownsRow 0 5 1 v l.length (u8s l) := hR.2.1
  have HR := Lib.hid hR
  have HO := Lib.hid hO
  clear hd hR hO
  go_wp2_with (at_builtin; refine app_one rfl (.tmp 36) (.tmp 38) 37 rfl 0 5 i0 _ 1 Try.underlying37 hi0 hz0 hz1 hz2 rfl v _ _ rfl hown (.int .u8 10) 1 rfl rfl Hl1.out Hl2.out (Nat.zero_le _) ?_)
  intro v3 w3 h2 h3 h5
  have hg : Gone W 0 v (l ++ [10]) v3 w3 := Gone.grown h2 (by simp) (by simp [u8s]) h3 h5
  obtain ⟨f2, d2⟩ := rdr_cell HR.out hg
  obtain ⟨a1, c1, rfl, _, _, _, _⟩ := hg.own.nums
  have HF := Lib.hid (rdr_app HR.out hg (.int .i64 0))
  clear h2 h3 h5 hg hown c2
  obtain ⟨L, hL⟩ : ∃ L, Hid ((l ++ [10]).length = L) := ⟨_, Lib.hid rfl⟩
  rw [hL.out] at HF ⊢
  go_wp2_with fail
  go_ret
  exact HF.out.mono HO.out

set_option maxHeartbeats 2000000 in
theorem escape_114 (g : Nat) (b : ByteArray) (k : Nat) (v : Value) (l : List Nat) (w : World) (h : Rdr w g b k v l) (hl : l.length ≤ 1000000000) (hs : b.size ≤ 1000000000) (hk : k < b.size) (hc : (bs b).getD k 0 = 114) :
    Calls Try.prog 26 #[.pointer (some ⟨g, 0, none⟩)] w (StepPost w g b (k + 1) v (l ++ [13]) (.int .i64 0)) := by
  obtain ⟨i0, hi0, hz0, hz1, hz2⟩ := info_parts u8info
  have hd := Lib.hid (next_any g b k v l w h hk hs)
  have Hl1 : Hid (l.length + 1 ≤ maxLen) := by unfold Hid maxLen; omega
  have Hl2 : Hid ((l.length + 1) * 1 ≤ 140737488355328) := by unfold Hid; omega
  have Hc := Lib.hid hc
  clear h hc hl hs hk
  go_enter Try.func26, Try.ntmps26
  go_wp2_with fail
  refine hd.out.mono ?_
  rintro e W ⟨rfl, hR, hO⟩
  rw [Hc.out]
  have c2 : W.cell? ⟨g, 2, none⟩ = some v := hR.1.cell 2
  have hown : W.ownsRow 0 5 1 v l.length (u8s l) := hR.2.1
  have HR := Lib.hid hR
  have HO := Lib.hid hO
  clear hd hR hO
  go_wp2_with (at_builtin; refine app_one rfl (.tmp 36) (.tmp 38) 37 rfl 0 5 i0 _ 1 Try.underlying37 hi0 hz0 hz1 hz2 rfl v _ _ rfl hown (.int .u8 13) 1 rfl rfl Hl1.out Hl2.out (Nat.zero_le _) ?_)
  intro v3 w3 h2 h3 h5
  have hg : Gone W 0 v (l ++ [13]) v3 w3 := Gone.grown h2 (by simp) (by simp [u8s]) h3 h5
  obtain ⟨f2, d2⟩ := rdr_cell HR.out hg
  obtain ⟨a1, c1, rfl, _, _, _, _⟩ := hg.own.nums
  have HF := Lib.hid (rdr_app HR.out hg (.int .i64 0))
  clear h2 h3 h5 hg hown c2
  obtain ⟨L, hL⟩ : ∃ L, Hid ((l ++ [13]).length = L) := ⟨_, Lib.hid rfl⟩
  rw [hL.out] at HF ⊢
  go_wp2_with fail
  go_ret
  exact HF.out.mono HO.out

set_option maxHeartbeats 2000000 in
theorem escape_116 (g : Nat) (b : ByteArray) (k : Nat) (v : Value) (l : List Nat) (w : World) (h : Rdr w g b k v l) (hl : l.length ≤ 1000000000) (hs : b.size ≤ 1000000000) (hk : k < b.size) (hc : (bs b).getD k 0 = 116) :
    Calls Try.prog 26 #[.pointer (some ⟨g, 0, none⟩)] w (StepPost w g b (k + 1) v (l ++ [9]) (.int .i64 0)) := by
  obtain ⟨i0, hi0, hz0, hz1, hz2⟩ := info_parts u8info
  have hd := Lib.hid (next_any g b k v l w h hk hs)
  have Hl1 : Hid (l.length + 1 ≤ maxLen) := by unfold Hid maxLen; omega
  have Hl2 : Hid ((l.length + 1) * 1 ≤ 140737488355328) := by unfold Hid; omega
  have Hc := Lib.hid hc
  clear h hc hl hs hk
  go_enter Try.func26, Try.ntmps26
  go_wp2_with fail
  refine hd.out.mono ?_
  rintro e W ⟨rfl, hR, hO⟩
  rw [Hc.out]
  have c2 : W.cell? ⟨g, 2, none⟩ = some v := hR.1.cell 2
  have hown : W.ownsRow 0 5 1 v l.length (u8s l) := hR.2.1
  have HR := Lib.hid hR
  have HO := Lib.hid hO
  clear hd hR hO
  go_wp2_with (at_builtin; refine app_one rfl (.tmp 36) (.tmp 38) 37 rfl 0 5 i0 _ 1 Try.underlying37 hi0 hz0 hz1 hz2 rfl v _ _ rfl hown (.int .u8 9) 1 rfl rfl Hl1.out Hl2.out (Nat.zero_le _) ?_)
  intro v3 w3 h2 h3 h5
  have hg : Gone W 0 v (l ++ [9]) v3 w3 := Gone.grown h2 (by simp) (by simp [u8s]) h3 h5
  obtain ⟨f2, d2⟩ := rdr_cell HR.out hg
  obtain ⟨a1, c1, rfl, _, _, _, _⟩ := hg.own.nums
  have HF := Lib.hid (rdr_app HR.out hg (.int .i64 0))
  clear h2 h3 h5 hg hown c2
  obtain ⟨L, hL⟩ : ∃ L, Hid ((l ++ [9]).length = L) := ⟨_, Lib.hid rfl⟩
  rw [hL.out] at HF ⊢
  go_wp2_with fail
  go_ret
  exact HF.out.mono HO.out

set_option maxHeartbeats 2000000 in
theorem escape_34 (g : Nat) (b : ByteArray) (k : Nat) (v : Value) (l : List Nat) (w : World) (h : Rdr w g b k v l) (hl : l.length ≤ 1000000000) (hs : b.size ≤ 1000000000) (hk : k < b.size) (hc : (bs b).getD k 0 = 34) :
    Calls Try.prog 26 #[.pointer (some ⟨g, 0, none⟩)] w (StepPost w g b (k + 1) v (l ++ [34]) (.int .i64 0)) := by
  obtain ⟨i0, hi0, hz0, hz1, hz2⟩ := info_parts u8info
  have hd := Lib.hid (next_any g b k v l w h hk hs)
  have Hl1 : Hid (l.length + 1 ≤ maxLen) := by unfold Hid maxLen; omega
  have Hl2 : Hid ((l.length + 1) * 1 ≤ 140737488355328) := by unfold Hid; omega
  have Hc := Lib.hid hc
  clear h hc hl hs hk
  go_enter Try.func26, Try.ntmps26
  go_wp2_with fail
  refine hd.out.mono ?_
  rintro e W ⟨rfl, hR, hO⟩
  rw [Hc.out]
  have c2 : W.cell? ⟨g, 2, none⟩ = some v := hR.1.cell 2
  have hown : W.ownsRow 0 5 1 v l.length (u8s l) := hR.2.1
  have HR := Lib.hid hR
  have HO := Lib.hid hO
  clear hd hR hO
  go_wp2_with (at_builtin; refine app_one rfl (.tmp 36) (.tmp 38) 37 rfl 0 5 i0 _ 1 Try.underlying37 hi0 hz0 hz1 hz2 rfl v _ _ rfl hown (.int .u8 34) 1 rfl rfl Hl1.out Hl2.out (Nat.zero_le _) ?_)
  intro v3 w3 h2 h3 h5
  have hg : Gone W 0 v (l ++ [34]) v3 w3 := Gone.grown h2 (by simp) (by simp [u8s]) h3 h5
  obtain ⟨f2, d2⟩ := rdr_cell HR.out hg
  obtain ⟨a1, c1, rfl, _, _, _, _⟩ := hg.own.nums
  have HF := Lib.hid (rdr_app HR.out hg (.int .i64 0))
  clear h2 h3 h5 hg hown c2
  obtain ⟨L, hL⟩ : ∃ L, Hid ((l ++ [34]).length = L) := ⟨_, Lib.hid rfl⟩
  rw [hL.out] at HF ⊢
  go_wp2_with fail
  go_ret
  exact HF.out.mono HO.out

set_option maxHeartbeats 2000000 in
theorem escape_92 (g : Nat) (b : ByteArray) (k : Nat) (v : Value) (l : List Nat) (w : World) (h : Rdr w g b k v l) (hl : l.length ≤ 1000000000) (hs : b.size ≤ 1000000000) (hk : k < b.size) (hc : (bs b).getD k 0 = 92) :
    Calls Try.prog 26 #[.pointer (some ⟨g, 0, none⟩)] w (StepPost w g b (k + 1) v (l ++ [92]) (.int .i64 0)) := by
  obtain ⟨i0, hi0, hz0, hz1, hz2⟩ := info_parts u8info
  have hd := Lib.hid (next_any g b k v l w h hk hs)
  have Hl1 : Hid (l.length + 1 ≤ maxLen) := by unfold Hid maxLen; omega
  have Hl2 : Hid ((l.length + 1) * 1 ≤ 140737488355328) := by unfold Hid; omega
  have Hc := Lib.hid hc
  clear h hc hl hs hk
  go_enter Try.func26, Try.ntmps26
  go_wp2_with fail
  refine hd.out.mono ?_
  rintro e W ⟨rfl, hR, hO⟩
  rw [Hc.out]
  have c2 : W.cell? ⟨g, 2, none⟩ = some v := hR.1.cell 2
  have hown : W.ownsRow 0 5 1 v l.length (u8s l) := hR.2.1
  have HR := Lib.hid hR
  have HO := Lib.hid hO
  clear hd hR hO
  go_wp2_with (at_builtin; refine app_one rfl (.tmp 36) (.tmp 38) 37 rfl 0 5 i0 _ 1 Try.underlying37 hi0 hz0 hz1 hz2 rfl v _ _ rfl hown (.int .u8 92) 1 rfl rfl Hl1.out Hl2.out (Nat.zero_le _) ?_)
  intro v3 w3 h2 h3 h5
  have hg : Gone W 0 v (l ++ [92]) v3 w3 := Gone.grown h2 (by simp) (by simp [u8s]) h3 h5
  obtain ⟨f2, d2⟩ := rdr_cell HR.out hg
  obtain ⟨a1, c1, rfl, _, _, _, _⟩ := hg.own.nums
  have HF := Lib.hid (rdr_app HR.out hg (.int .i64 0))
  clear h2 h3 h5 hg hown c2
  obtain ⟨L, hL⟩ : ∃ L, Hid ((l ++ [92]).length = L) := ⟨_, Lib.hid rfl⟩
  rw [hL.out] at HF ⊢
  go_wp2_with fail
  go_ret
  exact HF.out.mono HO.out

set_option maxHeartbeats 2000000 in
theorem escape_47 (g : Nat) (b : ByteArray) (k : Nat) (v : Value) (l : List Nat) (w : World) (h : Rdr w g b k v l) (hl : l.length ≤ 1000000000) (hs : b.size ≤ 1000000000) (hk : k < b.size) (hc : (bs b).getD k 0 = 47) :
    Calls Try.prog 26 #[.pointer (some ⟨g, 0, none⟩)] w (StepPost w g b (k + 1) v (l ++ [47]) (.int .i64 0)) := by
  obtain ⟨i0, hi0, hz0, hz1, hz2⟩ := info_parts u8info
  have hd := Lib.hid (next_any g b k v l w h hk hs)
  have Hl1 : Hid (l.length + 1 ≤ maxLen) := by unfold Hid maxLen; omega
  have Hl2 : Hid ((l.length + 1) * 1 ≤ 140737488355328) := by unfold Hid; omega
  have Hc := Lib.hid hc
  clear h hc hl hs hk
  go_enter Try.func26, Try.ntmps26
  go_wp2_with fail
  refine hd.out.mono ?_
  rintro e W ⟨rfl, hR, hO⟩
  rw [Hc.out]
  have c2 : W.cell? ⟨g, 2, none⟩ = some v := hR.1.cell 2
  have hown : W.ownsRow 0 5 1 v l.length (u8s l) := hR.2.1
  have HR := Lib.hid hR
  have HO := Lib.hid hO
  clear hd hR hO
  go_wp2_with (at_builtin; refine app_one rfl (.tmp 36) (.tmp 38) 37 rfl 0 5 i0 _ 1 Try.underlying37 hi0 hz0 hz1 hz2 rfl v _ _ rfl hown (.int .u8 47) 1 rfl rfl Hl1.out Hl2.out (Nat.zero_le _) ?_)
  intro v3 w3 h2 h3 h5
  have hg : Gone W 0 v (l ++ [47]) v3 w3 := Gone.grown h2 (by simp) (by simp [u8s]) h3 h5
  obtain ⟨f2, d2⟩ := rdr_cell HR.out hg
  obtain ⟨a1, c1, rfl, _, _, _, _⟩ := hg.own.nums
  have HF := Lib.hid (rdr_app HR.out hg (.int .i64 0))
  clear h2 h3 h5 hg hown c2
  obtain ⟨L, hL⟩ : ∃ L, Hid ((l ++ [47]).length = L) := ⟨_, Lib.hid rfl⟩
  rw [hL.out] at HF ⊢
  go_wp2_with fail
  go_ret
  exact HF.out.mono HO.out

set_option maxHeartbeats 2000000 in
theorem step_back (g : Nat) (b : ByteArray) (k k' : Nat) (v : Value) (l m : List Nat) (w : World) (h : Rdr w g b k v l) (hs : b.size ≤ 1000000000) (hk : k < b.size) (hc : (bs b).getD k 0 = 92)
    (he : ∀ W, Rdr W g b (k + 1) v l → Calls Try.prog 26 #[.pointer (some ⟨g, 0, none⟩)] W (StepPost W g b k' v m (.int .i64 0))) :
    Calls Try.prog 19 #[.pointer (some ⟨g, 0, none⟩)] w (StepPost w g b k' v m (.tuple #[.bool false, .int .i64 0])) := by
  have hd := Lib.hid (next_any g b k v l w h hk hs)
  have Hc := Lib.hid hc
  have He := Lib.hid he
  clear h hc hs hk he
  go_enter Try.func19, Try.ntmps19
  go_wp2_with fail
  refine hd.out.mono ?_
  rintro e W ⟨rfl, hR, hO⟩
  rw [Hc.out]
  have hp := Lib.hid (He.out W hR)
  have HO := Lib.hid hO
  clear hd hR hO He
  go_wp2_with fail
  refine hp.out.mono ?_
  rintro e X hG
  have e0 := hG.1
  subst e0
  have HG := Lib.hid hG
  clear hp hG
  go_wp2_with fail
  go_ret2
  exact HG.out.mono HO.out

set_option maxHeartbeats 2000000 in
theorem step_stop (g : Nat) (b : ByteArray) (k : Nat) (v : Value) (l : List Nat) (w : World) (h : Rdr w g b k v l) (hs : b.size ≤ 1000000000) (hk : k < b.size) (hc : (bs b).getD k 0 = 34) :
    Calls Try.prog 19 #[.pointer (some ⟨g, 0, none⟩)] w (StepPost w g b (k + 1) v l (.tuple #[.bool true, .int .i64 0])) := by
  have hd := Lib.hid (next_any g b k v l w h hk hs)
  have Hc := Lib.hid hc
  clear h hc hs hk
  go_enter Try.func19, Try.ntmps19
  go_wp2_with fail
  refine hd.out.mono ?_
  rintro e W ⟨rfl, hR, hO⟩
  rw [Hc.out]
  have HR := Lib.hid hR
  have HO := Lib.hid hO
  clear hd hR hO
  go_wp2_with fail
  go_ret2
  exact ⟨rfl, v, HR.out, HO.out.mono (fun b _ e => .inl e), .inl rfl⟩

set_option maxHeartbeats 2000000 in
theorem rune_small (base : Nat) (v : Value) (l : List Nat) (c : Nat) (w : World) (hc : c < 32) (h : Own8 w base v l) (hl : l.length ≤ 1000000000000) (hB : base ≤ w.heap.size) :
    Calls Try.prog 31 #[v, .int .i32 (c : Int)] w (AddPost w base v (l ++ [c])) := by
  obtain ⟨i0, hi0, hz0, hz1, hz2⟩ := info_parts u8info
  have Hl1 : Hid (l.length + 1 ≤ maxLen) := by unfold Hid maxLen; omega
  have Hl2 : Hid ((l.length + 1) * 1 ≤ 140737488355328) := by unfold Hid; omega
  have hown : w.ownsRow base 5 1 v l.length (u8s l) := h
  have q1 : (c : Int) % 4294967296 = (c : Int) := by omega
  have q2 : (c : Int) % 256 = (c : Int) := by omega
  have q3 : decide ((c : Int) ≤ 127) = true := decide_eq_true (by omega)
  have q4 : (c : Int) ≤ 127 := by omega
  have q5 : IntKind.u8.wrap (c : Int) = (c : Int) := IntWalk.u8_in _ ⟨by omega, by omega⟩
  have q6 : IntKind.u32.wrap (c : Int) = (c : Int) := IntWalk.u32_in _ ⟨by omega, by omega⟩
  have H := Lib.hid h
  clear hl h hc
  go_enter Try.func31, Try.ntmps31
  go_wp2_with (at_builtin; refine app_one rfl (.tmp 8) (.tmp 11) 37 rfl base 5 i0 _ 1 Try.underlying37 hi0 hz0 hz1 hz2 rfl v _ _ rfl hown (.int .u8 (c : Int)) 1 rfl rfl Hl1.out Hl2.out hB ?_)
  intro v3 w3 h2 h3 h5
  have hg : Gone w base v (l ++ [c]) v3 w3 := Gone.grown h2 (by simp) (by simp [u8s]) h3 h5
  have HG := Lib.hid hg
  clear h2 h3 h5 hg hown
  go_wp2_with fail
  go_ret
  exact ⟨_, rfl, HG.out⟩
end Go.Proofs.Ytdaipnlgloafdaa
