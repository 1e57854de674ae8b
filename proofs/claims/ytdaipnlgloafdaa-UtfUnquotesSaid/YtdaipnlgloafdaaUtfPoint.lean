/- Walks over layer 15: point, escape, step where the live text lies. -/
import Derived.Test.YtdaipnlgloafdaaUtfRead
import Derived.Test.YtdaipnlgloafdaaUtfAppend
namespace Go.Proofs.Ytdaipnlgloafdaa
open Go.RowKit Utf
set_option linter.unusedVariables false
set_option maxRecDepth 100000

/-- The live text. -/
def liveS : ByteArray := ⟨#[34, 92, 117, 48, 48, 101, 57, 34]⟩
theorem live_bs : bs liveS = [34, 92, 117, 48, 48, 101, 57, 34] := by rfl
theorem live_vn : vn (bs liveS) 3 4 = 233 := by rfl

/-- What a call on the reader may turn. -/
def touch (g : Nat) (v : Value) : Nat → Prop := fun k => k = g ∨ v.ownBlock = some k
def GoPost (w : World) (g : Nat) (k : Nat) (v : Value) (l : List Nat) (r : Value) (e : Ending) (w' : World) : Prop :=
  e = .returned r ∧ ∃ v', Rdr w' g liveS k v' l ∧ Only (touch g v) w w' ∧ (v'.ownBlock = v.ownBlock ∨ ∃ b, v'.ownBlock = some b ∧ w.heap.size ≤ b)

set_option maxHeartbeats 1000000 in
theorem point_live (g : Nat) (v : Value) (l : List Nat) (w : World) (h : Rdr w g liveS 3 v l) (hl : l.length ≤ 1000) :
    Calls Try.prog 28 #[.pointer (some ⟨g, 0, none⟩)] w (GoPost w g 7 v (l ++ [195, 169]) (.int .i64 0)) := by
  have hd := Lib.hid (digits_any g liveS 3 v l w h (by decide) (by decide) (by rw [live_bs]; decide))
  have H := Lib.hid h
  clear h
  go_enter Try.func28, Try.ntmps28
  go_wp2_with fail
  refine hd.out.mono ?_
  rintro e W ⟨rfl, hR, hO⟩
  rw [live_vn]
  have c2 : W.cell? ⟨g, 2, none⟩ = some v := hR.1.cell 2
  have hr := Lib.hid (rune_any 0 v l W hR.2.1 (by omega) (Nat.zero_le _))
  have HR := Lib.hid hR
  have HO := Lib.hid hO
  clear hR hO hd hl
  go_wp2_with fail
  refine hr.out.mono ?_
  rintro e X ⟨v1, rfl, hG⟩
  have hv1 : v1.ownBlock ≠ some g := by
    rcases hG.at_ with e | ⟨k, e, hk⟩
    · rw [e]; exact HR.out.2.2
    · rw [e]; intro e'; injection e' with e'; have := HR.out.1.lt; omega
  obtain ⟨a1, c1, rfl, _, _, _, _⟩ := hG.own.nums
  have hgl := HR.out.1.lt
  have hW1 : Whole X g 41 #[.string liveS, .int .i64 ((3 + 4 : Nat) : Int), v] := HR.out.1.only hG.only (fun e => HR.out.2.2 e)
  have d2 : X.cell? ⟨g, 2, none⟩ = some v := hW1.cell 2
  have f2 := hW1.frozen 2
  have HG := Lib.hid hG
  have HW1 := Lib.hid hW1
  have Hv := Lib.hid hv1
  clear hG hW1 hr c2 hv1
  obtain ⟨L, hL⟩ : ∃ L, Hid ((l ++ [195, 169]).length = L) := ⟨_, Lib.hid rfl⟩
  rw [hL.out] at HG Hv ⊢
  go_wp2_with fail
  go_ret
  have hW2 := HW1.out.set 2 (.slice a1 L c1)
  refine ⟨rfl, .slice a1 L c1, ⟨by simpa using hW2, ?_, Hv.out⟩, ?_, ?_⟩
  · exact HG.out.own.only (Only.setCell (S := fun k => k = g) (Only.refl _ _) (fun _ => rfl) _) (fun b hb e => Hv.out (by rw [hb, e]))
  · exact ((HO.out.mono (fun b _ e => .inl e)).trans HG.out.only (fun b _ e => .inr e)).setCell (fun _ => .inl rfl) _
  · rcases HG.out.at_ with e | ⟨k, e, hk⟩
    · exact .inl e
    · exact .inr ⟨k, e, Nat.le_trans HO.out.size hk⟩

theorem GoPost.mono {w : World} {g k : Nat} {v : Value} {l : List Nat} {r r' : Value} {X : World} {e : Ending} {W : World} (h : GoPost X g k v l r e W) (hO : Only (fun k => k = g) w X) (he : e = .returned r → r' = r) : GoPost w g k v l r' (.returned r') W := by
  obtain ⟨rfl, v', h1, h2, h3⟩ := h
  refine ⟨by rw [he rfl], v', h1, (hO.mono (fun b _ e => .inl e)).trans h2 (fun b _ e => e), ?_⟩
  rcases h3 with e | ⟨b, e, hb⟩
  · exact .inl e
  · exact .inr ⟨b, e, Nat.le_trans hO.size hb⟩

set_option maxHeartbeats 1000000 in
theorem escape_live (g : Nat) (v : Value) (l : List Nat) (w : World) (h : Rdr w g liveS 2 v l) (hl : l.length ≤ 1000) :
    Calls Try.prog 26 #[.pointer (some ⟨g, 0, none⟩)] w (GoPost w g 7 v (l ++ [195, 169]) (.int .i64 0)) := by
  have hd := Lib.hid (next_any g liveS 2 v l w h (by decide) (by decide))
  clear h
  go_enter Try.func26, Try.ntmps26
  go_wp2_with fail
  refine hd.out.mono ?_
  rintro e W ⟨rfl, hR, hO⟩
  rw [show (bs liveS).getD 2 0 = 117 by rfl]
  have hp := Lib.hid (point_live g v l W hR hl)
  have HO := Lib.hid hO
  clear hd hR hO hl
  go_wp2_with fail
  refine hp.out.mono ?_
  rintro e X hG
  have e0 := hG.1
  subst e0
  have HG := Lib.hid hG
  clear hp hG
  go_wp2_with fail
  go_ret
  exact HG.out.mono HO.out (fun _ => rfl)

set_option maxHeartbeats 1000000 in
theorem step_live (g : Nat) (v : Value) (l : List Nat) (w : World) (h : Rdr w g liveS 1 v l) (hl : l.length ≤ 1000) :
    Calls Try.prog 19 #[.pointer (some ⟨g, 0, none⟩)] w (GoPost w g 7 v (l ++ [195, 169]) (.tuple #[.bool false, .int .i64 0])) := by
  have hd := Lib.hid (next_any g liveS 1 v l w h (by decide) (by decide))
  clear h
  go_enter Try.func19, Try.ntmps19
  go_wp2_with fail
  refine hd.out.mono ?_
  rintro e W ⟨rfl, hR, hO⟩
  rw [show (bs liveS).getD 1 0 = 92 by rfl]
  have hp := Lib.hid (escape_live g v l W hR hl)
  have HO := Lib.hid hO
  clear hd hR hO hl
  go_wp2_with fail
  refine hp.out.mono ?_
  rintro e X hG
  have e0 := hG.1
  subst e0
  have HG := Lib.hid hG
  clear hp hG
  go_wp2_with fail
  go_ret2
  obtain ⟨_, v', h1, h2, h3⟩ := HG.out.mono HO.out (fun _ => rfl)
  exact ⟨rfl, v', h1, h2, h3⟩

set_option maxHeartbeats 1000000 in
theorem step_end (g : Nat) (v : Value) (l : List Nat) (w : World) (h : Rdr w g liveS 7 v l) :
    Calls Try.prog 19 #[.pointer (some ⟨g, 0, none⟩)] w (GoPost w g 8 v l (.tuple #[.bool true, .int .i64 0])) := by
  have hd := Lib.hid (next_any g liveS 7 v l w h (by decide) (by decide))
  clear h
  go_enter Try.func19, Try.ntmps19
  go_wp2_with fail
  refine hd.out.mono ?_
  rintro e W ⟨rfl, hR, hO⟩
  rw [show (bs liveS).getD 7 0 = 34 by rfl]
  have HR := Lib.hid hR
  have HO := Lib.hid hO
  clear hd hR hO
  go_wp2_with fail
  go_ret2
  exact ⟨rfl, v, HR.out, HO.out.mono (fun b _ e => .inl e), .inl rfl⟩
end Go.Proofs.Ytdaipnlgloafdaa
