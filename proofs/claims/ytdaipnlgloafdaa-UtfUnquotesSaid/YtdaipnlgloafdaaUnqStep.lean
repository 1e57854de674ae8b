/- Walks over layer 15: step where a quoted byte lies. -/
import Derived.Test.YtdaipnlgloafdaaUtfLive
import Derived.Test.YtdaipnlgloafdaaQuoMath
namespace Go.Proofs.Ytdaipnlgloafdaa
open Go.RowKit Utf
set_option linter.unusedVariables false
set_option maxRecDepth 100000

def StepPost (w : World) (g : Nat) (b : ByteArray) (k : Nat) (v : Value) (l : List Nat) (r : Value) (e : Ending) (w' : World) : Prop :=
  e = .returned r ∧ ∃ v', Rdr w' g b k v' l ∧ Only (touch g v) w w' ∧ (v'.ownBlock = v.ownBlock ∨ ∃ x, v'.ownBlock = some x ∧ w.heap.size ≤ x)
theorem StepPost.mono {w : World} {g k : Nat} {b : ByteArray} {v : Value} {l : List Nat} {r r' : Value} {X : World} {e : Ending} {W : World} (h : StepPost X g b k v l r e W) (hO : Only (fun k => k = g) w X) : StepPost w g b k v l r' (.returned r') W := by
  obtain ⟨rfl, v', h1, h2, h3⟩ := h
  refine ⟨rfl, v', h1, (hO.mono (fun b _ e => .inl e)).trans h2 (fun b _ e => e), ?_⟩
  rcases h3 with e | ⟨b, e, hb⟩
  · exact .inl e
  · exact .inr ⟨b, e, Nat.le_trans hO.size hb⟩

/-- The reader's row is appended to, and stored. -/
theorem rdr_app {W X : World} {g : Nat} {b : ByteArray} {k : Nat} {v : Value} {l m : List Nat} {a1 : Option Addr} {L c1 : Nat} (HR : Rdr W g b k v l) (hG : Gone W 0 v m (.slice a1 L c1) X) (r : Value) :
    StepPost W g b k v m r (.returned r) (X.setCell ⟨g, 2, none⟩ (.slice a1 L c1)) := by
  have hv1 : (Value.slice a1 L c1).ownBlock ≠ some g := by
    rcases hG.at_ with e | ⟨k, e, hk⟩
    · rw [e]; exact HR.2.2
    · rw [e]; intro e'; injection e' with e'; have := HR.1.lt; omega
  have hW1 : Whole X g 41 #[.string b, .int .i64 (k : Int), v] := HR.1.only hG.only (fun e => HR.2.2 e)
  have hW2 := hW1.set 2 (.slice a1 L c1)
  refine ⟨rfl, .slice a1 L c1, ⟨by simpa using hW2, ?_, hv1⟩, ?_, hG.at_⟩
  · exact hG.own.only (Only.setCell (S := fun k => k = g) (Only.refl _ _) (fun _ => rfl) _) (fun b hb e => hv1 (by rw [hb, e]))
  · exact (hG.only.mono (fun b _ e => .inr e)).setCell (fun _ => .inl rfl) _

theorem rdr_cell {W X : World} {g : Nat} {b : ByteArray} {k : Nat} {v v1 : Value} {l m : List Nat} (HR : Rdr W g b k v l) (hG : Gone W 0 v m v1 X) : X.frozen? ⟨g, 2, none⟩ = false ∧ X.cell? ⟨g, 2, none⟩ = some v := by
  have hW1 : Whole X g 41 #[.string b, .int .i64 (k : Int), v] := HR.1.only hG.only (fun e => HR.2.2 e)
  exact ⟨hW1.frozen 2, hW1.cell 2⟩

set_option maxHeartbeats 2000000 in
theorem step_plain (g : Nat) (b : ByteArray) (k c : Nat) (v : Value) (l : List Nat) (w : World) (h : Rdr w g b k v l) (hl : l.length ≤ 1000000000) (hs : b.size ≤ 1000000000) (hk : k < b.size) (hc : (bs b).getD k 0 = c) (hp : 32 ≤ c ∧ c ≠ 34 ∧ c ≠ 92) :
    Calls Try.prog 19 #[.pointer (some ⟨g, 0, none⟩)] w (StepPost w g b (k + 1) v (l ++ [c]) (.tuple #[.bool false, .int .i64 0])) := by
  obtain ⟨i0, hi0, hz0, hz1, hz2⟩ := info_parts u8info
  have hd := Lib.hid (next_any g b k v l w h hk hs)
  have Hl1 : Hid (l.length + 1 ≤ maxLen) := by unfold Hid maxLen; omega
  have Hl2 : Hid ((l.length + 1) * 1 ≤ 140737488355328) := by unfold Hid; omega
  have q34 : ((c : Int) == 34) = false := beq_eq_false_iff_ne.mpr (by omega)
  have q92 : ((c : Int) == 92) = false := beq_eq_false_iff_ne.mpr (by omega)
  have q32 : decide ((c : Int) < 32) = false := decide_eq_false (by omega)
  have Hc := Lib.hid hc
  clear h hc hl hs hk hp
  go_enter Try.func19, Try.ntmps19
  go_wp2_with fail
  refine hd.out.mono ?_
  rintro e W ⟨rfl, hR, hO⟩
  rw [Hc.out]
  have c2 : W.cell? ⟨g, 2, none⟩ = some v := hR.1.cell 2
  have hown : W.ownsRow 0 5 1 v l.length (u8s l) := hR.2.1
  have HR := Lib.hid hR
  have HO := Lib.hid hO
  clear hd hR hO
  go_wp2_with (at_builtin; refine app_one rfl (.tmp 30) (.tmp 32) 37 rfl 0 5 i0 _ 1 Try.underlying37 hi0 hz0 hz1 hz2 rfl v _ _ rfl hown (.int .u8 (c : Int)) 1 rfl rfl Hl1.out Hl2.out (Nat.zero_le _) ?_)
  intro v3 w3 h2 h3 h5
  have hg : Gone W 0 v (l ++ [c]) v3 w3 := Gone.grown h2 (by simp) (by simp [u8s]) h3 h5
  obtain ⟨f2, d2⟩ := rdr_cell HR.out hg
  obtain ⟨a1, c1, rfl, _, _, _, _⟩ := hg.own.nums
  have HF := Lib.hid (rdr_app HR.out hg (.tuple #[.bool false, .int .i64 0]))
  clear h2 h3 h5 hg hown c2
  obtain ⟨L, hL⟩ : ∃ L, Hid ((l ++ [c]).length = L) := ⟨_, Lib.hid rfl⟩
  rw [hL.out] at HF ⊢
  go_wp2_with fail
  go_ret2
  exact HF.out.mono HO.out
end Go.Proofs.Ytdaipnlgloafdaa
