/- Walks over layer 15: step, whatever stands there. -/
import Derived.Test.YtdaipnlgloafdaaUnqEscape
namespace Go.Proofs.Ytdaipnlgloafdaa
open Go.RowKit Utf
set_option linter.unusedVariables false
set_option maxRecDepth 100000

/-- Is it the end; the bytes, the place behind them, the error: one step. -/
def stpE (l : List Nat) (k : Nat) : Bool × List Nat × Nat × Int :=
  if k < l.length then
    (if l.getD k 0 = 34 then (true, [], k + 1, 0) else if l.getD k 0 = 92 then (false, escE l (k + 1)) else if l.getD k 0 < 32 then (false, [], 0, 3) else (false, [l.getD k 0], k + 1, 0))
  else (false, [], 0, 2)
def TurnPost (w : World) (g : Nat) (b : ByteArray) (v : Value) (k : Nat) (m : List Nat) (t : Bool) (r : Int) (e : Ending) (w' : World) : Prop :=
  e = .returned (.tuple #[.bool t, .int .i64 r]) ∧ Only (touch g v) w w' ∧ (r = 0 → ∃ v', Rdr w' g b k v' m ∧ (v'.ownBlock = v.ownBlock ∨ ∃ x, v'.ownBlock = some x ∧ w.heap.size ≤ x))
theorem StepPost.turn {w : World} {g k : Nat} {b : ByteArray} {v : Value} {m : List Nat} {t : Bool} {e : Ending} {W : World} (h : StepPost w g b k v m (.tuple #[.bool t, .int .i64 0]) e W) : TurnPost w g b v k m t 0 e W := by
  obtain ⟨h0, v', h1, h2, h3⟩ := h
  exact ⟨h0, h2, fun _ => ⟨v', h1, h3⟩⟩

set_option maxHeartbeats 2000000 in
theorem turn_end (g : Nat) (b : ByteArray) (v : Value) (l m : List Nat) (k' : Nat) (w : World) (h : Rdr w g b b.size v l) :
    Calls Try.prog 19 #[.pointer (some ⟨g, 0, none⟩)] w (TurnPost w g b v k' m false 2) := by
  have hd := Lib.hid (next_end g b v l w h)
  clear h
  go_enter Try.func19, Try.ntmps19
  go_wp2_with fail
  refine hd.out.mono ?_
  rintro e W ⟨rfl, hR, hO⟩
  have HO := Lib.hid hO
  clear hd hR hO
  go_wp2_with fail
  go_ret2
  exact ⟨rfl, HO.out.mono (fun b _ e => .inl e), fun h => by cases h⟩

set_option maxHeartbeats 2000000 in
theorem turn_low (g : Nat) (b : ByteArray) (k c : Nat) (v : Value) (l m : List Nat) (k' : Nat) (w : World) (h : Rdr w g b k v l) (hs : b.size ≤ 1000000000) (hk : k < b.size) (hc : (bs b).getD k 0 = c) (hx : c < 32) :
    Calls Try.prog 19 #[.pointer (some ⟨g, 0, none⟩)] w (TurnPost w g b v k' m false 3) := by
  have hd := Lib.hid (next_any g b k v l w h hk hs)
  have Hc := Lib.hid hc
  have q1 : ((c : Int) == 34) = false := beq_eq_false_iff_ne.mpr (by omega)
  have q2 : ((c : Int) == 92) = false := beq_eq_false_iff_ne.mpr (by omega)
  have q3 : decide ((c : Int) < 32) = true := decide_eq_true (by omega)
  clear h hs hk hc hx
  go_enter Try.func19, Try.ntmps19
  go_wp2_with fail
  refine hd.out.mono ?_
  rintro e W ⟨rfl, hR, hO⟩
  have HO := Lib.hid hO
  clear hd hR hO
  rw [Hc.out]
  go_wp2_with fail
  go_ret2
  exact ⟨rfl, HO.out.mono (fun b _ e => .inl e), fun h => by cases h⟩

set_option maxHeartbeats 2000000 in
theorem turn_back (g : Nat) (b : ByteArray) (k : Nat) (v : Value) (l : List Nat) (w : World) (h : Rdr w g b k v l) (hl : l.length ≤ 1000000000) (hs : b.size ≤ 1000000000) (hk : k < b.size) (hc : (bs b).getD k 0 = 92) :
    Calls Try.prog 19 #[.pointer (some ⟨g, 0, none⟩)] w (TurnPost w g b v (escE (bs b) (k + 1)).2.1 (l ++ (escE (bs b) (k + 1)).1) false (escE (bs b) (k + 1)).2.2) := by
  have hd := Lib.hid (next_any g b k v l w h hk hs)
  have He := Lib.hid fun (W : World) (hR : Rdr W g b (k + 1) v l) => escape_gen g b (k + 1) v l W hR hl hs hk
  have Hc := Lib.hid hc
  clear h hc hs hk hl
  generalize escE (bs b) (k + 1) = P at *
  go_enter Try.func19, Try.ntmps19
  go_wp2_with fail
  refine hd.out.mono ?_
  rintro e W ⟨rfl, hR, hO⟩
  rw [Hc.out]
  have hp := Lib.hid (He.out W hR)
  have HO := Lib.hid hO
  clear hd hR hO He
  go_wp2_with fail
  refine hp.out.mono ?_
  rintro e X hG
  have e0 := hG.1
  subst e0
  have HG := Lib.hid hG
  clear hp hG
  go_wp2_with fail
  go_ret2
  have hM := HG.out.mono HO.out
  exact ⟨rfl, hM.2.1, hM.2.2⟩

theorem turn_gen (g : Nat) (b : ByteArray) (k : Nat) (v : Value) (l : List Nat) (w : World) (h : Rdr w g b k v l) (hl : l.length ≤ 1000000000) (hs : b.size ≤ 1000000000) (hk : k ≤ b.size) :
    Calls Try.prog 19 #[.pointer (some ⟨g, 0, none⟩)] w (TurnPost w g b v (stpE (bs b) k).2.2.1 (l ++ (stpE (bs b) k).2.1) (stpE (bs b) k).1 (stpE (bs b) k).2.2.2) := by
  have hlen := bs_length b
  unfold stpE
  by_cases a1 : k < b.size
  · rw [if_pos (by omega)]
    obtain ⟨c, hc⟩ : ∃ c, (bs b).getD k 0 = c := ⟨_, rfl⟩
    rw [hc]
    by_cases a2 : c = 34
    · rw [if_pos a2]
      subst a2
      show Calls _ _ _ _ (TurnPost w g b v (k + 1) (l ++ []) true 0)
      rw [List.append_nil]
      exact (step_stop g b k v l w h hs a1 hc).mono fun _ _ h => h.turn
    · rw [if_neg a2]
      by_cases a3 : c = 92
      · rw [if_pos a3]
        subst a3
        exact turn_back g b k v l w h hl hs a1 hc
      · rw [if_neg a3]
        by_cases a4 : c < 32
        · rw [if_pos a4]
          exact turn_low g b k c v l _ _ w h hs a1 hc a4
        · rw [if_neg a4]
          exact (step_plain g b k c v l w h hl hs a1 hc ⟨by omega, a2, a3⟩).mono fun _ _ h => h.turn
  · rw [if_neg (by omega)]
    have hk1 : k = b.size := by omega
    subst hk1
    exact turn_end g b v l _ _ w h
end Go.Proofs.Ytdaipnlgloafdaa
