/- Walks over layer 15: escape, whatever stands there. -/
import Derived.Test.YtdaipnlgloafdaaUnqPoint
namespace Go.Proofs.Ytdaipnlgloafdaa
open Go.RowKit Utf
set_option linter.unusedVariables false
set_option maxRecDepth 100000

/-- What a letter behind a backslash stands for; 256: nothing. -/
def chrE (c : Nat) : Nat := if c = 98 then 8 else if c = 102 then 12 else if c = 110 then 10 else if c = 114 then 13 else if c = 116 then 9 else if c = 34 ∨ c = 92 ∨ c = 47 then c else 256
/-- The bytes, the place behind them, the error: behind a backslash. -/
def escE (l : List Nat) (k : Nat) : List Nat × Nat × Int :=
  if k < l.length then
    (if l.getD k 0 = 117 then (runeB (pointE l (k + 1)).1.toNat, (pointE l (k + 1)).2.1, (pointE l (k + 1)).2.2)
     else if chrE (l.getD k 0) < 256 then ([chrE (l.getD k 0)], k + 1, 0) else ([], 0, 3))
  else ([], 0, 2)
theorem DecPost.mono {w : World} {g k : Nat} {b : ByteArray} {v : Value} {m : List Nat} {r : Int} {X : World} {e : Ending} {W : World} (h : DecPost X g b v k m r e W) (hO : Only (fun k => k = g) w X) : DecPost w g b v k m r (.returned (.int .i64 r)) W := by
  obtain ⟨h0, h2, h3⟩ := h
  refine ⟨rfl, (hO.mono (fun b _ e => .inl e)).trans h2 (fun b _ e => e), fun hr => ?_⟩
  obtain ⟨v', h1, h4⟩ := h3 hr
  refine ⟨v', h1, ?_⟩
  rcases h4 with e | ⟨b, e, hb⟩
  · exact .inl e
  · exact .inr ⟨b, e, Nat.le_trans hO.size hb⟩

set_option maxHeartbeats 2000000 in
theorem escape_end (g : Nat) (b : ByteArray) (v : Value) (l m : List Nat) (k' : Nat) (w : World) (h : Rdr w g b b.size v l) :
    Calls Try.prog 26 #[.pointer (some ⟨g, 0, none⟩)] w (DecPost w g b v k' m 2) := by
  have hd := Lib.hid (next_end g b v l w h)
  clear h
  go_enter Try.func26, Try.ntmps26
  go_wp2_with fail
  refine hd.out.mono ?_
  rintro e W ⟨rfl, hR, hO⟩
  have HO := Lib.hid hO
  clear hd hR hO
  go_wp2_with fail
  go_ret
  exact ⟨rfl, HO.out.mono (fun b _ e => .inl e), fun h => by cases h⟩

set_option maxHeartbeats 2000000 in
theorem escape_bad (g : Nat) (b : ByteArray) (k c : Nat) (v : Value) (l m : List Nat) (k' : Nat) (w : World) (h : Rdr w g b k v l) (hs : b.size ≤ 1000000000) (hk : k < b.size) (hc : (bs b).getD k 0 = c)
    (hx : c ≠ 117 ∧ c ≠ 98 ∧ c ≠ 102 ∧ c ≠ 110 ∧ c ≠ 114 ∧ c ≠ 116 ∧ c ≠ 34 ∧ c ≠ 92 ∧ c ≠ 47) :
    Calls Try.prog 26 #[.pointer (some ⟨g, 0, none⟩)] w (DecPost w g b v k' m 3) := by
  have hd := Lib.hid (next_any g b k v l w h hk hs)
  have Hc := Lib.hid hc
  have q1 : ((c : Int) == 117) = false := beq_eq_false_iff_ne.mpr (by omega)
  have q2 : ((c : Int) == 98) = false := beq_eq_false_iff_ne.mpr (by omega)
  have q3 : ((c : Int) == 102) = false := beq_eq_false_iff_ne.mpr (by omega)
  have q4 : ((c : Int) == 110) = false := beq_eq_false_iff_ne.mpr (by omega)
  have q5 : ((c : Int) == 114) = false := beq_eq_false_iff_ne.mpr (by omega)
  have q6 : ((c : Int) == 116) = false := beq_eq_false_iff_ne.mpr (by omega)
  have q7 : ((c : Int) == 34) = false := beq_eq_false_iff_ne.mpr (by omega)
  have q8 : ((c : Int) == 92) = false := beq_eq_false_iff_ne.mpr (by omega)
  have q9 : ((c : Int) == 47) = false := beq_eq_false_iff_ne.mpr (by omega)
  clear h hs hk hc hx
  go_enter Try.func26, Try.ntmps26
  go_wp2_with fail
  refine hd.out.mono ?_
  rintro e W ⟨rfl, hR, hO⟩
  have HO := Lib.hid hO
  clear hd hR hO
  rw [Hc.out]
  go_wp2_with fail
  go_ret
  exact ⟨rfl, HO.out.mono (fun b _ e => .inl e), fun h => by cases h⟩

set_option maxHeartbeats 2000000 in
theorem escape_point (g : Nat) (b : ByteArray) (k : Nat) (v : Value) (l : List Nat) (w : World) (h : Rdr w g b k v l) (hl : l.length ≤ 1000000000) (hs : b.size ≤ 1000000000) (hk : k < b.size) (hc : (bs b).getD k 0 = 117) :
    Calls Try.prog 26 #[.pointer (some ⟨g, 0, none⟩)] w (DecPost w g b v (pointE (bs b) (k + 1)).2.1 (l ++ runeB (pointE (bs b) (k + 1)).1.toNat) (pointE (bs b) (k + 1)).2.2) := by
  have hd := Lib.hid (next_any g b k v l w h hk hs)
  have He := Lib.hid fun (W : World) (hR : Rdr W g b (k + 1) v l) => point_gen g b (k + 1) v l W hR hl hk hs
  have Hc := Lib.hid hc
  clear h hc hs hk hl
  generalize pointE (bs b) (k + 1) = P at *
  go_enter Try.func26, Try.ntmps26
  go_wp2_with fail
  refine hd.out.mono ?_
  rintro e W ⟨rfl, hR, hO⟩
  rw [Hc.out]
  have hp := Lib.hid (He.out W hR)
  have HO := Lib.hid hO
  clear hd hR hO He
  go_wp2_with fail
  refine hp.out.mono ?_
  rintro e X hG
  have e0 := hG.1
  subst e0
  have HG := Lib.hid hG
  clear hp hG
  go_wp2_with fail
  go_ret
  exact HG.out.mono HO.out

theorem chrE_bad (c : Nat) (h : c ≠ 117 ∧ c ≠ 98 ∧ c ≠ 102 ∧ c ≠ 110 ∧ c ≠ 114 ∧ c ≠ 116 ∧ c ≠ 34 ∧ c ≠ 92 ∧ c ≠ 47) : ¬ chrE c < 256 := by
  obtain ⟨_, h1, h2, h3, h4, h5, h6, h7, h8⟩ := h
  unfold chrE
  rw [if_neg h1, if_neg h2, if_neg h3, if_neg h4, if_neg h5, if_neg (by omega)]
  omega

theorem escape_gen (g : Nat) (b : ByteArray) (k : Nat) (v : Value) (l : List Nat) (w : World) (h : Rdr w g b k v l) (hl : l.length ≤ 1000000000) (hs : b.size ≤ 1000000000) (hk : k ≤ b.size) :
    Calls Try.prog 26 #[.pointer (some ⟨g, 0, none⟩)] w (DecPost w g b v (escE (bs b) k).2.1 (l ++ (escE (bs b) k).1) (escE (bs b) k).2.2) := by
  have hlen := bs_length b
  unfold escE
  by_cases a1 : k < b.size
  · rw [if_pos (by omega)]
    by_cases a2 : (bs b).getD k 0 = 117
    · rw [if_pos a2]
      exact escape_point g b k v l w h hl hs a1 a2
    · rw [if_neg a2]
      obtain ⟨c, hc⟩ : ∃ c, (bs b).getD k 0 = c := ⟨_, rfl⟩
      rw [hc] at a2 ⊢
      rcases (show c = 98 ∨ c = 102 ∨ c = 110 ∨ c = 114 ∨ c = 116 ∨ c = 34 ∨ c = 92 ∨ c = 47 ∨ (c ≠ 117 ∧ c ≠ 98 ∧ c ≠ 102 ∧ c ≠ 110 ∧ c ≠ 114 ∧ c ≠ 116 ∧ c ≠ 34 ∧ c ≠ 92 ∧ c ≠ 47) by omega) with rfl | rfl | rfl | rfl | rfl | rfl | rfl | rfl | h1
      · exact (escape_98 g b k v l w h hl hs a1 hc).mono fun _ _ h => h.dec
      · exact (escape_102 g b k v l w h hl hs a1 hc).mono fun _ _ h => h.dec
      · exact (escape_110 g b k v l w h hl hs a1 hc).mono fun _ _ h => h.dec
      · exact (escape_114 g b k v l w h hl hs a1 hc).mono fun _ _ h => h.dec
      · exact (escape_116 g b k v l w h hl hs a1 hc).mono fun _ _ h => h.dec
      · exact (escape_34 g b k v l w h hl hs a1 hc).mono fun _ _ h => h.dec
      · exact (escape_92 g b k v l w h hl hs a1 hc).mono fun _ _ h => h.dec
      · exact (escape_47 g b k v l w h hl hs a1 hc).mono fun _ _ h => h.dec
      · rw [if_neg (show ¬ chrE c < 256 from chrE_bad c h1)]
        exact escape_bad g b k c v l _ _ w h hs a1 hc h1
  · rw [if_neg (by omega)]
    have hk1 : k = b.size := by omega
    subst hk1
    exact escape_end g b v l _ _ w h
end Go.Proofs.Ytdaipnlgloafdaa
