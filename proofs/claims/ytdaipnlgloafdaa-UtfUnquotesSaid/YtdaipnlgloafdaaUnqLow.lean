/- Walks over layer 15: low. -/
import Derived.Test.YtdaipnlgloafdaaUnqFour
namespace Go.Proofs.Ytdaipnlgloafdaa
open Go.RowKit Utf
set_option linter.unusedVariables false
set_option maxRecDepth 100000

/-- What the second half of a pair is, and the error. -/
def lowD (R : Int × Int) : Int × Int := if R.2 = 0 then (if R.1 < 56320 ∨ 57343 < R.1 then (0, 3) else (R.1, 0)) else (0, R.2)
def lowE (l : List Nat) (k : Nat) : Int × Int :=
  if k < l.length then (if l.getD k 0 = 92 then (if k + 1 < l.length then (if l.getD (k + 1) 0 = 117 then lowD (fourE l 4 (k + 2) 0) else (0, 3)) else (0, 2)) else (0, 3)) else (0, 2)

def LowPost (w : World) (g : Nat) (b : ByteArray) (k : Nat) (v : Value) (l : List Nat) (R : Int × Int) (e : Ending) (w' : World) : Prop :=
  e = .returned (.tuple #[.int .i64 R.1, .int .i64 R.2]) ∧ (∃ k', Rdr w' g b k' v l ∧ k' ≤ b.size ∧ (R.2 = 0 → k' = k + 6)) ∧ Only (fun k => k = g) w w'

theorem Rdr.alloc {w : World} {g : Nat} {b : ByteArray} {k : Nat} {v : Value} {l : List Nat} (h : Rdr w g b k v l) (o : Obj) : Rdr (w.alloc o) g b k v l :=
  ⟨h.1.only ((Only.refl (fun _ => False) w).alloc o) (fun h => h), h.2.1.alloc o, h.2.2⟩

set_option maxHeartbeats 4000000 in
theorem low_gen (g : Nat) (b : ByteArray) (k : Nat) (v : Value) (l : List Nat) (w : World) (h : Rdr w g b k v l) (hk : k ≤ b.size) (hs : b.size ≤ 1000000000) (R : Int × Int) (hR : lowE (bs b) k = R) :
    Calls Try.prog 30 #[.pointer (some ⟨g, 0, none⟩)] w (LowPost w g b k v l R) := by
  have hlen := bs_length b
  have hgl : g < w.heap.size := h.1.lt
  have h0 := Lib.hid (h.alloc (.cells #[.int .u8 92, .int .u8 117] 5))
  have hO0 : Hid (Only (fun k => k = g) w (w.alloc (.cells #[.int .u8 92, .int .u8 117] 5))) := (Only.refl _ _).alloc _
  have hnew : Hid (Whole (w.alloc (.cells #[.int .u8 92, .int .u8 117] 5)) w.heap.size 5 #[.int .u8 92, .int .u8 117]) := Whole.new w _ _
  unfold lowE at hR
  by_cases a1 : k < b.size
  · rw [if_pos (by omega)] at hR
    have hn := Lib.hid (next_any g b k v l _ h0.out a1 hs)
    obtain ⟨c, hc⟩ : ∃ c, Hid ((bs b).getD k 0 = c) := ⟨_, rfl⟩
    rw [hc.out] at hR
    by_cases a2 : c = 92
    · subst a2
      rw [if_pos rfl] at hR
      by_cases a3 : k + 1 < b.size
      · rw [if_pos (by omega)] at hR
        have hn2 := Lib.hid fun W hR => next_any g b (k + 1) v l W hR a3 hs
        obtain ⟨c2, hc2⟩ : ∃ c2, Hid ((bs b).getD (k + 1) 0 = c2) := ⟨_, rfl⟩
        rw [hc2.out] at hR
        by_cases a4 : c2 = 117
        · subst a4
          rw [if_pos rfl] at hR
          obtain ⟨F, hF⟩ : ∃ F, fourE (bs b) 4 (k + 2) 0 = F := ⟨_, rfl⟩
          rw [hF] at hR
          have hf := Lib.hid fun W hR => digits_gen g b (k + 2) v l W hR (by omega) hs F hF
          obtain ⟨n, e⟩ := F
          have HR := Lib.hid hR
          have hgn : w.heap.size ≠ g := by omega
          clear hR hF hs hk h a1 a3 hlen
          go_enter Try.func30, Try.ntmps30
          go_wp2_with fail
          refine wp_loop_rounds 3 ?_
          rw [rounds_succ]
          go_wp2_with fail
          refine hn.out.mono ?_
          rintro e1 X ⟨rfl, hR1, hO1⟩
          have hW1 := hnew.out.only hO1 hgn
          have d1 : X.cell? ⟨w.heap.size, 1, none⟩ = some (.int .u8 117) := hW1.cell 1
          have HR1 := Lib.hid hR1
          have HO1 := Lib.hid (hO0.out.trans hO1 (fun _ _ h => h))
          clear hR1 hO1 hW1 hn h0
          rw [hc.out]
          go_wp2_with fail
          rw [rounds_succ]
          go_wp2_with fail
          refine (hn2.out _ HR1.out).mono ?_
          rintro e1 Y ⟨rfl, hR2, hO2⟩
          have HR2 := Lib.hid hR2
          have HO2 := Lib.hid (HO1.out.trans hO2 (fun _ _ h => h))
          clear hR2 hO2 hn2 d1
          rw [hc2.out]
          go_wp2_with fail
          rw [rounds_succ]
          go_wp2_with fail
          refine (hf.out _ HR2.out).mono ?_
          rintro e1 Z ⟨rfl, ⟨k', hR3, hk3, he3⟩, hO3⟩
          have HR3 := Lib.hid hR3
          have Hk3 := Lib.hid hk3
          have He3 := Lib.hid he3
          have HO3 := Lib.hid (HO2.out.trans hO3 (fun _ _ h => h))
          clear hR3 hk3 he3 hO3 hf
          have hD := HR.out
          simp only [lowD] at hD
          by_cases b1 : e = 0
          · subst b1
            rw [if_pos rfl] at hD
            by_cases b2 : n < 56320
            · rw [if_pos (.inl b2)] at hD
              subst hD
              have q1 : decide (n < 56320) = true := decide_eq_true b2
              clear HR b2
              go_wp2_with fail
              go_ret2
              exact ⟨rfl, ⟨k', HR3.out, Hk3.out, fun h => by cases h⟩, HO3.out⟩
            · by_cases b3 : 57343 < n
              · rw [if_pos (.inr b3)] at hD
                subst hD
                have q1 : decide (n < 56320) = false := decide_eq_false b2
                have q2 : decide (57343 < n) = true := decide_eq_true b3
                clear HR b2 b3
                go_wp2_with fail
                go_ret2
                exact ⟨rfl, ⟨k', HR3.out, Hk3.out, fun h => by cases h⟩, HO3.out⟩
              · rw [if_neg (by omega)] at hD
                subst hD
                have q1 : decide (n < 56320) = false := decide_eq_false b2
                have q2 : decide (57343 < n) = false := decide_eq_false b3
                clear HR b2 b3
                go_wp2_with fail
                go_ret2
                exact ⟨rfl, ⟨k', HR3.out, Hk3.out, fun _ => by have := He3.out (by trivial); omega⟩, HO3.out⟩
          · rw [if_neg b1] at hD
            subst hD
            have q1 : (e == 0) = false := beq_eq_false_iff_ne.mpr b1
            have Hb1 := Lib.hid b1
            clear HR b1
            go_wp2_with fail
            go_ret2
            exact ⟨rfl, ⟨k', HR3.out, Hk3.out, fun h => absurd h Hb1.out⟩, HO3.out⟩
        · rw [if_neg a4] at hR
          subst hR
          have q1 : ((c2 : Int) == 117) = false := beq_eq_false_iff_ne.mpr (by omega)
          have hgn : w.heap.size ≠ g := by omega
          have Ha3 := Lib.hid a3
          clear hs hk h a1 a3 hlen a4
          go_enter Try.func30, Try.ntmps30
          go_wp2_with fail
          refine wp_loop_rounds 3 ?_
          rw [rounds_succ]
          go_wp2_with fail
          refine hn.out.mono ?_
          rintro e1 X ⟨rfl, hR1, hO1⟩
          have hW1 := hnew.out.only hO1 hgn
          have d1 : X.cell? ⟨w.heap.size, 1, none⟩ = some (.int .u8 117) := hW1.cell 1
          have HR1 := Lib.hid hR1
          have HO1 := Lib.hid (hO0.out.trans hO1 (fun _ _ h => h))
          clear hR1 hO1 hW1 hn h0
          rw [hc.out]
          go_wp2_with fail
          rw [rounds_succ]
          go_wp2_with fail
          refine (hn2.out _ HR1.out).mono ?_
          rintro e1 Y ⟨rfl, hR2, hO2⟩
          have HR2 := Lib.hid hR2
          have HO2 := Lib.hid (HO1.out.trans hO2 (fun _ _ h => h))
          clear hR2 hO2 hn2 d1
          rw [hc2.out]
          go_wp2_with fail
          go_ret2
          exact ⟨rfl, ⟨_, HR2.out, Ha3.out, fun h => by cases h⟩, HO2.out⟩
      · rw [if_neg (by omega)] at hR
        subst hR
        have hk1 : k + 1 = b.size := by omega
        have hn2 := Lib.hid fun W hR => next_end g b v l W hR
        have hgn : w.heap.size ≠ g := by omega
        have Hk1 := Lib.hid hk1
        clear hs hk h a1 a3 hlen hk1
        go_enter Try.func30, Try.ntmps30
        go_wp2_with fail
        refine wp_loop_rounds 3 ?_
        rw [rounds_succ]
        go_wp2_with fail
        refine hn.out.mono ?_
        rintro e1 X ⟨rfl, hR1, hO1⟩
        have hW1 := hnew.out.only hO1 hgn
        have d1 : X.cell? ⟨w.heap.size, 1, none⟩ = some (.int .u8 117) := hW1.cell 1
        have HR1 := Lib.hid hR1
        have HO1 := Lib.hid (hO0.out.trans hO1 (fun _ _ h => h))
        clear hR1 hO1 hW1 hn h0
        rw [hc.out]
        go_wp2_with fail
        rw [rounds_succ]
        go_wp2_with fail
        refine (hn2.out _ (by have := HR1.out; rwa [Hk1.out] at this)).mono ?_
        rintro e1 Y ⟨rfl, hR2, hO2⟩
        have HR2 := Lib.hid hR2
        have HO2 := Lib.hid (HO1.out.trans hO2 (fun _ _ h => h))
        clear hR2 hO2 hn2 d1
        go_wp2_with fail
        go_ret2
        exact ⟨rfl, ⟨_, HR2.out, Nat.le_refl _, fun h => by cases h⟩, HO2.out⟩
    · rw [if_neg a2] at hR
      subst hR
      have q1 : ((c : Int) == 92) = false := beq_eq_false_iff_ne.mpr (by omega)
      have Ha1 := Lib.hid a1
      clear hs hk h a1 hlen a2 hnew
      go_enter Try.func30, Try.ntmps30
      go_wp2_with fail
      refine wp_loop_rounds 3 ?_
      rw [rounds_succ]
      go_wp2_with fail
      refine hn.out.mono ?_
      rintro e1 X ⟨rfl, hR1, hO1⟩
      have HR1 := Lib.hid hR1
      have HO1 := Lib.hid (hO0.out.trans hO1 (fun _ _ h => h))
      clear hR1 hO1 hn h0
      rw [hc.out]
      go_wp2_with fail
      go_ret2
      exact ⟨rfl, ⟨_, HR1.out, Ha1.out, fun h => by cases h⟩, HO1.out⟩
  · rw [if_neg (by omega)] at hR
    subst hR
    have hk1 : k = b.size := by omega
    subst hk1
    have hn := Lib.hid (next_end g b v l _ h0.out)
    clear hs hk h a1 hlen hnew
    go_enter Try.func30, Try.ntmps30
    go_wp2_with fail
    refine wp_loop_rounds 3 ?_
    rw [rounds_succ]
    go_wp2_with fail
    refine hn.out.mono ?_
    rintro e1 X ⟨rfl, hR1, hO1⟩
    have HR1 := Lib.hid hR1
    have HO1 := Lib.hid (hO0.out.trans hO1 (fun _ _ h => h))
    clear hR1 hO1 hn h0
    go_wp2_with fail
    go_ret2
    exact ⟨rfl, ⟨_, HR1.out, Nat.le_refl _, fun h => by cases h⟩, HO1.out⟩
end Go.Proofs.Ytdaipnlgloafdaa
