/- Walks over layer 15: sequence, Valid, the reference's tail, one, Valid. -/
import Derived.Test.YtdaipnlgloafdaaUtf
namespace Go.Proofs.Ytdaipnlgloafdaa
open Go.RowKit Utf
set_option linter.unusedVariables false
set_option maxRecDepth 100000

/-- A text with a known text's bytes from a place on. -/
def From (l : List Nat) (i : Nat) (t : ByteArray) : Prop := bs t = l.drop i

set_option maxHeartbeats 4000000 in
theorem seq_any (t : ByteArray) (w : World) (h : 0 < t.size) (hm : t.size ≤ 100000) : Calls Try.prog 16 #[.string t] w fun e w' => e = .returned (.int .i64 ((one (bs t) 0 : Nat) : Int)) ∧ w = w' := by
  have hg := fun k hk => bs_get t k hk
  have hl := bs_length t
  have hlt := fun k => get_lt t k
  have hs := fun w => second_any ((bs t).getD 0 0) w (hlt 0)
  have hsz := sec_le ((bs t).getD 0 0)
  generalize hA : (sec ((bs t).getD 0 0)).1 = A at *
  generalize hB : (sec ((bs t).getD 0 0)).2.1 = B at *
  generalize hN : (sec ((bs t).getD 0 0)).2.2 = N at *
  have h0 := hg 0 h
  have Hone : Hid (one (bs t) 0 = if N < 2 then N else if tl (bs t) 1 A B = false then 0 else if 3 ≤ N ∧ tl (bs t) 2 128 191 = false then 0 else if 4 ≤ N ∧ tl (bs t) 3 128 191 = false then 0 else N) := by
    show _ = _; unfold one; rw [hA, hB, hN]
  have Hs : Hid (∀ w, Calls Try.prog 22 #[.int .u8 (((bs t).getD 0 0 : Nat) : Int)] w fun e w' => e = .returned (.tuple #[.int .u8 (A : Int), .int .u8 (B : Int), .int .i64 (N : Int)]) ∧ w = w') := fun w => by
    have := second_any ((bs t).getD 0 0) w (hlt 0)
    unfold Sec at this
    rwa [hA, hB, hN] at this
  have Hg := Lib.hid hg
  have Hlt := Lib.hid hlt
  generalize (bs t).getD 0 0 = c0 at *
  generalize one (bs t) 0 = R at *
  clear hs hA hB hN hg hlt
  by_cases hn : N < 2
  · have e := Hone.out
    rw [if_pos hn] at e
    rw [e]
    clear e hl
    go_enter Try.func16, Try.ntmps16
    go_wp2_with fail
    refine (Hs.out _).mono ?_
    rintro e W ⟨rfl, rfl⟩
    go_wp2_with fail
    go_ret
    exact ⟨rfl, rfl⟩
  · have e := Hone.out
    rw [if_neg hn] at e
    have hzero : Hid (∀ j, (j = 1 ∧ tl (bs t) 1 A B = false) ∨ (2 ≤ j ∧ j < N ∧ tl (bs t) j 128 191 = false) → R = 0) := fun j hj => by
      rw [e]
      split
      · rfl
      · next h1 =>
        split
        · rfl
        · next h2 =>
          split
          · rfl
          · next h3 =>
            exfalso
            rcases hj with ⟨_, hj⟩ | ⟨a, b, hj⟩
            · exact h1 hj
            · have : j = 2 ∨ j = 3 := by omega
              rcases this with rfl | rfl
              · exact h2 ⟨by omega, hj⟩
              · exact h3 ⟨by omega, hj⟩
    have hall : Hid (tl (bs t) 1 A B = true → (∀ j, 2 ≤ j → j < N → tl (bs t) j 128 191 = true) → R = N) := fun h1 h2 => by
      rw [e, if_neg (by rw [h1]; simp), if_neg (fun ⟨a, b⟩ => by rw [h2 2 (by omega) (by omega)] at b; cases b), if_neg (fun ⟨a, b⟩ => by rw [h2 3 (by omega) (by omega)] at b; cases b)]
    have htl : Hid (∀ j lo hi, tl (bs t) j lo hi = (decide (j < t.size) && (decide (lo ≤ (bs t).getD j 0) && decide ((bs t).getD j 0 ≤ hi)))) := fun j lo hi => by unfold tl; rw [hl]
    have hn2 : ¬ ((N : Int) < 2) := by omega
    clear e Hone hl
    by_cases hL : t.size < N
    · have hz : R = 0 := by
        by_cases h1 : t.size = 1
        · exact hzero.out 1 (.inl ⟨rfl, by rw [htl.out]; simp [h1]⟩)
        · exact hzero.out t.size (.inr ⟨by omega, hL, by rw [htl.out]; simp⟩)
      subst hz
      have hLi : decide (t.size < N) = true := decide_eq_true (by omega)
      clear hn
      go_enter Try.func16, Try.ntmps16
      go_wp2_with fail
      refine (Hs.out _).mono ?_
      rintro e W ⟨rfl, rfl⟩
      go_wp2_with fail
      go_ret
      exact ⟨rfl, rfl⟩
    · have hLi : decide (t.size < N) = false := decide_eq_false (by omega)
      have h1s : 1 < t.size := by omega
      have h1 := Hg.out 1 h1s
      have hlt1 := Hlt.out 1
      have ht1 := htl.out 1 A B
      generalize hc1 : (bs t).getD 1 0 = c1 at *
      have Ht1 := Lib.hid ht1
      clear ht1 hc1
      by_cases hlo : c1 < A
      · have hz : R = 0 := hzero.out 1 (.inl ⟨rfl, by rw [Ht1.out]; simp; intro _ h; omega⟩)
        subst hz
        have g1 : decide (c1 < A) = true := decide_eq_true (by omega)
        clear hn hlo hL
        go_enter Try.func16, Try.ntmps16
        go_wp2_with fail
        refine (Hs.out _).mono ?_
        rintro e W ⟨rfl, rfl⟩
        go_wp2_with fail
        go_ret
        exact ⟨rfl, rfl⟩
      · have g1 : decide (c1 < A) = false := decide_eq_false (by omega)
        by_cases hhi : B < c1
        · have hz : R = 0 := hzero.out 1 (.inl ⟨rfl, by rw [Ht1.out]; simp; intro _ h; omega⟩)
          subst hz
          have g2 : decide (B < c1) = true := decide_eq_true (by omega)
          clear hn hlo hhi hL
          go_enter Try.func16, Try.ntmps16
          go_wp2_with fail
          refine (Hs.out _).mono ?_
          rintro e W ⟨rfl, rfl⟩
          go_wp2_with fail
          go_ret
          exact ⟨rfl, rfl⟩
        · have g2 : decide (B < c1) = false := decide_eq_false (by omega)
          have Hone1 : Hid (tl (bs t) 1 A B = true) := by show _ = _; rw [Ht1.out]; simp; omega
          have hNs : N ≤ t.size := by omega
          clear hlo hhi hL
          go_enter Try.func16, Try.ntmps16
          go_wp2_with fail
          refine (Hs.out _).mono ?_
          rintro e W ⟨rfl, rfl⟩
          go_wp2_with fail
          clear h0 h1
          go_loop [6] (fun i => ∃ k : Nat, 2 ≤ k ∧ k ≤ N ∧ i = .int .i64 (k : Int) ∧ Hid (∀ j, 2 ≤ j → j < k → tl (bs t) j 128 191 = true)) (fun i => N - (intOf i).toNat)
          case atStart => exact ⟨2, by omega, by omega, rfl, fun j a b => by omega⟩
          case round =>
            obtain ⟨k, hk2, hkN, rfl, hp⟩ := hrel
            by_cases hkl : k < N
            · have hks : k < t.size := by omega
              have hk := Hg.out k hks
              have htk := htl.out k 128 191
              generalize hck : (bs t).getD k 0 = ck at *
              have Htk := Lib.hid htk
              clear htk hck
              by_cases ha : ck < 128
              · have hz : R = 0 := hzero.out k (.inr ⟨hk2, hkl, by rw [Htk.out]; simp; intro _ h; omega⟩)
                subst hz
                go_wp2_with fail
                go_ret
                exact ⟨rfl, rfl⟩
              · by_cases hb : 191 < ck
                · have hz : R = 0 := hzero.out k (.inr ⟨hk2, hkl, by rw [Htk.out]; simp; intro _ h; omega⟩)
                  subst hz
                  go_wp2_with fail
                  go_ret
                  exact ⟨rfl, rfl⟩
                · have hp2 : Hid (∀ j, 2 ≤ j → j < k + 1 → tl (bs t) j 128 191 = true) := fun j a b => by
                    by_cases hj : j = k
                    · subst hj; rw [Htk.out]; simp; omega
                    · exact hp.out j a (by omega)
                  go_wp2_with fail
                  go_round
                  case rel => exact ⟨k + 1, by omega, hkl, by go_num, hp2⟩
                  case measure => simp [intOf]; omega
            · obtain rfl : k = N := by omega
              have hz := hall.out Hone1.out hp.out
              subst hz
              go_wp2_with fail
              go_ret
              exact ⟨rfl, rfl⟩
end Go.Proofs.Ytdaipnlgloafdaa
