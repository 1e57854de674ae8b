/- Walks over layer 15: step over whatever a byte is written as. -/
import Derived.Test.YtdaipnlgloafdaaUnqEsc
namespace Go.Proofs.Ytdaipnlgloafdaa
open Go.RowKit Utf
set_option linter.unusedVariables false
set_option maxRecDepth 100000

set_option maxHeartbeats 2000000 in
theorem point_small (g : Nat) (b : ByteArray) (k c : Nat) (v : Value) (l : List Nat) (w : World) (h : Rdr w g b k v l) (hl : l.length ≤ 1000000000) (hs : b.size ≤ 1000000000) (hk : k + 4 ≤ b.size)
    (hd : ∀ i, i < 4 → 0 ≤ hexN ((bs b).getD (k + i) 0)) (hv : vn (bs b) k 4 = (c : Int)) (hc : c < 32) :
    Calls Try.prog 28 #[.pointer (some ⟨g, 0, none⟩)] w (StepPost w g b (k + 4) v (l ++ [c]) (.int .i64 0)) := by
  have hdd := Lib.hid (digits_any g b k v l w h hk hs hd)
  have Hv := Lib.hid hv
  have q1 : decide ((56320 : Int) ≤ (c : Int)) = false := decide_eq_false (by omega)
  have q2 : decide ((55296 : Int) ≤ (c : Int)) = false := decide_eq_false (by omega)
  have q3 : IntKind.i32.wrap (c : Int) = (c : Int) := IntWalk.i32_in _ ⟨by omega, by omega⟩
  have Hr := Lib.hid fun (W : World) (hR : Rdr W g b (k + 4) v l) => rune_small 0 v l c W hc hR.2.1 (by omega) (Nat.zero_le _)
  clear h hs hk hd hv hl
  go_enter Try.func28, Try.ntmps28
  go_wp2_with fail
  refine hdd.out.mono ?_
  rintro e W ⟨rfl, hR, hO⟩
  rw [Hv.out]
  have c2 : W.cell? ⟨g, 2, none⟩ = some v := hR.1.cell 2
  have hr := Lib.hid (Hr.out W hR)
  have HR := Lib.hid hR
  have HO := Lib.hid hO
  clear hR hO hdd Hr
  go_wp2_with fail
  refine hr.out.mono ?_
  rintro e X ⟨v1, rfl, hG⟩
  obtain ⟨f2, d2⟩ := rdr_cell HR.out hG
  obtain ⟨a1, c1, rfl, _, _, _, _⟩ := hG.own.nums
  have HF := Lib.hid (rdr_app HR.out hG (.int .i64 0))
  clear hG hr c2
  obtain ⟨L, hL⟩ : ∃ L, Hid ((l ++ [c]).length = L) := ⟨_, Lib.hid rfl⟩
  rw [hL.out] at HF ⊢
  go_wp2_with fail
  go_ret
  exact HF.out.mono HO.out

set_option maxHeartbeats 2000000 in
theorem escape_u (g : Nat) (b : ByteArray) (k k' : Nat) (v : Value) (l m : List Nat) (w : World) (h : Rdr w g b k v l) (hs : b.size ≤ 1000000000) (hk : k < b.size) (hc : (bs b).getD k 0 = 117)
    (he : ∀ W, Rdr W g b (k + 1) v l → Calls Try.prog 28 #[.pointer (some ⟨g, 0, none⟩)] W (StepPost W g b k' v m (.int .i64 0))) :
    Calls Try.prog 26 #[.pointer (some ⟨g, 0, none⟩)] w (StepPost w g b k' v m (.int .i64 0)) := by
  have hd := Lib.hid (next_any g b k v l w h hk hs)
  have Hc := Lib.hid hc
  have He := Lib.hid he
  clear h hc hs hk he
  go_enter Try.func26, Try.ntmps26
  go_wp2_with fail
  refine hd.out.mono ?_
  rintro e W ⟨rfl, hR, hO⟩
  rw [Hc.out]
  have hp := Lib.hid (He.out W hR)
  have HO := Lib.hid hO
  clear hd hR hO He
  go_wp2_with fail
  refine hp.out.mono ?_
  rintro e X hG
  have e0 := hG.1
  subst e0
  have HG := Lib.hid hG
  clear hp hG
  go_wp2_with fail
  go_ret
  exact HG.out.mono HO.out

theorem hexN_dg : ∀ q, q < 16 → hexN (dg q) = (q : Int) := by decide

theorem step_esc (g : Nat) (b : ByteArray) (k c : Nat) (v : Value) (l : List Nat) (w : World) (h : Rdr w g b k v l) (hl : l.length ≤ 1000000000) (hs : b.size ≤ 1000000000) (hc : c < 256)
    (hk : k + (esc c).length ≤ b.size) (ha : ∀ j, j < (esc c).length → (bs b).getD (k + j) 0 = (esc c).getD j 0) :
    Calls Try.prog 19 #[.pointer (some ⟨g, 0, none⟩)] w (StepPost w g b (k + (esc c).length) v (l ++ [c]) (.tuple #[.bool false, .int .i64 0])) := by
  rcases (show c = 8 ∨ c = 9 ∨ c = 10 ∨ c = 12 ∨ c = 13 ∨ c = 34 ∨ c = 92 ∨ (c < 32 ∧ c ≠ 8 ∧ c ≠ 9 ∧ c ≠ 10 ∧ c ≠ 12 ∧ c ≠ 13) ∨ (32 ≤ c ∧ c ≠ 34 ∧ c ≠ 92) by omega) with rfl | rfl | rfl | rfl | rfl | rfl | rfl | h1 | h1
  · rw [show esc 8 = [92, 98] by rfl] at hk ha ⊢
    exact step_back g b k _ v l _ w h hs (by simp at hk; omega) (ha 0 (by simp)) fun W hR => escape_98 g b (k + 1) v l W hR hl hs (by simp at hk; omega) (ha 1 (by simp))
  · rw [show esc 9 = [92, 116] by rfl] at hk ha ⊢
    exact step_back g b k _ v l _ w h hs (by simp at hk; omega) (ha 0 (by simp)) fun W hR => escape_116 g b (k + 1) v l W hR hl hs (by simp at hk; omega) (ha 1 (by simp))
  · rw [show esc 10 = [92, 110] by rfl] at hk ha ⊢
    exact step_back g b k _ v l _ w h hs (by simp at hk; omega) (ha 0 (by simp)) fun W hR => escape_110 g b (k + 1) v l W hR hl hs (by simp at hk; omega) (ha 1 (by simp))
  · rw [show esc 12 = [92, 102] by rfl] at hk ha ⊢
    exact step_back g b k _ v l _ w h hs (by simp at hk; omega) (ha 0 (by simp)) fun W hR => escape_102 g b (k + 1) v l W hR hl hs (by simp at hk; omega) (ha 1 (by simp))
  · rw [show esc 13 = [92, 114] by rfl] at hk ha ⊢
    exact step_back g b k _ v l _ w h hs (by simp at hk; omega) (ha 0 (by simp)) fun W hR => escape_114 g b (k + 1) v l W hR hl hs (by simp at hk; omega) (ha 1 (by simp))
  · rw [show esc 34 = [92, 34] by rfl] at hk ha ⊢
    exact step_back g b k _ v l _ w h hs (by simp at hk; omega) (ha 0 (by simp)) fun W hR => escape_34 g b (k + 1) v l W hR hl hs (by simp at hk; omega) (ha 1 (by simp))
  · rw [show esc 92 = [92, 92] by rfl] at hk ha ⊢
    exact step_back g b k _ v l _ w h hs (by simp at hk; omega) (ha 0 (by simp)) fun W hR => escape_92 g b (k + 1) v l W hR hl hs (by simp at hk; omega) (ha 1 (by simp))
  · rw [show esc c = [92, 117, 48, 48, dg (c / 16), dg (c % 16)] by unfold esc; repeat (first | rw [if_pos (by omega)] | rw [if_neg (by omega)])] at hk ha ⊢
    have a2 : (bs b).getD (k + 2 + 0) 0 = 48 := ha 2 (by simp)
    have a3 : (bs b).getD (k + 2 + 1) 0 = 48 := ha 3 (by simp)
    have a4 : (bs b).getD (k + 2 + 2) 0 = dg (c / 16) := ha 4 (by simp)
    have a5 : (bs b).getD (k + 2 + 3) 0 = dg (c % 16) := ha 5 (by simp)
    have e0 : hexN 48 = 0 := by rfl
    have e4 := hexN_dg (c / 16) (by omega)
    have e5 := hexN_dg (c % 16) (by omega)
    refine step_back g b k _ v l _ w h hs (by simp at hk; omega) (ha 0 (by simp)) fun W hR => escape_u g b (k + 1) _ v l _ W hR hs (by simp at hk; omega) (ha 1 (by simp)) fun W2 hR2 => ?_
    refine point_small g b (k + 2) c v l W2 hR2 hl hs (by simp at hk; omega) ?_ ?_ (by omega)
    · intro i hi
      rcases (show i = 0 ∨ i = 1 ∨ i = 2 ∨ i = 3 by omega) with rfl | rfl | rfl | rfl
      · rw [a2, e0]; omega
      · rw [a3, e0]; omega
      · rw [a4, e4]; omega
      · rw [a5, e5]; omega
    · simp only [vn]
      rw [a2, a3, a4, a5, e0, e4, e5]
      omega
  · rw [show esc c = [c] by unfold esc; repeat (first | rw [if_pos (by omega)] | rw [if_neg (by omega)])] at hk ha ⊢
    exact step_plain g b k c v l w h hl hs (by simp at hk; omega) (ha 0 (by simp)) h1
end Go.Proofs.Ytdaipnlgloafdaa
