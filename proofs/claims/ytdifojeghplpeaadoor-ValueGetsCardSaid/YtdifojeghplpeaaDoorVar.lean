/- Walks over layer 7: add, PutVarint, the reference's Bytes. -/
import Derived.Test.YtdifojeghplpeaaDoorClone
import Derived.Test.YtdifojeghplpeaaDoorVarMath
namespace Go.Proofs.YtdifojeghplpeaaDoor
open Go.RowKit Var
set_option linter.unusedVariables false
set_option maxRecDepth 100000

theorem or128 (x : Nat) : bits .or .u8 ((x : Int) % 256) 128 = ((x % 128 + 128 : Nat) : Int) := by
  have h : ∀ z, z < 256 → z ||| 128 = z % 128 + 128 := by decide
  have e : (x : Int) % 256 = ((x % 256 : Nat) : Int) := by omega
  rw [e, show (128 : Int) = ((128 : Nat) : Int) from rfl, u8_or_nat (x % 256) 128 (by omega) (by omega), h _ (by omega)]
  congr 1
  omega

def AddPost (w : World) (base : Nat) (v : Value) (l : List Nat) (e : Ending) (w' : World) : Prop := ∃ v', e = .returned v' ∧ Gone w base v l v' w'

set_option maxHeartbeats 2000000 in
theorem add_any (base : Nat) (v : Value) (l : List Nat) (x : Nat) (w : World) (h : Own8 w base v l) (hx : x < 18446744073709551616) (hl : l.length ≤ 1000000000) (hB : base ≤ w.heap.size) :
    Calls Tryd.prog 50 #[v, .int .u64 (x : Int)] w (AddPost w base v (l ++ vb x)) := by
  obtain ⟨i0, hi0, hz0, hz1, hz2⟩ := info_parts u8info
  have hlen := vb_len10 hx
  obtain ⟨T, hT⟩ : ∃ T, T = l ++ vb x := ⟨_, rfl⟩
  have hTl : T.length ≤ 1000000010 := by rw [hT]; simp; omega
  have HT : Hid (l ++ vb x = T) := hT.symm
  rw [← hT]
  clear hT
  go_enter Tryd.func50, Tryd.ntmps50
  go_wp2_with fail
  go_loopw [0, 1] (fun u i W => ∃ (y : Nat) (m : List Nat), i = .int .u64 (y : Int) ∧ y < 18446744073709551616 ∧ Hid (m ++ vb y = T) ∧ Hid (Gone w base v m u W)) (fun _ i _ => (intOf i).toNat)
  case atStart => exact ⟨x, l, rfl, hx, HT, Gone.refl h⟩
  case round =>
    obtain ⟨y, m, rfl, hy, hm, hg⟩ := hrel
    have hml : m.length ≤ 1000000010 := by have := hm.out; rw [← this] at hTl; simp at hTl; omega
    have hbs : base ≤ wr.heap.size := Nat.le_trans hB hg.out.only.size
    have Hl1 : Hid (m.length + 1 ≤ maxLen) := by unfold Hid maxLen; omega
    have Hl2 : Hid ((m.length + 1) * 1 ≤ 140737488355328) := by unfold Hid; omega
    have hown : wr.ownsRow base 5 1 u0 m.length (u8s m) := hg.out.own
    by_cases hlt : y < 128
    · have Hm : Hid (m ++ [y] = T) := by have := hm.out; rw [vb_small hlt] at this; exact this
      have hyw : (y : Int) % 256 = (y : Int) := by omega
      have HY := Lib.hid hyw
      clear hm hyw
      go_wp2_with (at_builtin; refine app_one rfl (.tmp 15) (.tmp 18) 26 rfl base 5 i0 _ 1 Tryd.underlying26 hi0 hz0 hz1 hz2 rfl _ _ _ rfl hown _ 1 rfl rfl Hl1.out Hl2.out hbs ?_)
      intro v1 w1 h2 h3 h5
      have hg2 : Gone wr base u0 (m ++ [y]) v1 w1 := Gone.grown h2 (by simp) (by rw [u8s_append]; simp [u8s, HY.out]) h3 h5
      have hg3 := hg.out.trans hg2
      rw [Hm.out] at hg3
      clear h2 h3 h5 hg2 hown hg
      go_wp2
      go_ret
      exact ⟨_, rfl, hg3⟩
    · have Hor := Lib.hid (or128 y)
      have Hm : Hid ((m ++ [y % 128 + 128]) ++ vb (y / 128) = T) := by rw [vb_more hlt]; exact hm
      have hy7 : (y : Int) / 128 = ((y / 128 : Nat) : Int) := by omega
      have hy8 : y / 128 < 18446744073709551616 := by omega
      have HY := Lib.hid hy7
      clear hm hy7
      go_wp2_with (at_builtin; refine app_one rfl (.tmp 7) (.tmp 11) 26 rfl base 5 i0 _ 1 Tryd.underlying26 hi0 hz0 hz1 hz2 rfl _ _ _ rfl hown _ 1 rfl rfl Hl1.out Hl2.out hbs ?_)
      intro v1 w1 h2 h3 h5
      have hg2 : Gone wr base u0 (m ++ [y % 128 + 128]) v1 w1 := Gone.grown h2 (by simp) (by rw [u8s_append]; simp [u8s, Hor.out]) h3 h5
      have hg3 := Lib.hid (hg.out.trans hg2)
      clear h2 h3 h5 hg2 hown hg
      go_wp2
      go_roundw
      case rel => exact ⟨y / 128, m ++ [y % 128 + 128], by rw [← HY.out], hy8, Hm.out, hg3⟩
      case measure => simp [intOf]; omega

def PutPost (w : World) (l : List Nat) (e : Ending) (w' : World) : Prop := ∃ v', e = .returned v' ∧ Own8 w' w.heap.size v' l ∧ Below w.heap.size w w'

set_option maxHeartbeats 2000000 in
theorem refBytes_any (x : Nat) (w : World) (hx : x < 18446744073709551616) :
    Calls Tryd.prog 40 #[.int .u64 (x : Int)] w (PutPost w (vb x)) := by
  obtain ⟨i0, hi0, hz0, hz1, hz2⟩ := info_parts u8info
  have hlen := vb_len10 hx
  obtain ⟨T, hT⟩ : ∃ T, T = vb x := ⟨_, rfl⟩
  have hTl : T.length ≤ 10 := by rw [hT]; exact hlen
  have HT : Hid ([] ++ vb x = T) := hT.symm
  rw [← hT]
  clear hT hlen
  go_enter Tryd.func40, Tryd.ntmps40
  go_wp2_with fail
  go_loopw [3, 0] (fun u i W => ∃ (y : Nat) (m : List Nat), i = .int .u64 (y : Int) ∧ y < 18446744073709551616 ∧ Hid (m ++ vb y = T) ∧ Hid (Gone w w.heap.size (.slice none 0 0) m u W)) (fun _ i _ => (intOf i).toNat)
  case atStart => exact ⟨x, [], rfl, hx, HT, Gone.refl (Own8.nil_ _ _)⟩
  case round =>
    obtain ⟨y, m, rfl, hy, hm, hg⟩ := hrel
    have hml : m.length ≤ 10 := by have := hm.out; rw [← this] at hTl; simp at hTl; omega
    have hbs : w.heap.size ≤ wr.heap.size := hg.out.only.size
    have Hl1 : Hid (m.length + 1 ≤ maxLen) := by unfold Hid maxLen; omega
    have Hl2 : Hid ((m.length + 1) * 1 ≤ 140737488355328) := by unfold Hid; omega
    have hown : wr.ownsRow w.heap.size 5 1 u3 m.length (u8s m) := hg.out.own
    by_cases hlt : y < 128
    · have Hm : Hid (m ++ [y] = T) := by have := hm.out; rw [vb_small hlt] at this; exact this
      have hyw : (y : Int) % 256 = (y : Int) := by omega
      have hq : ¬ (0 : Int) < (y : Int) / 128 := by omega
      have HY := Lib.hid hyw
      clear hm hyw
      go_wp2_with (at_builtin; refine app_one rfl (.tmp 16) (.tmp 19) 26 rfl w.heap.size 5 i0 _ 1 Tryd.underlying26 hi0 hz0 hz1 hz2 rfl _ _ _ rfl hown _ 1 rfl rfl Hl1.out Hl2.out hbs ?_)
      intro v1 w1 h2 h3 h5
      have hg2 : Gone wr w.heap.size u3 (m ++ [y]) v1 w1 := Gone.grown h2 (by simp) (by rw [u8s_append]; simp [u8s, HY.out]) h3 h5
      have hg3 := hg.out.trans hg2
      rw [Hm.out] at hg3
      clear h2 h3 h5 hg2 hown hg
      go_wp2
      go_ret
      exact ⟨_, rfl, hg3.own, hg3.below (Own8.nil_ _ _) (Nat.le_refl _)⟩
    · have Hor : Hid (((y : Int) % 128 + 128) % 256 = ((y % 128 + 128 : Nat) : Int)) := by show _ = _; omega
      have Hm : Hid ((m ++ [y % 128 + 128]) ++ vb (y / 128) = T) := by rw [vb_more hlt]; exact hm
      have hy7 : (y : Int) / 128 = ((y / 128 : Nat) : Int) := by omega
      have hq : (0 : Int) < (y : Int) / 128 := by omega
      have hy8 : y / 128 < 18446744073709551616 := by omega
      have HY := Lib.hid hy7
      clear hm hy7
      go_wp2_with (at_builtin; refine app_one rfl (.tmp 7) (.tmp 12) 26 rfl w.heap.size 5 i0 _ 1 Tryd.underlying26 hi0 hz0 hz1 hz2 rfl _ _ _ rfl hown _ 1 rfl rfl Hl1.out Hl2.out hbs ?_)
      intro v1 w1 h2 h3 h5
      have hg2 : Gone wr w.heap.size u3 (m ++ [y % 128 + 128]) v1 w1 := Gone.grown h2 (by simp) (by rw [u8s_append]; simp [u8s, Hor.out]) h3 h5
      have hg3 := Lib.hid (hg.out.trans hg2)
      clear h2 h3 h5 hg2 hown hg
      go_wp2
      go_roundw
      case rel => exact ⟨y / 128, m ++ [y % 128 + 128], by rw [← HY.out], hy8, Hm.out, hg3⟩
      case measure => simp [intOf]; omega
end Go.Proofs.YtdifojeghplpeaaDoor
