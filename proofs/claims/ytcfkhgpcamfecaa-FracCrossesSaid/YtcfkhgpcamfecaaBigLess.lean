/- The reference's big numbers: less. -/
import Derived.Test.YtcfkhgpcamfecaaBigPlus
namespace Go.Proofs.Ytcfkhgpcamfecaa
open Go.RowKit Big
set_option linter.unusedVariables false
set_option maxRecDepth 100000

set_option maxHeartbeats 4000000 in
theorem less_any (a : Option Addr) (c : Nat) (la : List Nat) (a' : Option Addr) (c' : Nat) (lb : List Nat) (w : World) (ha : Wd w w.heap.size a c la) (hb : Wd w w.heap.size a' c' lb) (hlen : lb.length ≤ la.length) (hle : val lb ≤ val la) (hM : la.length ≤ 1000) :
    Calls Try.prog 63 #[.slice a la.length c, .slice a' lb.length c'] w (SlPost w fun O => val O = val la - val lb ∧ O.length = la.length) := by
  obtain ⟨i0, hi0, hz0, hz1, hz2⟩ := info_parts u64info
  have HA := Lib.hid ha.cellOf
  have HB := Lib.hid hb.cellOf
  have Hle := Lib.hid hle
  clear ha hb hle
  obtain ⟨L1, hL1⟩ : ∃ L1, L1 = la.length := ⟨_, rfl⟩
  obtain ⟨L2, hL2⟩ : ∃ L2, L2 = lb.length := ⟨_, rfl⟩
  rw [← hL1] at hM hlen HA ⊢
  rw [← hL2] at hlen HB ⊢
  have H1 := Lib.hid hL1
  have H2 := Lib.hid hL2
  clear hL1 hL2
  go_enter Try.func63, Try.ntmps63
  go_wp2_with fail
  go_loopw [5, 6, 7] (fun v cc i W => ∃ (k C : Nat) (O : List Nat), k ≤ L1 ∧ i = .int .i64 (k : Int) ∧ cc = .int .u64 (C : Int) ∧ Hid (LessInv la lb k C O) ∧ W.ownsRow w.heap.size 22 1 v k (u64s O) ∧ Below w.heap.size w W) (fun _ _ i _ => L1 - (intOf i).toNat)
  case atStart => exact ⟨0, 0, [], by omega, rfl, rfl, LessInv.zero la lb, ⟨rfl, .inl ⟨rfl, rfl⟩⟩, Below.refl _ _⟩
  case round =>
    obtain ⟨k, C, O, hk, rfl, rfl, hinv, hown, hb⟩ := hrel
    have hC := hinv.out.borrow
    have hbs := hb.size
    have Hl1 : Hid (k + 1 ≤ maxLen) := by unfold Hid maxLen; omega
    have Hl2 : Hid ((k + 1) * 8 ≤ 140737488355328) := by unfold Hid; omega
    by_cases h1 : k < L1
    · obtain ⟨b, off, rfl, hlb, hc, hxl⟩ := HA.out k h1
      obtain ⟨x, hx⟩ : ∃ x, x = la.getD k 0 := ⟨_, rfl⟩
      have hcW : wr.cell? ⟨b, off + k, none⟩ = some (.int .u64 (x : Int)) := by rw [hx]; exact (hb.cell hlb).trans hc
      rw [← hx] at hxl
      have Hx := Lib.hid hx
      clear hx hc
      by_cases h2 : k < L2
      · obtain ⟨b2, off2, rfl, hlb2, hc2, hyl⟩ := HB.out k h2
        obtain ⟨y, hy⟩ : ∃ y, y = lb.getD k 0 := ⟨_, rfl⟩
        have hcW2 : wr.cell? ⟨b2, off2 + k, none⟩ = some (.int .u64 (y : Int)) := by rw [hy]; exact (hb.cell hlb2).trans hc2
        rw [← hy] at hyl
        have Hy := Lib.hid hy
        clear hy hc2
        have Hls : Hid (u64s O ++ [Value.int .u64 (((x : Int) + 65536 - (C : Int) - (y : Int)) % 65536)] = u64s (O ++ [(x + 65536 - C - y) % 65536])) := by
          show _ = _
          have : (x : Int) + 65536 - (C : Int) - (y : Int) = ((x + 65536 - C - y : Nat) : Int) := by omega
          simp [u64s, this]
        have Hst := Lib.hid (hinv.out.step Hx.out Hy.out hxl hyl)
        have Hcc : Hid ((1 : Int) - ((x : Int) + 65536 - (C : Int) - (y : Int)) / 65536 = ((1 - (x + 65536 - C - y) / 65536 : Nat) : Int)) := by show _ = _; omega
        clear hinv
        go_wp2_with (at_builtin; refine app_one rfl (.tmp 35) (.tmp 38) 27 rfl w.heap.size 22 i0 _ 8 Try.underlying27 hi0 hz0 hz1 hz2 rfl _ _ _ rfl hown _ 1 rfl rfl Hl1.out Hl2.out hbs ?_)
        intro v1 w1 h2 h3 _
        rw [Hls.out] at h2
        have hb2 := below_of_grown hb hown h3 hbs
        clear h3 hown hb
        go_wp2
        go_roundw
        case rel => exact ⟨k + 1, _, O ++ [(x + 65536 - C - y) % 65536], h1, by go_num, by rw [Hcc.out], Hst.out, h2, hb2⟩
        case measure => simp [intOf] <;> omega
      · have Hy : Hid (0 = lb.getD k 0) := (getD_ge lb k (by have := H2.out; omega)).symm
        have hyl : 0 < 65536 := by omega
        have Hls : Hid (u64s O ++ [Value.int .u64 (((x : Int) + 65536 - (C : Int)) % 65536)] = u64s (O ++ [(x + 65536 - C - 0) % 65536])) := by
          show _ = _
          have : (x : Int) + 65536 - (C : Int) = ((x + 65536 - C : Nat) : Int) := by omega
          simp [u64s, this]
        have Hst := Lib.hid (hinv.out.step Hx.out Hy.out hxl hyl)
        have Hcc : Hid ((1 : Int) - ((x : Int) + 65536 - (C : Int)) / 65536 = ((1 - (x + 65536 - C - 0) / 65536 : Nat) : Int)) := by show _ = _; omega
        clear hinv
        go_wp2_with (at_builtin; refine app_one rfl (.tmp 35) (.tmp 38) 27 rfl w.heap.size 22 i0 _ 8 Try.underlying27 hi0 hz0 hz1 hz2 rfl _ _ _ rfl hown _ 1 rfl rfl Hl1.out Hl2.out hbs ?_)
        intro v1 w1 h2 h3 _
        rw [Hls.out] at h2
        have hb2 := below_of_grown hb hown h3 hbs
        clear h3 hown hb
        go_wp2
        go_roundw
        case rel => exact ⟨k + 1, _, O ++ [(x + 65536 - C - 0) % 65536], h1, by go_num, by rw [Hcc.out], Hst.out, h2, hb2⟩
        case measure => simp [intOf] <;> omega
    · obtain rfl : k = L1 := by omega
      have hv := hinv.out.last (by have := H1.out; omega) (by have := H2.out; omega) Hle.out
      have hlen2 := hinv.out.len
      obtain ⟨a1, c1, rfl, hWd⟩ := own_wd hown hlen2.symm hinv.out.dig (by omega)
      have Hv := Lib.hid hv
      have HL := Lib.hid hlen2
      have HWd := Lib.hid hWd
      clear hv hlen2 hWd hinv hown
      go_wp2_with fail
      go_ret
      exact ⟨a1, c1, O, rfl, HWd.out, ⟨Hv.out, HL.out⟩, hb⟩
end Go.Proofs.Ytcfkhgpcamfecaa
