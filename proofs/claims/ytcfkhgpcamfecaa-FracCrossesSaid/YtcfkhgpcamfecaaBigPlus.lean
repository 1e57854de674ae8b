/- The reference's big numbers: plus. -/
import Derived.Test.YtcfkhgpcamfecaaBigWord
import Derived.Outline
namespace Go.Proofs.Ytcfkhgpcamfecaa
open Go.RowKit Big
set_option linter.unusedVariables false
set_option maxRecDepth 100000

/-- A slice of words of which p holds. -/
def SlPost (w : World) (p : List Nat → Prop) (e : Ending) (w' : World) : Prop := ∃ a c O, e = .returned (.slice a O.length c) ∧ Wd w' w'.heap.size a c O ∧ p O ∧ Below w.heap.size w w'
theorem Wd.cellOf {w : World} {B : Nat} {a : Option Addr} {c : Nat} {l : List Nat} (h : Wd w B a c l) : ∀ i, i < l.length → ∃ b off, a = some ⟨b, off, none⟩ ∧ b < B ∧ w.cell? ⟨b, off + i, none⟩ = some (.int .u64 ((l.getD i 0 : Nat) : Int)) ∧ l.getD i 0 < 65536 := fun i hi => by
  obtain ⟨b, off, e, hb, hc⟩ := h.1.cell i hi
  exact ⟨b, off, e, hb, hc, h.2.1.get i⟩
theorem getD_ge (l : List Nat) (k : Nat) (h : l.length ≤ k) : l.getD k 0 = 0 := by simp [List.getElem?_eq_none h]

set_option maxHeartbeats 4000000 in
theorem plus_any (M : Nat) (a : Option Addr) (c : Nat) (la : List Nat) (a' : Option Addr) (c' : Nat) (lb : List Nat) (w : World) (ha : Wd w w.heap.size a c la) (hb : Wd w w.heap.size a' c' lb) (hla : la.length ≤ M) (hlb : lb.length ≤ M) (hM : M ≤ 1000) :
    Calls Try.prog 61 #[.slice a la.length c, .slice a' lb.length c'] w (SlPost w fun O => val O = val la + val lb ∧ O.length ≤ M + 1) := by
  obtain ⟨i0, hi0, hz0, hz1, hz2⟩ := info_parts u64info
  have HA := Lib.hid ha.cellOf
  have HB := Lib.hid hb.cellOf
  have Hstop : Hid (∀ k c O, PlusInv la lb k c O → M < k → c = 0) := fun k c O h => h.stop ha.2.1 hb.2.1 hla hlb
  clear ha hb
  obtain ⟨L1, hL1⟩ : ∃ L1, L1 = la.length := ⟨_, rfl⟩
  obtain ⟨L2, hL2⟩ : ∃ L2, L2 = lb.length := ⟨_, rfl⟩
  rw [← hL1] at hla HA ⊢
  rw [← hL2] at hlb HB ⊢
  have H1 := Lib.hid hL1
  have H2 := Lib.hid hL2
  clear hL1 hL2
  go_enter Try.func61, Try.ntmps61
  go_wp2_with fail
  go_loopw [5, 6, 7] (fun v cc i W => ∃ (k C : Nat) (O : List Nat), k ≤ M + 1 ∧ i = .int .i64 (k : Int) ∧ cc = .int .u64 (C : Int) ∧ Hid (PlusInv la lb k C O) ∧ W.ownsRow w.heap.size 22 1 v k (u64s O) ∧ Below w.heap.size w W) (fun _ _ i _ => M + 2 - (intOf i).toNat)
  case atStart => exact ⟨0, 0, [], by omega, rfl, rfl, PlusInv.zero la lb, ⟨rfl, .inl ⟨rfl, rfl⟩⟩, Below.refl _ _⟩
  case round =>
    obtain ⟨k, C, O, hk, rfl, rfl, hinv, hown, hb⟩ := hrel
    have hC := hinv.out.carry
    have hbs := hb.size
    have Hl1 : Hid (k + 1 ≤ maxLen) := by unfold Hid maxLen; omega
    have Hl2 : Hid ((k + 1) * 8 ≤ 140737488355328) := by unfold Hid; omega
    by_cases h1 : k < L1
    · by_cases h2 : k < L2
      · obtain ⟨b, off, rfl, hlb, hc, hxl⟩ := HA.out k h1
        obtain ⟨x, hx⟩ : ∃ x, x = la.getD k 0 := ⟨_, rfl⟩
        have hcW : wr.cell? ⟨b, off + k, none⟩ = some (.int .u64 (x : Int)) := by rw [hx]; exact (hb.cell hlb).trans hc
        rw [← hx] at hxl
        have Hx := Lib.hid hx
        clear hx hc
        obtain ⟨b2, off2, rfl, hlb2, hc2, hyl⟩ := HB.out k h2
        obtain ⟨y, hy⟩ : ∃ y, y = lb.getD k 0 := ⟨_, rfl⟩
        have hcW2 : wr.cell? ⟨b2, off2 + k, none⟩ = some (.int .u64 (y : Int)) := by rw [hy]; exact (hb.cell hlb2).trans hc2
        rw [← hy] at hyl
        have Hy := Lib.hid hy
        clear hy hc2
        have Hls : Hid (u64s O ++ [Value.int .u64 (((C : Int) + x + y) % 65536)] = u64s (O ++ [(C + x + y) % 65536])) := by
          show _ = _
          simp [u64s]
        have Hst := Lib.hid (hinv.out.step Hx.out Hy.out hxl hyl)
        have HkM : Hid (k + 1 ≤ M + 1) := by
          show _ ≤ _
          omega
        clear hinv
        go_wp2_with (at_builtin; refine app_one rfl (.tmp 44) (.tmp 47) 27 rfl w.heap.size 22 i0 _ 8 Try.underlying27 hi0 hz0 hz1 hz2 rfl _ _ _ rfl hown _ 1 rfl rfl Hl1.out Hl2.out hbs ?_)
        intro v1 w1 h2 h3 _
        rw [Hls.out] at h2
        have hb2 := below_of_grown hb hown h3 hbs
        clear h3 hown hb
        go_wp2
        go_roundw
        case rel => exact ⟨k + 1, (C + x + y) / 65536, O ++ [(C + x + y) % 65536], HkM.out, by go_num, by simp, Hst.out, h2, hb2⟩
        case measure => have := HkM.out; simp [intOf] <;> omega
      · obtain ⟨b, off, rfl, hlb, hc, hxl⟩ := HA.out k h1
        obtain ⟨x, hx⟩ : ∃ x, x = la.getD k 0 := ⟨_, rfl⟩
        have hcW : wr.cell? ⟨b, off + k, none⟩ = some (.int .u64 (x : Int)) := by rw [hx]; exact (hb.cell hlb).trans hc
        rw [← hx] at hxl
        have Hx := Lib.hid hx
        clear hx hc
        have Hy : Hid (0 = lb.getD k 0) := (getD_ge lb k (by have := H2.out; omega)).symm
        have hyl : 0 < 65536 := by omega
        have Hls : Hid (u64s O ++ [Value.int .u64 (((C : Int) + x) % 65536)] = u64s (O ++ [(C + x + 0) % 65536])) := by
          show _ = _
          simp [u64s]
        have Hst := Lib.hid (hinv.out.step Hx.out Hy.out hxl hyl)
        have HkM : Hid (k + 1 ≤ M + 1) := by
          show _ ≤ _
          omega
        clear hinv
        go_wp2_with (at_builtin; refine app_one rfl (.tmp 44) (.tmp 47) 27 rfl w.heap.size 22 i0 _ 8 Try.underlying27 hi0 hz0 hz1 hz2 rfl _ _ _ rfl hown _ 1 rfl rfl Hl1.out Hl2.out hbs ?_)
        intro v1 w1 h2 h3 _
        rw [Hls.out] at h2
        have hb2 := below_of_grown hb hown h3 hbs
        clear h3 hown hb
        go_wp2
        go_roundw
        case rel => exact ⟨k + 1, (C + x + 0) / 65536, O ++ [(C + x + 0) % 65536], HkM.out, by go_num, by simp, Hst.out, h2, hb2⟩
        case measure => have := HkM.out; simp [intOf] <;> omega
    · by_cases h2 : k < L2
      · have Hx : Hid (0 = la.getD k 0) := (getD_ge la k (by have := H1.out; omega)).symm
        have hxl : 0 < 65536 := by omega
        obtain ⟨b2, off2, rfl, hlb2, hc2, hyl⟩ := HB.out k h2
        obtain ⟨y, hy⟩ : ∃ y, y = lb.getD k 0 := ⟨_, rfl⟩
        have hcW2 : wr.cell? ⟨b2, off2 + k, none⟩ = some (.int .u64 (y : Int)) := by rw [hy]; exact (hb.cell hlb2).trans hc2
        rw [← hy] at hyl
        have Hy := Lib.hid hy
        clear hy hc2
        have Hls : Hid (u64s O ++ [Value.int .u64 (((C : Int) + y) % 65536)] = u64s (O ++ [(C + 0 + y) % 65536])) := by
          show _ = _
          simp [u64s]
        have Hst := Lib.hid (hinv.out.step Hx.out Hy.out hxl hyl)
        have HkM : Hid (k + 1 ≤ M + 1) := by
          show _ ≤ _
          omega
        clear hinv
        go_wp2_with (at_builtin; refine app_one rfl (.tmp 44) (.tmp 47) 27 rfl w.heap.size 22 i0 _ 8 Try.underlying27 hi0 hz0 hz1 hz2 rfl _ _ _ rfl hown _ 1 rfl rfl Hl1.out Hl2.out hbs ?_)
        intro v1 w1 h2 h3 _
        rw [Hls.out] at h2
        have hb2 := below_of_grown hb hown h3 hbs
        clear h3 hown hb
        go_wp2
        go_roundw
        case rel => exact ⟨k + 1, (C + 0 + y) / 65536, O ++ [(C + 0 + y) % 65536], HkM.out, by go_num, by simp, Hst.out, h2, hb2⟩
        case measure => have := HkM.out; simp [intOf] <;> omega
      · by_cases hC0 : C = 0
        · subst hC0
          have hv := hinv.out.last (by have := H1.out; omega) (by have := H2.out; omega) rfl
          have hlen := hinv.out.len
          obtain ⟨a1, c1, rfl, hWd⟩ := own_wd hown hlen.symm hinv.out.dig (by omega)
          have Hv := Lib.hid hv
          have HL := Lib.hid hlen
          have HWd := Lib.hid hWd
          clear hv hlen hWd hinv hown
          go_wp2_with fail
          go_ret
          exact ⟨a1, c1, O, rfl, HWd.out, ⟨Hv.out, by rw [HL.out]; omega⟩, hb⟩
        · obtain rfl : C = 1 := by omega
          have hkM : k ≤ M := by
            refine Classical.byContradiction fun hn => ?_
            have := Hstop.out k 1 O hinv.out (by omega)
            omega
          clear hC0
          have Hx : Hid (0 = la.getD k 0) := (getD_ge la k (by have := H1.out; omega)).symm
          have hxl : 0 < 65536 := by omega
          have Hy : Hid (0 = lb.getD k 0) := (getD_ge lb k (by have := H2.out; omega)).symm
          have hyl : 0 < 65536 := by omega
          have Hls : Hid (u64s O ++ [Value.int .u64 1] = u64s (O ++ [(1 + 0 + 0) % 65536])) := by
            show _ = _
            simp [u64s]
          have Hst := Lib.hid (hinv.out.step Hx.out Hy.out hxl hyl)
          have HkM : Hid (k + 1 ≤ M + 1) := by
            show _ ≤ _
            omega
          clear hinv
          go_wp2_with (at_builtin; refine app_one rfl (.tmp 44) (.tmp 47) 27 rfl w.heap.size 22 i0 _ 8 Try.underlying27 hi0 hz0 hz1 hz2 rfl _ _ _ rfl hown _ 1 rfl rfl Hl1.out Hl2.out hbs ?_)
          intro v1 w1 h2 h3 _
          rw [Hls.out] at h2
          have hb2 := below_of_grown hb hown h3 hbs
          clear h3 hown hb
          go_wp2
          go_roundw
          case rel => exact ⟨k + 1, (1 + 0 + 0) / 65536, O ++ [(1 + 0 + 0) % 65536], HkM.out, by go_num, by simp, Hst.out, h2, hb2⟩
          case measure => have := HkM.out; simp [intOf] <;> omega
end Go.Proofs.Ytcfkhgpcamfecaa
