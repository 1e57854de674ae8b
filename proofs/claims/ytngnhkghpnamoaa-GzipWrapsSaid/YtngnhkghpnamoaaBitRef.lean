/- BitRef -/
import Derived.Test.YtngnhkghpnamoaaGc26
namespace Go.Proofs.Ytngnhkghpnamoaa
open Go.RowKit Bit
set_option linter.unusedVariables false

theorem num_take_succ (l : List Bool) (k : Nat) (h : k < l.length) : num (l.take (k + 1)) = num (l.take k) + (l[k]?.getD false).toNat * 2 ^ k := by
  rw [List.take_add_one, num_append, List.length_take, Nat.min_eq_left (by omega), List.getElem?_eq_getElem h]
  simp [num]

set_option maxHeartbeats 4000000 in
theorem refBytes_any (l : List Bool) (a : Option Addr) (c : Nat) (w : World) (h : Vals w w.heap.size 1 a l.length (bools l)) (hl : l.length ≤ 1000000) :
    Calls Try.prog 36 #[.slice a l.length c] w
      fun e w' => ∃ v, e = .returned v ∧ w'.ownsRow w.heap.size 5 1 v (bytesOf (num l) l.length).length (u8s (bytesOf (num l) l.length)) ∧ Below w.heap.size w w' := by
  obtain ⟨i0, hi0, hz0, hz1, hz2⟩ := info_parts u8info
  obtain ⟨m, hm⟩ : ∃ m, m = l.length := ⟨_, rfl⟩
  have hcell : ∀ k, k < m → ∃ b off, a = some ⟨b, off, none⟩ ∧ b < w.heap.size ∧ w.cell? ⟨b, off + k, none⟩ = some (.bool (l[k]?.getD false)) := by
    intro k hk
    obtain ⟨hl1, h1⟩ := h
    have hlen : (bools l).length = m := by rw [hm]; simp [bools]
    obtain ⟨b, off, rfl, hb, h2⟩ := h1 (by omega)
    refine ⟨b, off, rfl, hb, ?_⟩
    rw [h2 k (by omega)]
    simp [bools, List.getElem?_eq_getElem (show k < l.length by omega)]
  have hend : num l = num (l.take m) := by rw [hm, List.take_length]
  have hnum : ∀ k, k < m → num (l.take (k + 1)) = num (l.take k) + (l[k]?.getD false).toNat * 2 ^ k := fun k hk => num_take_succ l k (by omega)
  have hlt : ∀ k, k ≤ m → num (l.take k) < 2 ^ k := fun k hk => by have := num_lt (l.take k); rwa [List.length_take, Nat.min_eq_left (by omega)] at this
  rw [← hm] at hl ⊢
  rw [hend]
  have Hnum := Lib.hid hnum
  have Hlt := Lib.hid hlt
  have Hcell := Lib.hid hcell
  clear hcell hnum hlt hend h hm
  go_enter Try.func36, Try.ntmps36
  go_wp2_with fail
  go_loopw [3, 4] (fun v i W => ∃ k : Nat, k ≤ m ∧ i = .int .i64 (k : Int) ∧ W.ownsRow w.heap.size 5 1 v (bytesOf (num (l.take k)) k).length (u8s (bytesOf (num (l.take k)) k)) ∧ Below w.heap.size w W) (fun _ i _ => m - (intOf i).toNat)
  case atStart => exact ⟨0, by omega, rfl, ⟨rfl, .inl ⟨rfl, rfl⟩⟩, Below.refl _ _⟩
  case round =>
    obtain ⟨k, hk, rfl, hown, hb⟩ := hrel
    by_cases hlt : k < m
    · obtain ⟨b, off, rfl, hlb, hc⟩ := Hcell.out k hlt
      have hcW : wr.cell? ⟨b, off + k, none⟩ = some (.bool (l[k]?.getD false)) := (hb.cell hlb).trans hc
      have hN := Hlt.out k (by omega)
      have hnx := Hnum.out k hlt
      generalize l[k]?.getD false = bb at *
      have HN := Lib.hid hN
      have Hnx := Lib.hid hnx
      clear hN hnx
      generalize num (l.take k) = N at *
      have hbs := hb.size
      by_cases h0 : k % 8 = 0
      · have h8 : (k : Int) % 8 = 0 := by omega
        have hlen : (bytesOf N k).length = k / 8 := by rw [bytesOf, bytesTo_length]; omega
        have Hl1 : Hid ((bytesOf N k).length + 1 ≤ maxLen) := by unfold Hid maxLen; omega
        have Hl2 : Hid (((bytesOf N k).length + 1) * 1 ≤ 140737488355328) := by unfold Hid; omega
        have Hlen := Lib.hid hlen; clear hlen
        go_wp2_with (at_builtin; refine app_one rfl (.tmp 16) (.tmp 17) 22 rfl w.heap.size 5 i0 _ 1 Try.underlying22 hi0 hz0 hz1 hz2 rfl _ _ _ rfl hown _ 1 rfl rfl Hl1.out Hl2.out hbs ?_)
        intro v2 w2 h2 h3 _
        have hb2 := below_of_grown hb hown h3 hbs
        have hcW2 : w2.cell? ⟨b, off + k, none⟩ = some (.bool bb) := (hb2.cell hlb).trans hc
        have hown2 : w2.ownsRow w.heap.size 5 1 v2 (k / 8 + 1) (u8s (bytesTo N (k / 8 + 1))) := by
          rw [ext_zero N k HN.out h0]
          rw [Hlen.out] at h2
          simpa [u8s] using h2
        clear h2 h3 hown hb hcW h8
        cases bb
        · have hnb : bytesOf (N + false.toNat * 2 ^ k) (k + 1) = bytesTo N (k / 8 + 1) := by
            rw [show N + false.toNat * 2 ^ k = N by simp, bytesOf, show (k + 1 + 7) / 8 = k / 8 + 1 by omega]
          go_wp2_with fail
          go_roundw
          case rel => exact ⟨k + 1, hlt, by go_num, by rw [Hnx.out, hnb, bytesTo_length]; exact hown2, hb2⟩
          case measure => simp [intOf]; omega
        · obtain ⟨r, cap, hr, _, _⟩ := hown2.form (by omega)
          subst hr
          go_wp2_with fail
          obtain ⟨r8, hr8⟩ : ∃ r8, r8 = k % 8 := ⟨_, rfl⟩
          have hri : (k : Int) % 8 = (r8 : Int) := by omega
          have hr9 : r8 < 8 := by omega
          have Hr8 := Lib.hid hr8
          clear h0 hr8
          go_loop [5, 6] (fun p j => ∃ t : Nat, t ≤ r8 ∧ p = .int .i64 ((2 ^ t : Nat) : Int) ∧ j = .int .i64 (t : Int)) (fun _ j => r8 - (intOf j).toNat)
          case atStart => exact ⟨0, by omega, rfl, rfl⟩
          case round =>
            obtain ⟨t, ht, rfl, rfl⟩ := hrel
            have h2 : 2 ^ t ≤ 128 := by
              have := Nat.pow_le_pow_right (n := 2) (by omega) (show t ≤ 7 by omega)
              simpa using this
            by_cases hlt2 : t < r8
            · have hs : 2 * 2 ^ t = 2 ^ (t + 1) := by rw [Nat.pow_succ]; omega
              obtain ⟨z, hz⟩ : ∃ z, z = 2 ^ (t + 1) := ⟨_, rfl⟩
              rw [← hz] at hs
              have Hz := Lib.hid hz
              clear hz
              generalize 2 ^ t = y at *
              have hsy : (2 * (y : Int)) = (z : Int) := by omega
              go_wp2_with fail
              go_round
              case rel => exact ⟨t + 1, hlt2, by rw [← Hz.out], by go_num⟩
              case measure => simp [intOf]; omega
            · obtain rfl : t = r8 := by omega
              have hx := top_lt N k HN.out
              have hx256 : N / 256 ^ (k / 8) % 256 = N / 256 ^ (k / 8) := Nat.mod_eq_of_lt (by have := pow_r k; omega)
              have hput := Lib.hid (put_bytes N k 1 HN.out (by omega))
              rw [hx256, ← Hr8.out] at hput
              rw [← Hr8.out] at hx
              have hcell : w2.cell? ⟨r, k / 8, none⟩ = some (.int .u8 ((N / 256 ^ (k / 8) : Nat) : Int)) := by
                rw [hown2.cellAt (k / 8) (by omega)]
                simp only [u8s, List.getElem?_map, bytesTo_get N (k / 8 + 1) (k / 8) (by omega), Option.map_some]
                rw [hx256]
              have hrl := (hown2.lt r rfl).1
              have fr := hown2.frozenAt (k / 8)
              have hst := hown2.stored (k / 8) (.int .u8 ((N / 256 ^ (k / 8) + 2 ^ t : Nat) : Int))
              have Hst := Lib.hid hst
              clear hst hown2
              generalize N / 256 ^ (k / 8) = x at *
              generalize 2 ^ t = y at *
              obtain ⟨q, hq⟩ : ∃ q, q = k / 8 := ⟨_, rfl⟩
              rw [← hq] at hcell fr Hst hput ⊢
              have Hq := Lib.hid hq
              clear hq
              have hql : (((q + 1 : Nat) : Int) - 1) = (q : Int) := by omega
              have hq0 : (0 : Int) ≤ (q : Int) := by omega
              have hq1 : (q : Int) < ((q + 1 : Nat) : Int) := by omega
              have hwq : wrap64 (q : Int) = (q : Int) := IntWalk.wrap64_in _ ⟨by omega, by have := Hq.out; omega⟩
              go_wp2_with fail
              go_roundw
              case rel =>
                refine ⟨k + 1, hlt, by go_num, ?_, hb2.setCell (p := ⟨r, q, none⟩) hrl _⟩
                rw [Hnx.out, show N + true.toNat * 2 ^ k = N + 1 * 2 ^ k from rfl, hput.out, List.length_set, bytesTo_length]
                have h1 := Hst.out.1
                simpa [u8s, List.map_set] using h1
              case measure => simp [intOf]; omega
      · have h8 : ((k : Int) % 8 == 0) = false := by simp; omega
        have hown2 : wr.ownsRow w.heap.size 5 1 u3 (k / 8 + 1) (u8s (bytesTo N (k / 8 + 1))) := by
          have hlen : (bytesOf N k).length = k / 8 + 1 := by rw [bytesOf, bytesTo_length]; omega
          rw [ext_same N k h0]
          rw [hlen] at hown
          exact hown
        have hb2 := hb
        clear hown hb
        have hcW2 := hcW
        clear hcW
        cases bb
        · have hnb : bytesOf (N + false.toNat * 2 ^ k) (k + 1) = bytesTo N (k / 8 + 1) := by
            rw [show N + false.toNat * 2 ^ k = N by simp, bytesOf, show (k + 1 + 7) / 8 = k / 8 + 1 by omega]
          go_wp2_with fail
          go_roundw
          case rel => exact ⟨k + 1, hlt, by go_num, by rw [Hnx.out, hnb, bytesTo_length]; exact hown2, hb2⟩
          case measure => simp [intOf]; omega
        · obtain ⟨r, cap, hr, _, _⟩ := hown2.form (by omega)
          subst hr
          go_wp2_with fail
          obtain ⟨r8, hr8⟩ : ∃ r8, r8 = k % 8 := ⟨_, rfl⟩
          have hri : (k : Int) % 8 = (r8 : Int) := by omega
          have hr9 : r8 < 8 := by omega
          have Hr8 := Lib.hid hr8
          clear h0 hr8 h8
          go_loop [5, 6] (fun p j => ∃ t : Nat, t ≤ r8 ∧ p = .int .i64 ((2 ^ t : Nat) : Int) ∧ j = .int .i64 (t : Int)) (fun _ j => r8 - (intOf j).toNat)
          case atStart => exact ⟨0, by omega, rfl, rfl⟩
          case round =>
            obtain ⟨t, ht, rfl, rfl⟩ := hrel
            have h2 : 2 ^ t ≤ 128 := by
              have := Nat.pow_le_pow_right (n := 2) (by omega) (show t ≤ 7 by omega)
              simpa using this
            by_cases hlt2 : t < r8
            · have hs : 2 * 2 ^ t = 2 ^ (t + 1) := by rw [Nat.pow_succ]; omega
              obtain ⟨z, hz⟩ : ∃ z, z = 2 ^ (t + 1) := ⟨_, rfl⟩
              rw [← hz] at hs
              have Hz := Lib.hid hz
              clear hz
              generalize 2 ^ t = y at *
              have hsy : (2 * (y : Int)) = (z : Int) := by omega
              go_wp2_with fail
              go_round
              case rel => exact ⟨t + 1, hlt2, by rw [← Hz.out], by go_num⟩
              case measure => simp [intOf]; omega
            · obtain rfl : t = r8 := by omega
              have hx := top_lt N k HN.out
              have hx256 : N / 256 ^ (k / 8) % 256 = N / 256 ^ (k / 8) := Nat.mod_eq_of_lt (by have := pow_r k; omega)
              have hput := Lib.hid (put_bytes N k 1 HN.out (by omega))
              rw [hx256, ← Hr8.out] at hput
              rw [← Hr8.out] at hx
              have hcell : wr.cell? ⟨r, k / 8, none⟩ = some (.int .u8 ((N / 256 ^ (k / 8) : Nat) : Int)) := by
                rw [hown2.cellAt (k / 8) (by omega)]
                simp only [u8s, List.getElem?_map, bytesTo_get N (k / 8 + 1) (k / 8) (by omega), Option.map_some]
                rw [hx256]
              have hrl := (hown2.lt r rfl).1
              have fr := hown2.frozenAt (k / 8)
              have hst := hown2.stored (k / 8) (.int .u8 ((N / 256 ^ (k / 8) + 2 ^ t : Nat) : Int))
              have Hst := Lib.hid hst
              clear hst hown2
              generalize N / 256 ^ (k / 8) = x at *
              generalize 2 ^ t = y at *
              obtain ⟨q, hq⟩ : ∃ q, q = k / 8 := ⟨_, rfl⟩
              rw [← hq] at hcell fr Hst hput ⊢
              have Hq := Lib.hid hq
              clear hq
              have hql : (((q + 1 : Nat) : Int) - 1) = (q : Int) := by omega
              have hq0 : (0 : Int) ≤ (q : Int) := by omega
              have hq1 : (q : Int) < ((q + 1 : Nat) : Int) := by omega
              have hwq : wrap64 (q : Int) = (q : Int) := IntWalk.wrap64_in _ ⟨by omega, by have := Hq.out; omega⟩
              go_wp2_with fail
              go_roundw
              case rel =>
                refine ⟨k + 1, hlt, by go_num, ?_, hb2.setCell (p := ⟨r, q, none⟩) hrl _⟩
                rw [Hnx.out, show N + true.toNat * 2 ^ k = N + 1 * 2 ^ k from rfl, hput.out, List.length_set, bytesTo_length]
                have h1 := Hst.out.1
                simpa [u8s, List.map_set] using h1
              case measure => simp [intOf]; omega
    · obtain rfl : k = m := by omega
      go_wp2_with fail
      go_ret
      exact ⟨_, rfl, hown, hb⟩
end Go.Proofs.Ytngnhkghpnamoaa
