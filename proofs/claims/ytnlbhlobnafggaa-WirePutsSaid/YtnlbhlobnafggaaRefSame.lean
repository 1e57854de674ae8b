/- Walks over layer 7: the reference's Same of any two lists of fields. -/
import Derived.Test.YtnlbhlobnafggaaSameG
namespace Go.Proofs.Ytnlbhlobnafggaa
open Go.RowKit Var
set_option linter.unusedVariables false
set_option maxRecDepth 100000

set_option maxHeartbeats 16000000 in
theorem refSame_any (a b : Option Addr) (c d : Nat) (l m : List G) (w : World) (ha : GAt w w.heap.size a l) (hb : GAt w w.heap.size b m) (hl : l.length ≤ 1000000) (hm : m.length ≤ 1000000) (hld : ∀ g ∈ l, ∀ x ∈ g.data, x < 256) (hmd : ∀ g ∈ m, ∀ x ∈ g.data, x < 256) :
    Calls Try.prog 20 #[.slice a l.length c, .slice b m.length d] w (Says (sm l m) w) := by
  by_cases hlen : l.length = m.length
  · obtain ⟨L, hL⟩ : ∃ L, L = l.length := ⟨_, rfl⟩
    have HL : Hid (L = l.length) := hL
    have HM : Hid (L = m.length) := hL.trans hlen
    have HA := Lib.hid ha
    have HB := Lib.hid hb
    have HLD := Lib.hid hld
    have HMD := Lib.hid hmd
    have He : Hid (sm (l.drop L) (m.drop L) = true) := by show _ = _; rw [List.drop_eq_nil_of_le (by omega), List.drop_eq_nil_of_le (by omega)]; rfl
    obtain ⟨R, hR⟩ : ∃ R, sm l m = R := ⟨_, rfl⟩
    have H0 : Hid (sm (l.drop 0) (m.drop 0) = R) := by show _ = _; simpa using hR
    rw [hR, ← hlen, ← hL]
    rw [← hL] at hl
    clear hL ha hb hld hmd hlen hm hR
    have hLL : ((L : Int) != (L : Int)) = false := by simp
    go_enter Try.func20, Try.ntmps20
    go_wp2_with fail
    go_loopw [5] (fun i W => ∃ k : Nat, k ≤ L ∧ i = .int .i64 (k : Int) ∧ Hid (sm (l.drop k) (m.drop k) = R) ∧ Hid (Below w.heap.size w W)) (fun i _ => L - (intOf i).toNat)
    case atStart => exact ⟨0, Nat.zero_le _, rfl, H0, Below.refl _ _⟩
    case round =>
      obtain ⟨k, hk, rfl, hs, hbw⟩ := hrel
      by_cases hlt : k < L
      · have hkl : k < l.length := by have := HL.out; omega
        have hkm : k < m.length := by have := HM.out; omega
        obtain ⟨b1, o1, ad1, cc1, rfl, h1, p0, p1, p2, p3, pd⟩ := (HA.out.below hbw.out) k hkl
        obtain ⟨b2, o2, ad2, cc2, rfl, h2, q0, q1, q2, q3, qd⟩ := (HB.out.below hbw.out) k hkm
        have hd1 := HLD.out l[k] (List.getElem_mem hkl)
        have hd2 := HMD.out m[k] (List.getElem_mem hkm)
        have hs2 := hs.out
        rw [sm_drop hkl hkm] at hs2
        generalize l[k]'hkl = f at *
        generalize m[k]'hkm = g at *
        obtain ⟨n1, k1, i1, d1⟩ := f
        obtain ⟨n2, k2, i2, d2⟩ := g
        simp only at p0 p1 p2 p3 q0 q1 q2 q3 pd qd hd1 hd2
        have S1 := Lib.hid (str_drew (c := cc1) pd hd1)
        have S2 := Lib.hid (str_drew (c := cc2) qd hd2)
        have Hs2 := Lib.hid hs2
        have hk0 : (0 : Int) ≤ (k : Int) := by omega
        have hk1 : (k : Int) < (L : Int) := by omega
        generalize d1.length = m1 at *
        generalize d2.length = m2 at *
        clear pd qd hd1 hd2 hs hs2
        have fin : Hid (∀ S, sm1 ⟨n1, k1, i1, d1⟩ ⟨n2, k2, i2, d2⟩ = S → (S = false → false = R) ∧ (S = true → Hid (sm (l.drop (k + 1)) (m.drop (k + 1)) = R))) := fun S h => by
          have := Hs2.out
          rw [h] at this
          exact ⟨fun e => by subst e; simpa using this, fun e => by subst e; simpa [Hid] using this⟩
        clear Hs2
        by_cases hn : n1 = n2
        · subst hn
          by_cases hkk : k1 = k2
          · subst hkk
            have q1' : (n1 != n1) = false := by simp
            have q2' : (k1 != k1) = false := by simp
            by_cases hk2 : k1 = 2
            · subst hk2
              have e : sm1 ⟨n1, 2, i1, d1⟩ ⟨n1, 2, i2, d2⟩ = sb d1 d2 := by simp [sm1]
              cases hS : sb d1 d2
              · have HR := Lib.hid ((fin.out _ (e.trans hS)).1 rfl)
                have hse : ((strOf d1).toList == (strOf d2).toList) = false := hS
                have hss : ((strOf d1).toList != (strOf d2).toList) = true := by simp only [bne, hse]; rfl
                have Hss := Lib.hid hss
                have Hse := Lib.hid hse
                clear e hS hss hse fin
                go_wp2_with fail
                go_quiet (fail)
                go_wp2_with fail
                have s1 := S1.out
                have s2 := S2.out
                have hss := Hss.out
                have hse := Hse.out
                go_quiet (fail)
                clear s1 s2 hss hse
                go_wp2_with fail
                go_ret
                exact ⟨by rw [← HR.out]; rfl, by first | exact belowDrewN hbw.out _ | exact belowDrewN (belowDrewN hbw.out _) _⟩
              · have HR := (fin.out _ (e.trans hS)).2 rfl
                have hse : ((strOf d1).toList == (strOf d2).toList) = true := hS
                have hss : ((strOf d1).toList != (strOf d2).toList) = false := by simp only [bne, hse]; rfl
                have Hss := Lib.hid hss
                have Hse := Lib.hid hse
                clear e hS hss hse fin
                go_wp2_with fail
                go_quiet (fail)
                go_wp2_with fail
                have s1 := S1.out
                have s2 := S2.out
                have hss := Hss.out
                have hse := Hse.out
                go_quiet (fail)
                clear s1 s2 hss hse
                go_wp2_with fail
                go_roundw
                case rel => exact ⟨k + 1, hlt, by go_num, HR, belowDrewN hbw.out _⟩
                case measure => simp [intOf]; omega
            · have hk3 : (k1 == 2) = false := by simp [hk2]
              have hk4 : (k1 != 2) = true := by simp [hk2]
              by_cases hi : i1 = i2
              · subst hi
                have HR := (fin.out true (by simp [sm1, hk2])).2 rfl
                have hii : ((i1 : Int) != (i1 : Int)) = false := by simp
                clear fin hk2
                go_wp2_with fail
                go_quiet (fail)
                go_wp2_with fail
                go_quiet (fail)
                go_wp2_with fail
                go_roundw
                case rel => exact ⟨k + 1, hlt, by go_num, HR, belowDrewN hbw.out _⟩
                case measure => simp [intOf]; omega
              · have HR := Lib.hid ((fin.out false (by simp [sm1, hk2, hi])).1 rfl)
                have hii : ((i1 : Int) != (i2 : Int)) = true := by simp; omega
                clear fin hk2 hi
                go_wp2_with fail
                go_quiet (fail)
                go_wp2_with fail
                go_quiet (fail)
                go_wp2_with fail
                go_ret
                exact ⟨by rw [← HR.out]; rfl, by first | exact belowDrewN hbw.out _ | exact belowDrewN (belowDrewN hbw.out _) _⟩
          · have HR := Lib.hid ((fin.out false (by simp [sm1, hkk])).1 rfl)
            have q1' : (n1 != n1) = false := by simp
            have q2' : (k1 != k2) = true := by simp [hkk]
            clear fin hkk
            go_wp2_with fail
            go_quiet (fail)
            go_wp2_with fail
            go_ret
            exact ⟨by rw [← HR.out]; rfl, by first | exact belowDrewN hbw.out _ | exact belowDrewN (belowDrewN hbw.out _) _⟩
        · have HR := Lib.hid ((fin.out false (by simp [sm1, hn])).1 rfl)
          have q1' : (n1 != n2) = true := by simp [hn]
          clear fin hn
          go_wp2_with fail
          go_quiet (fail)
          go_wp2_with fail
          go_ret
          exact ⟨by rw [← HR.out]; rfl, by first | exact belowDrewN hbw.out _ | exact belowDrewN (belowDrewN hbw.out _) _⟩
      · obtain rfl : k = L := by omega
        have hR : true = R := by have := hs.out; rw [He.out] at this; exact this
        have HR := Lib.hid hR
        clear hR hs
        go_wp2_with fail
        go_ret
        exact ⟨by rw [← HR.out]; rfl, hbw.out⟩
  · rw [sm_len l m hlen]
    have hne : ((l.length : Int) != (m.length : Int)) = true := by simp; omega
    generalize l.length = L at *
    generalize m.length = M at *
    clear hlen ha hb hld hmd
    go_enter Try.func20, Try.ntmps20
    go_wp2_with fail
    go_ret
    exact ⟨rfl, Below.refl _ _⟩

/-! Is a list too long? -/
def total : List G → Nat
  | [] => 0
  | g :: r => g.data.length + total r
theorem total_take (l : List G) (k : Nat) (h : k < l.length) : total (l.take (k + 1)) = total (l.take k) + l[k].data.length := by
  have : ∀ (xs ys : List G), total (xs ++ ys) = total xs + total ys := by
    intro xs ys
    induction xs with
    | nil => simp [total]
    | cons x xs ih => simp only [List.cons_append, total, ih]; omega
  rw [List.take_succ_eq_append_getElem h, this]
  simp [total]
def LongPost (w : World) (l : List G) (e : Ending) (w' : World) : Prop := ∃ b, e = .returned (.bool b) ∧ (b = false → l.length ≤ 100 ∧ total l ≤ 2000) ∧ w = w'

set_option maxHeartbeats 4000000 in
theorem long_any (a : Option Addr) (c : Nat) (l : List G) (w : World) (ha : GAt w w.heap.size a l) (hlc : l.length ≤ c) (hc : c ≤ maxLen) (hd : ∀ g ∈ l, g.data.length ≤ 140737488355328) :
    Calls Try.prog 22 #[.slice a l.length c] w (LongPost w l) := by
  unfold maxLen at hc
  obtain ⟨L, hL⟩ : ∃ L, L = l.length := ⟨_, rfl⟩
  have HL : Hid (L = l.length) := hL
  have HA := Lib.hid ha
  have Ht : Hid (∀ k (h : k < l.length), total (l.take (k + 1)) = total (l.take k) + l[k].data.length) := fun k h => total_take l k h
  have He : Hid (l.take L = l) := by show _ = _; rw [hL]; simp
  have HD := Lib.hid hd
  have hLm : L ≤ 9223372036854775807 := by omega
  rw [← hL]
  clear hL ha hd hlc hc
  go_enter Try.func22, Try.ntmps22
  go_wp2_with fail
  go_loop [3, 4] (fun n i => ∃ k : Nat, k ≤ L ∧ k ≤ 100 ∧ i = .int .i64 (k : Int) ∧ n = .int .i64 ((total (l.take k) : Nat) : Int) ∧ total (l.take k) ≤ 2000) (fun _ i => 100 - (intOf i).toNat)
  case atStart => exact ⟨0, Nat.zero_le _, Nat.zero_le _, rfl, rfl, by simp [total]⟩
  case round =>
    obtain ⟨k, hk, hk100, rfl, rfl, ht⟩ := hrel
    have hl0 : (0 : Int) ≤ ((total (l.take k) : Nat) : Int) := by omega
    by_cases hlt : k < L
    · by_cases h100 : k < 100
      · have hkl : k < l.length := by have := HL.out; omega
        obtain ⟨b, off, ad, cc, rfl, hbl, c0, c1, c2, c3, hdn⟩ := HA.out k hkl
        have hs := Ht.out k hkl
        have hb := HD.out l[k] (List.getElem_mem hkl)
        generalize l[k]'hkl = g at *
        generalize g.data.length = m at *
        have HS := Lib.hid hs
        have hk0 : (0 : Int) ≤ (k : Int) := by omega
        have hk1 : (k : Int) < (L : Int) := by omega
        clear hdn c0 c1 c2
        generalize total (l.take k) = t at *
        by_cases hbig : 2000 < t + m
        · have hbg : decide ((2000 : Int) < (t : Int) + (m : Int)) = true := decide_eq_true (by omega)
          clear hs hbig
          go_wp2_with fail
          go_ret
          exact ⟨_, rfl, (fun e => by cases e), rfl⟩
        · have hbg : decide ((2000 : Int) < (t : Int) + (m : Int)) = false := decide_eq_false (by omega)
          have ht2 : total (l.take (k + 1)) ≤ 2000 := by rw [HS.out]; omega
          clear hs
          go_wp2_with fail
          go_round
          case rel => exact ⟨k + 1, hlt, h100, by go_num, by rw [HS.out]; go_num, ht2⟩
          case measure => simp [intOf]; omega
      · obtain rfl : k = 100 := by omega
        have hL1 : decide (100 < L) = true := decide_eq_true (by omega)
        go_wp2_with fail
        go_ret
        exact ⟨true, by first | rfl | exact ret_bool (by first | exact hL1 | (simp; omega)), (fun e => by cases e), rfl⟩
    · obtain rfl : k = L := by omega
      have ht' := ht
      rw [He.out] at ht'
      have HF : Hid (k ≤ 100 ∧ total l ≤ 2000) := ⟨hk100, ht'⟩
      have hL1 : decide (100 < k) = false := decide_eq_false (by omega)
      clear ht ht' hl0
      go_wp2_with fail
      go_ret
      exact ⟨false, by first | rfl | exact ret_bool (by first | exact hL1 | (simp; omega)), fun _ => ⟨by have := HL.out; have := HF.out.1; omega, HF.out.2⟩, rfl⟩
end Go.Proofs.Ytnlbhlobnafggaa
