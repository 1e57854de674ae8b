/- Layer 28: what lies below it: what is outside, Right of paths (both), what is inside, Points. -/
import Derived.Test.YtnajladngpphkaaPP
import Derived.Test.YtnajladngpphkaaHeld
import Derived.Laws.StructEq
import Derived.Deep.DeepCutAuto
import Derived.Deep.CutRange
namespace Go.Proofs.Ytnajladngpphkaa
open Go.RowKit
set_option linter.unusedVariables false
set_option maxRecDepth 100000

theorem below_then {B : Nat} {w w1 W : World} (h : Below B w w1) (h2 : Below w1.heap.size w1 W) (hB : B ≤ w1.heap.size) : Below B w W := h.trans (h2.mono hB)
def okC (n : Int) : Bool := decide (-1048576 ≤ n ∧ n ≤ 1048576)
theorem within_any (n : Int) (w : World) : Calls Try.prog 24 #[.int .i64 n] w fun e w' => e = .returned (.bool (okC n)) ∧ w = w' := by
  unfold okC
  by_cases h1 : -1048576 ≤ n
  · by_cases h7 : n ≤ 1048576
    · have e : decide (-1048576 ≤ n ∧ n ≤ 1048576) = true := decide_eq_true ⟨h1, h7⟩
      have d1 : decide (-1048576 ≤ n) = true := decide_eq_true h1
      have d7 : decide (n ≤ 1048576) = true := decide_eq_true h7
      rw [e]
      clear e
      go_enter Try.func24, Try.ntmps24
      go_wp2_with fail
      go_ret
      exact ⟨rfl, rfl⟩
    · have e : decide (-1048576 ≤ n ∧ n ≤ 1048576) = false := decide_eq_false (by omega)
      have d1 : decide (-1048576 ≤ n) = true := decide_eq_true h1
      have d7 : decide (n ≤ 1048576) = false := decide_eq_false h7
      rw [e]
      clear e
      go_enter Try.func24, Try.ntmps24
      go_wp2_with fail
      go_ret
      exact ⟨rfl, rfl⟩
  · have e : decide (-1048576 ≤ n ∧ n ≤ 1048576) = false := decide_eq_false (by omega)
    have d1 : decide (-1048576 ≤ n) = false := decide_eq_false h1
    rw [e]
    clear e
    go_enter Try.func24, Try.ntmps24
    go_wp2_with fail
    go_ret
    exact ⟨rfl, rfl⟩
def leastN (k : Int) : Int := if k = 3 then 3 else if k = 2 then 2 else 1
theorem least_any (k : Int) (w : World) : Calls Try.prog 15 #[.int .i64 k] w fun e w' => e = .returned (.int .i64 (leastN k)) ∧ w = w' := by
  unfold leastN
  by_cases h3 : k = 3
  · subst h3
    rw [if_pos rfl]
    go_enter Try.func15, Try.ntmps15
    go_wp2_with fail
    go_ret
    exact ⟨rfl, rfl⟩
  · have d3 : (k == 3) = false := by simpa using h3
    rw [if_neg h3]
    by_cases h2 : k = 2
    · subst h2
      rw [if_pos rfl]
      go_enter Try.func15, Try.ntmps15
      go_wp2_with fail
      go_ret
      exact ⟨rfl, rfl⟩
    · have d2 : (k == 2) = false := by simpa using h2
      rw [if_neg h2]
      go_enter Try.func15, Try.ntmps15
      go_wp2_with fail
      go_ret
      exact ⟨rfl, rfl⟩
def outP (p : P2) : Bool := !(okC p.1) || !(okC p.2)
theorem outside_any (p : P2) (w : World) : Calls Try.prog 17 #[.agg #[.int .i64 p.1, .int .i64 p.2]] w fun e w' => e = .returned (.bool (outP p)) ∧ Below w.heap.size w w' := by
  obtain ⟨x, y⟩ := p
  have HWi := Lib.hid fun n W => within_any n W
  unfold outP
  cases h1 : okC x with
  | false =>
    go_enter Try.func17, Try.ntmps17
    go_wp2_with fail
    refine (HWi.out _ _).mono ?_
    rintro e X ⟨rfl, rfl⟩
    go_wp2_with fail
    go_ret
    exact ⟨by simp [h1], (Below.refl _ _).alloc (Nat.le_refl _) _⟩
  | true =>
    go_enter Try.func17, Try.ntmps17
    go_wp2_with fail
    refine (HWi.out _ _).mono ?_
    rintro e X ⟨rfl, rfl⟩
    go_wp2_with fail
    refine (HWi.out _ _).mono ?_
    rintro e X ⟨rfl, rfl⟩
    go_wp2_with fail
    go_ret
    exact ⟨by simp [h1], (Below.refl _ _).alloc (Nat.le_refl _) _⟩
theorem any_next {l : List P2} {k : Nat} (h : k < l.length) : (l.drop k).any outP = (outP l[k] || (l.drop (k + 1)).any outP) := by
  rw [List.drop_eq_getElem_cons h]; rfl
/-- The place of the first point that is outside, or -1. -/
theorem indexFunc_any (a : Option Addr) (c : Nat) (l : List P2) (w : World) (hp : PAt w w.heap.size a l) (hl : l.length ≤ 1000000) :
    Calls Try.prog 23 #[.slice a l.length c, .func (.func 17) #[] #[]] w fun e w' => (∃ n : Int, e = .returned (.int .i64 n) ∧ (0 ≤ n ∧ n ≤ 1000000 ∧ l.any outP = true ∨ n = -1 ∧ l.any outP = false)) ∧ Below w.heap.size w w' := by
  obtain ⟨L, hL⟩ : ∃ L, L = l.length := ⟨_, rfl⟩
  have HL := Lib.hid hL
  have HP := Lib.hid hp
  have HO := Lib.hid outside_any
  rw [← hL] at hl ⊢
  clear hL hp
  go_enter Try.func23, Try.ntmps23
  go_wp2_with fail
  go_loopw [8] (fun i W => ∃ k : Nat, k ≤ L ∧ i = .int .i64 (k : Int) ∧ Hid (Below w.heap.size w W) ∧ Hid (l.any outP = (l.drop k).any outP)) (fun i _ => L - (intOf i).toNat)
  case atStart => exact ⟨0, Nat.zero_le _, rfl, Below.refl _ _, rfl⟩
  case round =>
    obtain ⟨k, hk, rfl, hbw, ht⟩ := hrel
    by_cases hlt : k < L
    · have hkl : k < l.length := by have := HL.out; omega
      obtain ⟨b1, o1, rfl, h1, p0, p1⟩ := (HP.out.below hbw.out).at k hkl
      have hn := any_next hkl
      have hOp : ∀ W, Calls Try.prog 17 #[.agg #[.int .i64 (l[k]'hkl).1, .int .i64 (l[k]'hkl).2]] W fun e w' => e = .returned (.bool (outP (l[k]'hkl))) ∧ Below W.heap.size W w' := fun W => HO.out _ W
      generalize l[k]'hkl = f at *
      obtain ⟨x, y⟩ := f
      simp only at p0 p1 hOp
      have hk0 : (0 : Int) ≤ (k : Int) := by omega
      have hk1 : (k : Int) < (L : Int) := by omega
      have Hn := Lib.hid hn
      have HOp := Lib.hid hOp
      clear hn hOp hkl
      go_wp2_with fail
      refine (HOp.out _).mono ?_
      rintro e X ⟨rfl, hX⟩
      have HX := Lib.hid (hbw.out.trans (hX.mono hbw.out.size))
      clear hX p0 p1
      cases ho : outP (x, y) with
      | true =>
        go_wp2_with fail
        go_ret
        exact ⟨⟨_, rfl, .inl ⟨by omega, by omega, by rw [ht.out, Hn.out, ho]; rfl⟩⟩, HX.out⟩
      | false =>
        have Ht2 : Hid (l.any outP = (l.drop (k + 1)).any outP) := by show _ = _; rw [ht.out, Hn.out, ho]; rfl
        go_wp2_with fail
        go_roundw
        case rel => exact ⟨k + 1, by omega, by go_num, HX, Ht2⟩
        case measure => simp [intOf]; omega
    · have hkL : k = L := by omega
      have hf : l.any outP = false := by rw [ht.out, List.drop_eq_nil_of_le (by have := HL.out; omega)]; rfl
      subst hkL
      have Hf := Lib.hid hf
      clear hf
      go_wp2_with fail
      go_ret
      exact ⟨⟨_, rfl, .inr ⟨rfl, Hf.out⟩⟩, hbw.out⟩
theorem containsFunc_any (a : Option Addr) (c : Nat) (l : List P2) (w : World) (hp : PAt w w.heap.size a l) (hl : l.length ≤ 1000000) :
    Calls Try.prog 16 #[.slice a l.length c, .func (.func 17) #[] #[]] w fun e w' => e = .returned (.bool (l.any outP)) ∧ Below w.heap.size w w' := by
  have Hq := Lib.hid (indexFunc_any a c l w hp hl)
  obtain ⟨L, hL⟩ : ∃ L, L = l.length := ⟨_, rfl⟩
  rw [← hL] at Hq ⊢
  obtain ⟨t, ht⟩ : ∃ t, t = l.any outP := ⟨_, rfl⟩
  rw [← ht] at Hq ⊢
  clear hp hL ht hl
  go_enter Try.func16, Try.ntmps16
  go_wp2_with fail
  refine Hq.out.mono ?_
  rintro e X ⟨⟨n, rfl, hn⟩, hX⟩
  have HX := Lib.hid hX
  clear hX
  rcases hn with ⟨h0, h1, rfl⟩ | ⟨rfl, rfl⟩
  · have d0 : decide (0 ≤ n) = true := decide_eq_true h0
    go_wp2_with fail
    go_ret
    exact ⟨by simp [h0], HX.out⟩
  · go_wp2_with fail
    go_ret
    exact ⟨rfl, HX.out⟩
def shortP (K : Int) (l : List P2) : Bool := decide ((l.length : Int) < leastN K)
def rightP (K : Int) (ll : List (List P2)) : Nat :=
  if K < 1 ∨ 3 < K then 1 else if ll.length = 0 ∨ (K = 1 ∧ 1 < ll.length) then 3 else if ll.any (shortP K) = true then 3 else if ll.any (fun l => l.any outP) = true then 8 else 0
theorem any_nextP {f : List P2 → Bool} {l : List (List P2)} {k : Nat} (h : k < l.length) : (l.drop k).any f = (f l[k] || (l.drop (k + 1)).any f) := by
  rw [List.drop_eq_getElem_cons h]; rfl
set_option maxHeartbeats 8000000 in
theorem right_any (K : Int) (u : Value) (ll : List (List P2)) (w : World) (hu : RdPP w w.heap.size u ll) (hlen : ll.length ≤ 1000000) (hin : ∀ l ∈ ll, l.length ≤ 1000000) (hKb : -9223372036854775808 ≤ K ∧ K < 9223372036854775808) :
    Calls Try.prog 13 #[.int .i64 K, u] w fun e w' => e = .returned (.int .i64 (rightP K ll : Int)) ∧ Below w.heap.size w w' := by
  obtain ⟨a, c, rfl, _, _, hP⟩ := hu.at
  obtain ⟨R, hR⟩ : ∃ R, R = rightP K ll := ⟨_, rfl⟩
  rw [← hR]
  have HR := Lib.hid hR
  have HP := Lib.hid hP
  have HIn := Lib.hid hin
  have HLe := Lib.hid fun W => least_any K W
  obtain ⟨L, hL⟩ : ∃ z, z = ll.length := ⟨_, rfl⟩
  have HL := Lib.hid hL
  rw [← hL] at hlen ⊢
  clear hL hu hP hin hR
  by_cases h1 : K < 1
  · have d1 : decide (K < 1) = true := decide_eq_true h1
    have hr : R = 1 := by rw [HR.out]; unfold rightP; rw [if_pos (.inl h1)]
    subst hr
    go_enter Try.func13, Try.ntmps13
    go_wp2_with fail
    go_ret
    exact ⟨rfl, Below.refl _ _⟩
  · have d1 : decide (K < 1) = false := decide_eq_false h1
    by_cases h3 : 3 < K
    · have d3 : decide (3 < K) = true := decide_eq_true h3
      have hr : R = 1 := by rw [HR.out]; unfold rightP; rw [if_pos (.inr h3)]
      subst hr
      go_enter Try.func13, Try.ntmps13
      go_wp2_with fail
      go_ret
      exact ⟨rfl, Below.refl _ _⟩
    · have d3 : decide (3 < K) = false := decide_eq_false h3
      have hr1 : R = if ll.length = 0 ∨ (K = 1 ∧ 1 < ll.length) then 3 else if ll.any (shortP K) = true then 3 else if ll.any (fun l => l.any outP) = true then 8 else 0 := by
        rw [HR.out]; unfold rightP; rw [if_neg (by omega)]
      rw [← HL.out] at hr1
      by_cases h0 : L = 0
      · have d0 : ((L : Int) == 0) = true := by simp; omega
        have hr : R = 3 := by rw [hr1, if_pos (.inl h0)]
        subst hr
        clear hr1 h0
        go_enter Try.func13, Try.ntmps13
        go_wp2_with fail
        go_ret
        exact ⟨rfl, Below.refl _ _⟩
      · have d0 : ((L : Int) == 0) = false := by simp; omega
        by_cases hm : K = 1 ∧ 1 < L
        · obtain ⟨hm1, hm2⟩ := hm
          have dk : (K == 1) = true := by simp [hm1]
          have dm : decide (1 < (L : Int)) = true := decide_eq_true (by omega)
          have hr : R = 3 := by rw [hr1, if_pos (.inr ⟨hm1, hm2⟩)]
          subst hr
          clear hr1 hm1 HR HLe
          go_enter Try.func13, Try.ntmps13
          go_wp2_with fail
          go_ret
          exact ⟨rfl, Below.refl _ _⟩
        · rw [if_neg (by omega)] at hr1
          have HR1 := Lib.hid hr1
          obtain ⟨lN, hlN⟩ : ∃ z, z = leastN K := ⟨_, rfl⟩
          have HlN := Lib.hid hlN
          rw [← hlN] at HLe
          have hlNb : 1 ≤ lN ∧ lN ≤ 3 := by
            rw [hlN]
            unfold leastN
            by_cases e3 : K = 3
            · rw [if_pos e3]; omega
            · rw [if_neg e3]
              by_cases e2 : K = 2
              · rw [if_pos e2]; omega
              · rw [if_neg e2]; omega
          clear hr1 hlN
          by_cases hk1 : K = 1
          · have dk : (K == 1) = true := by simp [hk1]
            have dm : decide (1 < (L : Int)) = false := decide_eq_false (by omega)
            have hLm : ¬ 1 < L := by omega
            clear hm hk1
            go_enter Try.func13, Try.ntmps13
            go_upto_region 5 with (fail)
            go_wp2_with fail
            go_loopw [29] (fun i W => ∃ k : Nat, k ≤ L ∧ i = .int .i64 (k : Int) ∧ Hid (Below w.heap.size w W) ∧ Hid (ll.any (shortP K) = (ll.drop k).any (shortP K))) (fun i _ => L - (intOf i).toNat)
            case atStart => exact ⟨0, Nat.zero_le _, rfl, Below.refl _ _, rfl⟩
            case round =>
              obtain ⟨k, hk, rfl, hbw, ht⟩ := hrel
              by_cases hlt : k < L
              · have hkl : k < ll.length := by have := HL.out; omega
                obtain ⟨b1, o1, ue, rfl, hb1, ce, hRd⟩ := (HP.out.below hbw.out) k hkl
                obtain ⟨ae, cx, rfl, hce, hcm, hPt⟩ := hRd
                have hn := any_nextP (f := shortP K) hkl
                have hil := HIn.out _ (List.getElem_mem hkl)
                have hsh : shortP K ll[k] = decide (((ll[k]'hkl).length : Int) < lN) := by unfold shortP; rw [← HlN.out]
                rw [hsh] at hn
                generalize (ll[k]'hkl).length = m at *
                have hk0 : (0 : Int) ≤ (k : Int) := by omega
                have hk1 : (k : Int) < (L : Int) := by omega
                have Hn := Lib.hid hn
                clear hn hsh hPt hkl
                by_cases hs : (m : Int) < lN
                · have ds : decide ((m : Int) < lN) = true := decide_eq_true hs
                  have hr : R = 3 := by rw [HR1.out, if_pos (by rw [ht.out, Hn.out, ds]; rfl)]
                  subst hr
                  go_wp2_with (go_at_call 15; refine (HLe.out _).mono ?_; rintro e W9 ⟨rfl, rfl⟩)
                  go_ret
                  exact ⟨rfl, hbw.out⟩
                · have ds : decide ((m : Int) < lN) = false := decide_eq_false hs
                  have Ht2 : Hid (ll.any (shortP K) = (ll.drop (k + 1)).any (shortP K)) := by show _ = _; rw [ht.out, Hn.out, ds]; rfl
                  go_wp2_with (go_at_call 15; refine (HLe.out _).mono ?_; rintro e W9 ⟨rfl, rfl⟩)
                  go_roundw
                  case rel => exact ⟨k + 1, by omega, by go_num, hbw, Ht2⟩
                  case measure => simp [intOf]; omega
              · have hkL : k = L := by omega
                have hf : ll.any (shortP K) = false := by rw [ht.out, List.drop_eq_nil_of_le (by have := HL.out; omega)]; rfl
                have hr2 : R = if ll.any (fun l => l.any outP) = true then 8 else 0 := by rw [HR1.out, if_neg (by rw [hf]; simp)]
                have HR2 := Lib.hid hr2
                have hbw0 := hbw
                clear hf hr2 ht
                subst hkL
                go_wp2_with fail
                go_loopw [41] (fun i W => ∃ j : Nat, j ≤ k ∧ i = .int .i64 (j : Int) ∧ Hid (Below w.heap.size w W) ∧ Hid (ll.any (fun l => l.any outP) = (ll.drop j).any (fun l => l.any outP))) (fun i _ => k - (intOf i).toNat)
                case atStart => exact ⟨0, Nat.zero_le _, rfl, hbw0, rfl⟩
                case round =>
                  obtain ⟨j, hj, rfl, hbj, htj⟩ := hrel
                  by_cases hlt2 : j < k
                  · have hkl : j < ll.length := by have := HL.out; omega
                    obtain ⟨b1, o1, ue, rfl, hb1, ce, hRd⟩ := (HP.out.below hbj.out) j hkl
                    obtain ⟨ae, cx, rfl, hce, hcm, hPt⟩ := hRd
                    have hn := any_nextP (f := fun l => l.any outP) hkl
                    have hil := HIn.out _ (List.getElem_mem hkl)
                    have HC := Lib.hid (containsFunc_any ae cx (ll[j]'hkl) _ (hPt.more hbj.out.size) hil)
                    generalize ll[j]'hkl = l0 at *
                    obtain ⟨m, hm⟩ : ∃ z, z = l0.length := ⟨_, rfl⟩
                    rw [← hm] at HC ce
                    obtain ⟨t, htt⟩ : ∃ t, t = l0.any outP := ⟨_, rfl⟩
                    rw [← htt] at HC hn
                    have hk0 : (0 : Int) ≤ (j : Int) := by omega
                    have hk1 : (j : Int) < (k : Int) := by omega
                    have Hn := Lib.hid hn
                    clear hn hPt hkl hm htt hil hce
                    go_wp2_with fail
                    refine HC.out.mono ?_
                    rintro e X ⟨rfl, hX⟩
                    have HX := Lib.hid (hbj.out.trans (hX.mono hbj.out.size))
                    clear hX ce HC
                    cases ho : t with
                    | true =>
                      have hr : R = 8 := by rw [HR2.out, if_pos (by rw [htj.out, Hn.out, ho]; rfl)]
                      subst hr ho
                      go_wp2_with fail
                      go_ret
                      exact ⟨rfl, HX.out⟩
                    | false =>
                      have Ht2 : Hid (ll.any (fun l => l.any outP) = (ll.drop (j + 1)).any (fun l => l.any outP)) := by show _ = _; rw [htj.out, Hn.out, ho]; rfl
                      subst ho
                      go_wp2_with fail
                      go_roundw
                      case rel => exact ⟨j + 1, by omega, by go_num, HX, Ht2⟩
                      case measure => simp [intOf]; omega
                  · have hjk : j = k := by omega
                    have hf : ll.any (fun l => l.any outP) = false := by rw [htj.out, List.drop_eq_nil_of_le (by have := HL.out; omega)]; rfl
                    have hr : R = 0 := by rw [HR2.out, if_neg (by rw [hf]; simp)]
                    subst hr hjk
                    clear hf
                    go_wp2_with fail
                    go_ret
                    exact ⟨rfl, hbj.out⟩
          · have dk : (K == 1) = false := by simpa using hk1
            clear hm hk1
            go_enter Try.func13, Try.ntmps13
            go_upto_region 5 with (fail)
            go_wp2_with fail
            go_loopw [29] (fun i W => ∃ k : Nat, k ≤ L ∧ i = .int .i64 (k : Int) ∧ Hid (Below w.heap.size w W) ∧ Hid (ll.any (shortP K) = (ll.drop k).any (shortP K))) (fun i _ => L - (intOf i).toNat)
            case atStart => exact ⟨0, Nat.zero_le _, rfl, Below.refl _ _, rfl⟩
            case round =>
              obtain ⟨k, hk, rfl, hbw, ht⟩ := hrel
              by_cases hlt : k < L
              · have hkl : k < ll.length := by have := HL.out; omega
                obtain ⟨b1, o1, ue, rfl, hb1, ce, hRd⟩ := (HP.out.below hbw.out) k hkl
                obtain ⟨ae, cx, rfl, hce, hcm, hPt⟩ := hRd
                have hn := any_nextP (f := shortP K) hkl
                have hil := HIn.out _ (List.getElem_mem hkl)
                have hsh : shortP K ll[k] = decide (((ll[k]'hkl).length : Int) < lN) := by unfold shortP; rw [← HlN.out]
                rw [hsh] at hn
                generalize (ll[k]'hkl).length = m at *
                have hk0 : (0 : Int) ≤ (k : Int) := by omega
                have hk1 : (k : Int) < (L : Int) := by omega
                have Hn := Lib.hid hn
                clear hn hsh hPt hkl
                by_cases hs : (m : Int) < lN
                · have ds : decide ((m : Int) < lN) = true := decide_eq_true hs
                  have hr : R = 3 := by rw [HR1.out, if_pos (by rw [ht.out, Hn.out, ds]; rfl)]
                  subst hr
                  go_wp2_with (go_at_call 15; refine (HLe.out _).mono ?_; rintro e W9 ⟨rfl, rfl⟩)
                  go_ret
                  exact ⟨rfl, hbw.out⟩
                · have ds : decide ((m : Int) < lN) = false := decide_eq_false hs
                  have Ht2 : Hid (ll.any (shortP K) = (ll.drop (k + 1)).any (shortP K)) := by show _ = _; rw [ht.out, Hn.out, ds]; rfl
                  go_wp2_with (go_at_call 15; refine (HLe.out _).mono ?_; rintro e W9 ⟨rfl, rfl⟩)
                  go_roundw
                  case rel => exact ⟨k + 1, by omega, by go_num, hbw, Ht2⟩
                  case measure => simp [intOf]; omega
              · have hkL : k = L := by omega
                have hf : ll.any (shortP K) = false := by rw [ht.out, List.drop_eq_nil_of_le (by have := HL.out; omega)]; rfl
                have hr2 : R = if ll.any (fun l => l.any outP) = true then 8 else 0 := by rw [HR1.out, if_neg (by rw [hf]; simp)]
                have HR2 := Lib.hid hr2
                have hbw0 := hbw
                clear hf hr2 ht
                subst hkL
                go_wp2_with fail
                go_loopw [41] (fun i W => ∃ j : Nat, j ≤ k ∧ i = .int .i64 (j : Int) ∧ Hid (Below w.heap.size w W) ∧ Hid (ll.any (fun l => l.any outP) = (ll.drop j).any (fun l => l.any outP))) (fun i _ => k - (intOf i).toNat)
                case atStart => exact ⟨0, Nat.zero_le _, rfl, hbw0, rfl⟩
                case round =>
                  obtain ⟨j, hj, rfl, hbj, htj⟩ := hrel
                  by_cases hlt2 : j < k
                  · have hkl : j < ll.length := by have := HL.out; omega
                    obtain ⟨b1, o1, ue, rfl, hb1, ce, hRd⟩ := (HP.out.below hbj.out) j hkl
                    obtain ⟨ae, cx, rfl, hce, hcm, hPt⟩ := hRd
                    have hn := any_nextP (f := fun l => l.any outP) hkl
                    have hil := HIn.out _ (List.getElem_mem hkl)
                    have HC := Lib.hid (containsFunc_any ae cx (ll[j]'hkl) _ (hPt.more hbj.out.size) hil)
                    generalize ll[j]'hkl = l0 at *
                    obtain ⟨m, hm⟩ : ∃ z, z = l0.length := ⟨_, rfl⟩
                    rw [← hm] at HC ce
                    obtain ⟨t, htt⟩ : ∃ t, t = l0.any outP := ⟨_, rfl⟩
                    rw [← htt] at HC hn
                    have hk0 : (0 : Int) ≤ (j : Int) := by omega
                    have hk1 : (j : Int) < (k : Int) := by omega
                    have Hn := Lib.hid hn
                    clear hn hPt hkl hm htt hil hce
                    go_wp2_with fail
                    refine HC.out.mono ?_
                    rintro e X ⟨rfl, hX⟩
                    have HX := Lib.hid (hbj.out.trans (hX.mono hbj.out.size))
                    clear hX ce HC
                    cases ho : t with
                    | true =>
                      have hr : R = 8 := by rw [HR2.out, if_pos (by rw [htj.out, Hn.out, ho]; rfl)]
                      subst hr ho
                      go_wp2_with fail
                      go_ret
                      exact ⟨rfl, HX.out⟩
                    | false =>
                      have Ht2 : Hid (ll.any (fun l => l.any outP) = (ll.drop (j + 1)).any (fun l => l.any outP)) := by show _ = _; rw [htj.out, Hn.out, ho]; rfl
                      subst ho
                      go_wp2_with fail
                      go_roundw
                      case rel => exact ⟨j + 1, by omega, by go_num, HX, Ht2⟩
                      case measure => simp [intOf]; omega
                  · have hjk : j = k := by omega
                    have hf : ll.any (fun l => l.any outP) = false := by rw [htj.out, List.drop_eq_nil_of_le (by have := HL.out; omega)]; rfl
                    have hr : R = 0 := by rw [HR2.out, if_neg (by rw [hf]; simp)]
                    subst hr hjk
                    clear hf
                    go_wp2_with fail
                    go_ret
                    exact ⟨rfl, hbj.out⟩
theorem rout_any (n : Int) (w : World) : Calls Try.prog 10 #[.int .i64 n] w fun e w' => e = .returned (.bool (!okC n)) ∧ w = w' := by
  unfold okC
  by_cases h1 : n < -1048576
  · have e : (!decide (-1048576 ≤ n ∧ n ≤ 1048576)) = true := by simp; omega
    have d1 : decide (n < -1048576) = true := decide_eq_true h1
    rw [e]
    clear e
    go_enter Try.func10, Try.ntmps10
    go_wp2_with fail
    go_ret
    exact ⟨rfl, rfl⟩
  · have d1 : decide (n < -1048576) = false := decide_eq_false h1
    by_cases h7 : 1048576 < n
    · have e : (!decide (-1048576 ≤ n ∧ n ≤ 1048576)) = true := by simp; omega
      have d7 : decide (1048576 < n) = true := decide_eq_true h7
      rw [e]
      clear e
      go_enter Try.func10, Try.ntmps10
      go_wp2_with fail
      go_ret
      exact ⟨rfl, rfl⟩
    · have e : (!decide (-1048576 ≤ n ∧ n ≤ 1048576)) = false := by simp; omega
      have d7 : decide (1048576 < n) = false := decide_eq_false h7
      rw [e]
      clear e
      go_enter Try.func10, Try.ntmps10
      go_wp2_with fail
      go_ret
      exact ⟨rfl, rfl⟩
set_option maxHeartbeats 8000000 in
theorem rright_any (K : Int) (u : Value) (ll : List (List P2)) (w : World) (hu : RdPP w w.heap.size u ll) (hlen : ll.length ≤ 1000000) (hin : ∀ l ∈ ll, l.length ≤ 1000000) (hKb : -9223372036854775808 ≤ K ∧ K < 9223372036854775808) :
    Calls Try.prog 5 #[.int .i64 K, u] w fun e w' => e = .returned (.int .i64 (rightP K ll : Int)) ∧ Below w.heap.size w w' := by
  obtain ⟨a, c, rfl, _, _, hP⟩ := hu.at
  obtain ⟨R, hR⟩ : ∃ R, R = rightP K ll := ⟨_, rfl⟩
  rw [← hR]
  have HR := Lib.hid hR
  have HP := Lib.hid hP
  have HIn := Lib.hid hin
  have HO := Lib.hid rout_any
  obtain ⟨L, hL⟩ : ∃ z, z = ll.length := ⟨_, rfl⟩
  have HL := Lib.hid hL
  rw [← hL] at hlen ⊢
  clear hL hu hP hin hR
  by_cases h1 : K < 1
  · have d1 : decide (K < 1) = true := decide_eq_true h1
    have hr : R = 1 := by rw [HR.out]; unfold rightP; rw [if_pos (.inl h1)]
    subst hr
    go_enter Try.func5, Try.ntmps5
    go_wp2_with fail
    go_ret
    exact ⟨rfl, Below.refl _ _⟩
  · have d1 : decide (K < 1) = false := decide_eq_false h1
    by_cases h3 : 3 < K
    · have d3 : decide (3 < K) = true := decide_eq_true h3
      have hr : R = 1 := by rw [HR.out]; unfold rightP; rw [if_pos (.inr h3)]
      subst hr
      go_enter Try.func5, Try.ntmps5
      go_wp2_with fail
      go_ret
      exact ⟨rfl, Below.refl _ _⟩
    · have d3 : decide (3 < K) = false := decide_eq_false h3
      have hr1 : R = if ll.length = 0 ∨ (K = 1 ∧ 1 < ll.length) then 3 else if ll.any (shortP K) = true then 3 else if ll.any (fun l => l.any outP) = true then 8 else 0 := by
        rw [HR.out]; unfold rightP; rw [if_neg (by omega)]
      rw [← HL.out] at hr1
      by_cases h0 : L = 0
      · have d0 : ((L : Int) == 0) = true := by simp; omega
        have hr : R = 3 := by rw [hr1, if_pos (.inl h0)]
        subst hr
        clear hr1 h0
        go_enter Try.func5, Try.ntmps5
        go_wp2_with fail
        go_ret
        exact ⟨rfl, Below.refl _ _⟩
      · have d0 : ((L : Int) == 0) = false := by simp; omega
        by_cases hm : K = 1 ∧ 1 < L
        · obtain ⟨hm1, hm2⟩ := hm
          have dk : (K == 1) = true := by simp [hm1]
          have dm : ((L : Int) != 1) = true := by simp; omega
          have hr : R = 3 := by rw [hr1, if_pos (.inr ⟨hm1, hm2⟩)]
          subst hr
          clear hr1 hm1 HR
          go_enter Try.func5, Try.ntmps5
          go_wp2_with fail
          go_ret
          exact ⟨rfl, Below.refl _ _⟩
        · rw [if_neg (by omega)] at hr1
          have HR1 := Lib.hid hr1
          obtain ⟨lN, hlN⟩ : ∃ z, z = leastN K := ⟨_, rfl⟩
          have HlN := Lib.hid hlN
          have hlK : lN = K := by
            rw [hlN]
            unfold leastN
            by_cases e3 : K = 3
            · rw [if_pos e3]; omega
            · rw [if_neg e3]
              by_cases e2 : K = 2
              · rw [if_pos e2]; omega
              · rw [if_neg e2]; omega
          have HlK := Lib.hid hlK
          clear hlK
          have hlNb : 1 ≤ lN ∧ lN ≤ 3 := by
            rw [hlN]
            unfold leastN
            by_cases e3 : K = 3
            · rw [if_pos e3]; omega
            · rw [if_neg e3]
              by_cases e2 : K = 2
              · rw [if_pos e2]; omega
              · rw [if_neg e2]; omega
          clear hr1 hlN
          by_cases hk1 : K = 1
          · have dk : (K == 1) = true := by simp [hk1]
            have dm : ((L : Int) != 1) = false := by simp; omega
            clear hm hk1
            go_enter Try.func5, Try.ntmps5
            go_upto_region 5 with (fail)
            go_wp2_with fail
            go_loopw [5] (fun i W => ∃ k : Nat, k ≤ L ∧ i = .int .i64 (k : Int) ∧ Hid (Below w.heap.size w W) ∧ Hid (ll.any (shortP K) = (ll.drop k).any (shortP K))) (fun i _ => L - (intOf i).toNat)
            case atStart => exact ⟨0, Nat.zero_le _, rfl, Below.refl _ _, rfl⟩
            case round =>
              obtain ⟨k, hk, rfl, hbw, ht⟩ := hrel
              by_cases hlt : k < L
              · have hkl : k < ll.length := by have := HL.out; omega
                obtain ⟨b1, o1, ue, rfl, hb1, ce, hRd⟩ := (HP.out.below hbw.out) k hkl
                obtain ⟨ae, cx, rfl, hce, hcm, hPt⟩ := hRd
                have hn := any_nextP (f := shortP K) hkl
                have hil := HIn.out _ (List.getElem_mem hkl)
                have hsh : shortP K ll[k] = decide (((ll[k]'hkl).length : Int) < K) := by unfold shortP; rw [← HlN.out, HlK.out]
                rw [hsh] at hn
                generalize (ll[k]'hkl).length = m at *
                have hk0 : (0 : Int) ≤ (k : Int) := by omega
                have hk1 : (k : Int) < (L : Int) := by omega
                have Hn := Lib.hid hn
                clear hn hsh hPt hkl
                by_cases hs : (m : Int) < K
                · have ds : decide ((m : Int) < K) = true := decide_eq_true hs
                  have hr : R = 3 := by rw [HR1.out, if_pos (by rw [ht.out, Hn.out, ds]; rfl)]
                  subst hr
                  go_wp2_with fail
                  go_ret
                  exact ⟨rfl, hbw.out⟩
                · have ds : decide ((m : Int) < K) = false := decide_eq_false hs
                  have Ht2 : Hid (ll.any (shortP K) = (ll.drop (k + 1)).any (shortP K)) := by show _ = _; rw [ht.out, Hn.out, ds]; rfl
                  go_wp2_with fail
                  go_roundw
                  case rel => exact ⟨k + 1, by omega, by go_num, hbw, Ht2⟩
                  case measure => simp [intOf]; omega
              · have hkL : k = L := by omega
                have hf : ll.any (shortP K) = false := by rw [ht.out, List.drop_eq_nil_of_le (by have := HL.out; omega)]; rfl
                have hr2 : R = if ll.any (fun l => l.any outP) = true then 8 else 0 := by rw [HR1.out, if_neg (by rw [hf]; simp)]
                have HR2 := Lib.hid hr2
                have hbw0 := hbw
                clear hf hr2 ht
                subst hkL
                go_wp2_with fail
                go_loopw [6] (fun i W => ∃ j : Nat, j ≤ k ∧ i = .int .i64 (j : Int) ∧ Hid (Below w.heap.size w W) ∧ Hid (ll.any (fun l => l.any outP) = (ll.drop j).any (fun l => l.any outP))) (fun i _ => k - (intOf i).toNat)
                case atStart => exact ⟨0, Nat.zero_le _, rfl, hbw0, rfl⟩
                case round =>
                  obtain ⟨j, hj, rfl, hbj, htj⟩ := hrel
                  by_cases hlt2 : j < k
                  · have hkl : j < ll.length := by have := HL.out; omega
                    obtain ⟨b1, o1, ue, rfl, hb1, ce, hRd⟩ := (HP.out.below hbj.out) j hkl
                    obtain ⟨ae, cx, rfl, hce, hcm, hPt⟩ := hRd
                    have hn := any_nextP (f := fun l => l.any outP) hkl
                    have hil := HIn.out _ (List.getElem_mem hkl)
                    have HPt := Lib.hid hPt
                    generalize ll[j]'hkl = l0 at *
                    obtain ⟨m, hm⟩ : ∃ z, z = l0.length := ⟨_, rfl⟩
                    have Hm := Lib.hid hm
                    rw [← hm] at ce hil
                    have hk0 : (0 : Int) ≤ (j : Int) := by omega
                    have hk1 : (j : Int) < (k : Int) := by omega
                    have Hn := Lib.hid hn
                    have Hlt2 : Hid (j + 1 ≤ k) := hlt2
                    have Hce := Lib.hid ce
                    have hbj0 := hbj
                    clear hn hPt hkl hm hce
                    go_wp2_with fail
                    go_loopw [7] (fun i W => ∃ t : Nat, t ≤ m ∧ i = .int .i64 (t : Int) ∧ W = wr ∧ Hid (l0.any outP = (l0.drop t).any outP)) (fun i _ => m - (intOf i).toNat)
                    case atStart => exact ⟨0, Nat.zero_le _, rfl, rfl, rfl⟩
                    case round =>
                      obtain ⟨t, htm, rfl, rfl, hto⟩ := hrel
                      by_cases hlt3 : t < m
                      · have htl : t < l0.length := by have := Hm.out; omega
                        obtain ⟨b2, o2, rfl, hb2, p0, p1⟩ := HPt.out.at t htl
                        have hn3 := any_next htl
                        generalize l0[t]'htl = f at *
                        obtain ⟨x, y⟩ := f
                        simp only at p0 p1
                        have ht0 : (0 : Int) ≤ (t : Int) := by omega
                        have ht1 : (t : Int) < (m : Int) := by omega
                        have Hn3 := Lib.hid hn3
                        clear hn3 htl
                        cases hx : okC x with
                        | false =>
                          have hr : R = 8 := by rw [HR2.out, if_pos (by rw [htj.out, Hn.out, hto.out, Hn3.out]; simp [outP, hx])]
                          subst hr
                          go_wp2_with (go_at_call 10; refine (HO.out _ _).mono ?_; rintro e W9 ⟨rfl, rfl⟩; try rw [hx])
                          go_ret
                          exact ⟨rfl, hbj.out⟩
                        | true =>
                          cases hy : okC y with
                          | false =>
                            have hr : R = 8 := by rw [HR2.out, if_pos (by rw [htj.out, Hn.out, hto.out, Hn3.out]; simp [outP, hx, hy])]
                            subst hr
                            go_wp2_with (go_at_call 10; refine (HO.out _ _).mono ?_; rintro e W9 ⟨rfl, rfl⟩; first | rw [hx] | rw [hy])
                            go_ret
                            exact ⟨rfl, hbj.out⟩
                          | true =>
                            have Ht3 : Hid (l0.any outP = (l0.drop (t + 1)).any outP) := by show _ = _; rw [hto.out, Hn3.out]; simp [outP, hx, hy]
                            go_wp2_with (go_at_call 10; refine (HO.out _ _).mono ?_; rintro e W9 ⟨rfl, rfl⟩; first | rw [hx] | rw [hy])
                            go_roundw
                            case rel => exact ⟨t + 1, by omega, by go_num, trivial, Ht3⟩
                            case measure => simp [intOf]; omega
                      · have hf3 : l0.any outP = false := by rw [hto.out, List.drop_eq_nil_of_le (by have := Hm.out; omega)]; rfl
                        have Ht2 : Hid (ll.any (fun l => l.any outP) = (ll.drop (j + 1)).any (fun l => l.any outP)) := by show _ = _; rw [htj.out, Hn.out, hf3]; rfl
                        have htm2 : t = m := by omega
                        subst htm2
                        clear hf3
                        go_wp2_with fail
                        go_roundw
                        case rel => exact ⟨j + 1, Hlt2.out, by go_num, hbj0, Ht2⟩
                        case measure => have := Hlt2.out; simp [intOf]; omega
                  · have hjk : j = k := by omega
                    have hf : ll.any (fun l => l.any outP) = false := by rw [htj.out, List.drop_eq_nil_of_le (by have := HL.out; omega)]; rfl
                    have hr : R = 0 := by rw [HR2.out, if_neg (by rw [hf]; simp)]
                    subst hr hjk
                    clear hf
                    go_wp2_with fail
                    go_ret
                    exact ⟨rfl, hbj.out⟩
          · have dk : (K == 1) = false := by simpa using hk1
            clear hm hk1
            go_enter Try.func5, Try.ntmps5
            go_upto_region 5 with (fail)
            go_wp2_with fail
            go_loopw [5] (fun i W => ∃ k : Nat, k ≤ L ∧ i = .int .i64 (k : Int) ∧ Hid (Below w.heap.size w W) ∧ Hid (ll.any (shortP K) = (ll.drop k).any (shortP K))) (fun i _ => L - (intOf i).toNat)
            case atStart => exact ⟨0, Nat.zero_le _, rfl, Below.refl _ _, rfl⟩
            case round =>
              obtain ⟨k, hk, rfl, hbw, ht⟩ := hrel
              by_cases hlt : k < L
              · have hkl : k < ll.length := by have := HL.out; omega
                obtain ⟨b1, o1, ue, rfl, hb1, ce, hRd⟩ := (HP.out.below hbw.out) k hkl
                obtain ⟨ae, cx, rfl, hce, hcm, hPt⟩ := hRd
                have hn := any_nextP (f := shortP K) hkl
                have hil := HIn.out _ (List.getElem_mem hkl)
                have hsh : shortP K ll[k] = decide (((ll[k]'hkl).length : Int) < K) := by unfold shortP; rw [← HlN.out, HlK.out]
                rw [hsh] at hn
                generalize (ll[k]'hkl).length = m at *
                have hk0 : (0 : Int) ≤ (k : Int) := by omega
                have hk1 : (k : Int) < (L : Int) := by omega
                have Hn := Lib.hid hn
                clear hn hsh hPt hkl
                by_cases hs : (m : Int) < K
                · have ds : decide ((m : Int) < K) = true := decide_eq_true hs
                  have hr : R = 3 := by rw [HR1.out, if_pos (by rw [ht.out, Hn.out, ds]; rfl)]
                  subst hr
                  go_wp2_with fail
                  go_ret
                  exact ⟨rfl, hbw.out⟩
                · have ds : decide ((m : Int) < K) = false := decide_eq_false hs
                  have Ht2 : Hid (ll.any (shortP K) = (ll.drop (k + 1)).any (shortP K)) := by show _ = _; rw [ht.out, Hn.out, ds]; rfl
                  go_wp2_with fail
                  go_roundw
                  case rel => exact ⟨k + 1, by omega, by go_num, hbw, Ht2⟩
                  case measure => simp [intOf]; omega
              · have hkL : k = L := by omega
                have hf : ll.any (shortP K) = false := by rw [ht.out, List.drop_eq_nil_of_le (by have := HL.out; omega)]; rfl
                have hr2 : R = if ll.any (fun l => l.any outP) = true then 8 else 0 := by rw [HR1.out, if_neg (by rw [hf]; simp)]
                have HR2 := Lib.hid hr2
                have hbw0 := hbw
                clear hf hr2 ht
                subst hkL
                go_wp2_with fail
                go_loopw [6] (fun i W => ∃ j : Nat, j ≤ k ∧ i = .int .i64 (j : Int) ∧ Hid (Below w.heap.size w W) ∧ Hid (ll.any (fun l => l.any outP) = (ll.drop j).any (fun l => l.any outP))) (fun i _ => k - (intOf i).toNat)
                case atStart => exact ⟨0, Nat.zero_le _, rfl, hbw0, rfl⟩
                case round =>
                  obtain ⟨j, hj, rfl, hbj, htj⟩ := hrel
                  by_cases hlt2 : j < k
                  · have hkl : j < ll.length := by have := HL.out; omega
                    obtain ⟨b1, o1, ue, rfl, hb1, ce, hRd⟩ := (HP.out.below hbj.out) j hkl
                    obtain ⟨ae, cx, rfl, hce, hcm, hPt⟩ := hRd
                    have hn := any_nextP (f := fun l => l.any outP) hkl
                    have hil := HIn.out _ (List.getElem_mem hkl)
                    have HPt := Lib.hid hPt
                    generalize ll[j]'hkl = l0 at *
                    obtain ⟨m, hm⟩ : ∃ z, z = l0.length := ⟨_, rfl⟩
                    have Hm := Lib.hid hm
                    rw [← hm] at ce hil
                    have hk0 : (0 : Int) ≤ (j : Int) := by omega
                    have hk1 : (j : Int) < (k : Int) := by omega
                    have Hn := Lib.hid hn
                    have Hlt2 : Hid (j + 1 ≤ k) := hlt2
                    have Hce := Lib.hid ce
                    have hbj0 := hbj
                    clear hn hPt hkl hm hce
                    go_wp2_with fail
                    go_loopw [7] (fun i W => ∃ t : Nat, t ≤ m ∧ i = .int .i64 (t : Int) ∧ W = wr ∧ Hid (l0.any outP = (l0.drop t).any outP)) (fun i _ => m - (intOf i).toNat)
                    case atStart => exact ⟨0, Nat.zero_le _, rfl, rfl, rfl⟩
                    case round =>
                      obtain ⟨t, htm, rfl, rfl, hto⟩ := hrel
                      by_cases hlt3 : t < m
                      · have htl : t < l0.length := by have := Hm.out; omega
                        obtain ⟨b2, o2, rfl, hb2, p0, p1⟩ := HPt.out.at t htl
                        have hn3 := any_next htl
                        generalize l0[t]'htl = f at *
                        obtain ⟨x, y⟩ := f
                        simp only at p0 p1
                        have ht0 : (0 : Int) ≤ (t : Int) := by omega
                        have ht1 : (t : Int) < (m : Int) := by omega
                        have Hn3 := Lib.hid hn3
                        clear hn3 htl
                        cases hx : okC x with
                        | false =>
                          have hr : R = 8 := by rw [HR2.out, if_pos (by rw [htj.out, Hn.out, hto.out, Hn3.out]; simp [outP, hx])]
                          subst hr
                          go_wp2_with (go_at_call 10; refine (HO.out _ _).mono ?_; rintro e W9 ⟨rfl, rfl⟩; try rw [hx])
                          go_ret
                          exact ⟨rfl, hbj.out⟩
                        | true =>
                          cases hy : okC y with
                          | false =>
                            have hr : R = 8 := by rw [HR2.out, if_pos (by rw [htj.out, Hn.out, hto.out, Hn3.out]; simp [outP, hx, hy])]
                            subst hr
                            go_wp2_with (go_at_call 10; refine (HO.out _ _).mono ?_; rintro e W9 ⟨rfl, rfl⟩; first | rw [hx] | rw [hy])
                            go_ret
                            exact ⟨rfl, hbj.out⟩
                          | true =>
                            have Ht3 : Hid (l0.any outP = (l0.drop (t + 1)).any outP) := by show _ = _; rw [hto.out, Hn3.out]; simp [outP, hx, hy]
                            go_wp2_with (go_at_call 10; refine (HO.out _ _).mono ?_; rintro e W9 ⟨rfl, rfl⟩; first | rw [hx] | rw [hy])
                            go_roundw
                            case rel => exact ⟨t + 1, by omega, by go_num, trivial, Ht3⟩
                            case measure => simp [intOf]; omega
                      · have hf3 : l0.any outP = false := by rw [hto.out, List.drop_eq_nil_of_le (by have := Hm.out; omega)]; rfl
                        have Ht2 : Hid (ll.any (fun l => l.any outP) = (ll.drop (j + 1)).any (fun l => l.any outP)) := by show _ = _; rw [htj.out, Hn.out, hf3]; rfl
                        have htm2 : t = m := by omega
                        subst htm2
                        clear hf3
                        go_wp2_with fail
                        go_roundw
                        case rel => exact ⟨j + 1, Hlt2.out, by go_num, hbj0, Ht2⟩
                        case measure => have := Hlt2.out; simp [intOf]; omega
                  · have hjk : j = k := by omega
                    have hf : ll.any (fun l => l.any outP) = false := by rw [htj.out, List.drop_eq_nil_of_le (by have := HL.out; omega)]; rfl
                    have hr : R = 0 := by rw [HR2.out, if_neg (by rw [hf]; simp)]
                    subst hr hjk
                    clear hf
                    go_wp2_with fail
                    go_ret
                    exact ⟨rfl, hbj.out⟩
def insB (lo hi : Int) (p : P2) : Bool := decide (lo ≤ p.1 ∧ p.1 ≤ hi ∧ lo ≤ p.2 ∧ p.2 ≤ hi)

set_option maxHeartbeats 4000000 in
theorem lin_any (x y lo hi : Int) (w : World) :
    Calls Try.prog 35 #[.agg #[.int .i64 x, .int .i64 y], .int .i64 lo, .int .i64 hi] w fun e w' => e = .returned (.bool (insB lo hi (x, y))) ∧ Below w.heap.size w w' := by
  by_cases h0 : lo ≤ x
  · skip
    by_cases h1 : x ≤ hi
    · skip
      by_cases h2 : lo ≤ y
      · skip
        by_cases h3 : y ≤ hi
        · skip
          have hb : Hid (insB lo hi (x, y) = true) := by show _ = _; unfold insB; exact decide_eq_true ⟨h0, h1, h2, h3⟩
          have d0 : decide (lo ≤ x) = true := decide_eq_true h0
          have d1 : decide (x ≤ hi) = true := decide_eq_true h1
          have d2 : decide (lo ≤ y) = true := decide_eq_true h2
          have d3 : decide (y ≤ hi) = true := decide_eq_true h3
          rw [hb.out]
          clear hb h0 h1 h2 h3
          go_enter Try.func35, Try.ntmps35
          go_wp2_with fail
          go_ret
          exact ⟨rfl, (Below.refl _ _).alloc (Nat.le_refl _) _⟩
        · skip
          have hb : Hid (insB lo hi (x, y) = false) := by show _ = _; unfold insB; exact decide_eq_false (fun h => h3 (by have := h.1; have := h.2.1; have := h.2.2.1; have := h.2.2.2; assumption))
          have d0 : decide (lo ≤ x) = true := decide_eq_true h0
          have d1 : decide (x ≤ hi) = true := decide_eq_true h1
          have d2 : decide (lo ≤ y) = true := decide_eq_true h2
          have d3 : decide (y ≤ hi) = false := decide_eq_false h3
          rw [hb.out]
          clear hb h0 h1 h2 h3
          go_enter Try.func35, Try.ntmps35
          go_wp2_with fail
          go_ret
          exact ⟨rfl, (Below.refl _ _).alloc (Nat.le_refl _) _⟩
      · skip
        have hb : Hid (insB lo hi (x, y) = false) := by show _ = _; unfold insB; exact decide_eq_false (fun h => h2 (by have := h.1; have := h.2.1; have := h.2.2.1; have := h.2.2.2; assumption))
        have d0 : decide (lo ≤ x) = true := decide_eq_true h0
        have d1 : decide (x ≤ hi) = true := decide_eq_true h1
        have d2 : decide (lo ≤ y) = false := decide_eq_false h2
        rw [hb.out]
        clear hb h0 h1 h2
        go_enter Try.func35, Try.ntmps35
        go_wp2_with fail
        go_ret
        exact ⟨rfl, (Below.refl _ _).alloc (Nat.le_refl _) _⟩
    · skip
      have hb : Hid (insB lo hi (x, y) = false) := by show _ = _; unfold insB; exact decide_eq_false (fun h => h1 (by have := h.1; have := h.2.1; have := h.2.2.1; have := h.2.2.2; assumption))
      have d0 : decide (lo ≤ x) = true := decide_eq_true h0
      have d1 : decide (x ≤ hi) = false := decide_eq_false h1
      rw [hb.out]
      clear hb h0 h1
      go_enter Try.func35, Try.ntmps35
      go_wp2_with fail
      go_ret
      exact ⟨rfl, (Below.refl _ _).alloc (Nat.le_refl _) _⟩
  · skip
    have hb : Hid (insB lo hi (x, y) = false) := by show _ = _; unfold insB; exact decide_eq_false (fun h => h0 (by have := h.1; have := h.2.1; have := h.2.2.1; have := h.2.2.2; assumption))
    have d0 : decide (lo ≤ x) = false := decide_eq_false h0
    rw [hb.out]
    clear hb h0
    go_enter Try.func35, Try.ntmps35
    go_wp2_with fail
    go_ret
    exact ⟨rfl, (Below.refl _ _).alloc (Nat.le_refl _) _⟩

set_option maxHeartbeats 2000000 in
theorem pin_any (v : Value) (x y lo hi : Int) (g0 g1 : Nat) (w : World) (h0 : w.cell? ⟨g0, 0, none⟩ = some (.int .i64 lo)) (h1 : w.cell? ⟨g1, 0, none⟩ = some (.int .i64 hi)) (b0 : g0 < w.heap.size) (b1 : g1 < w.heap.size) :
    Calls Try.prog 34 #[v, .agg #[.int .i64 x, .int .i64 y], .pointer (some ⟨g0, 0, none⟩), .pointer (some ⟨g1, 0, none⟩)] w fun e w' => e = .returned (.bool (insB lo hi (x, y))) ∧ Below w.heap.size w w' := by
  have hl := Lib.hid fun W => lin_any x y lo hi W
  have hA : Below w.heap.size w (w.alloc (.cells #[.int .i64 x, .int .i64 y] 41)) := (Below.refl _ _).alloc (Nat.le_refl _) _
  have c0 := (hA.cell (p := ⟨g0, 0, none⟩) b0).trans h0
  have c1 := (hA.cell (p := ⟨g1, 0, none⟩) b1).trans h1
  have HA := Lib.hid hA
  clear hA h0 h1 b0 b1
  go_enter Try.func34, Try.ntmps34
  go_wp2_with fail
  refine (hl.out _).mono ?_
  rintro e W ⟨rfl, hW⟩
  have HW := Lib.hid (below_then HA.out hW HA.out.size)
  clear hW
  go_wp2_with fail
  go_ret
  exact ⟨rfl, HW.out⟩

set_option maxHeartbeats 4000000 in
theorem keptI_any (v : Value) (l : List P2) (lo hi : Int) (g0 g1 : Nat) (w : World) (h0 : w.cell? ⟨g0, 0, none⟩ = some (.int .i64 lo)) (h1 : w.cell? ⟨g1, 0, none⟩ = some (.int .i64 hi)) (b0 : g0 < w.heap.size) (b1 : g1 < w.heap.size) (h : RdP w w.heap.size v l) (hl : l.length ≤ 1000) (R : List P2) (hR : l.filter (insB lo hi) = R) :
    Calls Try.prog 33 #[v, .func (.func 34) #[] #[.pointer (some ⟨g0, 0, none⟩), .pointer (some ⟨g1, 0, none⟩)]] w (PPost w R) := by
  obtain ⟨i0, hi0, hz0, hz1, hz2⟩ := info_parts ptinfo
  obtain ⟨a, c, rfl, _, _, ha⟩ := h
  have H0 := Lib.hid h0
  have H1 := Lib.hid h1
  have B0 := Lib.hid b0
  have B1 := Lib.hid b1
  clear h0 h1 b0 b1
  obtain ⟨L, hL⟩ : ∃ L, L = l.length := ⟨_, rfl⟩
  have HA := Lib.hid ha
  have HL := Lib.hid hL
  have HR := Lib.hid hR
  rw [← hL] at hl ⊢
  clear hL ha hR
  go_enter Try.func33, Try.ntmps33
  go_wp2_with fail
  go_loopw [10, 5] (fun i u W => ∃ (k : Nat) (m : List P2) (v : Value), k ≤ L ∧ i = .int .i64 (k : Int) ∧ v = u ∧ Hid (OwnP W w.heap.size v m) ∧ m.length ≤ k ∧ Hid (Below w.heap.size w W) ∧ Hid (m ++ (l.drop k).filter (insB lo hi) = R)) (fun i _ _ => L - (intOf i).toNat)
  case atStart => exact ⟨0, [], _, Nat.zero_le _, rfl, rfl, OwnP.nil_ _ _, Nat.le_refl _, Below.refl _ _, HR.out⟩
  case round =>
    obtain ⟨k, m, v, hk, rfl, rfl, hO, hm, hbw, hs⟩ := hrel
    by_cases hlt : k < L
    · have hkl : k < l.length := by have := HL.out; omega
      have hdr : l.drop k = l[k] :: l.drop (k + 1) := List.drop_eq_getElem_cons hkl
      obtain ⟨b1, o1, rfl, h1, p0, p1⟩ := (HA.out.below hbw.out).at k hkl
      rw [hdr] at hs
      generalize l[k]'hkl = q at *
      obtain ⟨x, y⟩ := q
      simp only at p0 p1
      have hk0 : (0 : Int) ≤ (k : Int) := by omega
      have hk1 : (k : Int) < (L : Int) := by omega
      have Hm := Lib.hid hm
      have hA1 : Below wr.heap.size wr (wr.alloc (.cells #[.int .i64 x, .int .i64 y] 41)) := (Below.refl _ _).alloc (Nat.le_refl _) _
      have hWW := below_then hbw.out hA1 hbw.out.size
      have hcall := pin_any v x y lo hi g0 g1 (wr.alloc (.cells #[.int .i64 x, .int .i64 y] 41)) ((hWW.cell (p := ⟨g0, 0, none⟩) B0.out).trans H0.out) ((hWW.cell (p := ⟨g1, 0, none⟩) B1.out).trans H1.out) (Nat.lt_of_lt_of_le B0.out hWW.size) (Nat.lt_of_lt_of_le B1.out hWW.size)
      have Hcall := Lib.hid hcall
      have HA1 := Lib.hid hA1
      clear hcall hA1 hm hdr hWW
      go_wp2_with fail
      refine Hcall.out.mono ?_
      rintro e X ⟨rfl, hX⟩
      have hOX : OwnP X w.heap.size v m := (hO.out.alloc _).below hX
      have HOX := Lib.hid hOX
      have c0 : X.cell? ⟨wr.heap.size, 0, none⟩ = some (.int .i64 x) := (hX.cell (by simp)).trans ((Whole.new wr 41 #[.int .i64 x, .int .i64 y]).cell 0)
      have c1 : X.cell? ⟨wr.heap.size, 1, none⟩ = some (.int .i64 y) := (hX.cell (by simp)).trans ((Whole.new wr 41 #[.int .i64 x, .int .i64 y]).cell 1)
      have HBX := Lib.hid (hbw.out.trans ((HA1.out.trans (hX.mono HA1.out.size)).mono hbw.out.size))
      have hown : X.ownsRow w.heap.size 41 2 v m.length (pts m) := hOX
      clear hX Hcall HA1 hO
      have hs2 := hs.out
      rw [List.filter_cons] at hs2
      cases hst : insB lo hi (x, y)
      · rw [hst, if_neg (by decide)] at hs2
        have Hs2 := Lib.hid hs2
        clear hs2 hst hs hown
        go_wp2_with fail
        go_roundw
        case rel => exact ⟨k + 1, m, v, hlt, by go_num, rfl, HOX, by have := Hm.out; omega, HBX, Hs2⟩
        case measure => simp [intOf]; omega
      · rw [hst, if_pos rfl] at hs2
        have Hs2 := Lib.hid (show (m ++ [(x, y)]) ++ (l.drop (k + 1)).filter (insB lo hi) = R by simpa using hs2)
        clear hs2 hst hs
        go_wp2_with (at_builtin; refine app_rec rfl (.tmp 18) (.tmp 20) 22 rfl w.heap.size 41 i0 _ 2 16 Try.underlying22 hi0 hz0 hz1 hz2 rfl (by decide) v _ _ rfl hown [.int .i64 x, .int .i64 y] rfl 1 rfl (pts_one [(x, y)]) (by have := Hm.out; unfold maxLen; omega) (by have := Hm.out; omega) HBX.out.size ?_)
        intro v3 w3 h2 h3 h5
        have hG : GoneP X w.heap.size v (m ++ [(x, y)]) v3 w3 := GoneP.grown h2 (by simp) (by rw [pts_append]; rfl) h3 h5
        have HG := Lib.hid hG
        clear h2 h3 h5 hG hown
        go_wp2_with fail
        go_roundw
        case rel => exact ⟨k + 1, m ++ [(x, y)], v3, hlt, by go_num, rfl, HG.out.own, by have := Hm.out; simp; omega, HBX.out.trans (HG.out.below HOX.out HBX.out.size), Hs2⟩
        case measure => simp [intOf]; omega
    · obtain rfl : k = L := by omega
      rw [List.drop_of_length_le (by have := HL.out; omega)] at hs
      have e : m = R := by have := hs.out; simpa using this
      subst e
      have H9 := Lib.hid hO.out.rd
      have HF := Lib.hid fun b e => (hO.out.lt b e).1
      clear hO
      go_wp2_with fail
      go_ret
      exact ⟨_, rfl, H9.out, hbw.out, HF.out⟩

set_option maxHeartbeats 2000000 in
theorem points_any (v : Value) (l : List P2) (lo hi : Int) (w : World) (h : RdP w w.heap.size v l) (hl : l.length ≤ 1000) (R : List P2) (hR : l.filter (insB lo hi) = R) :
    Calls Try.prog 28 #[v, .int .i64 lo, .int .i64 hi] w (PPost w R) := by
  obtain ⟨X, hX⟩ : ∃ X, X = (w.alloc (.cells #[.int .i64 lo] 3)).alloc (.cells #[.int .i64 hi] 3) := ⟨_, rfl⟩
  have hB1 : Below w.heap.size w (w.alloc (.cells #[.int .i64 lo] 3)) := (Below.refl _ _).alloc (Nat.le_refl _) _
  have hB : Below w.heap.size w X := by rw [hX]; exact hB1.alloc hB1.size _
  have hw0 : Whole X w.heap.size 3 #[.int .i64 lo] := by rw [hX]; exact (Whole.new w _ _).alloc _
  have hw1 : Whole X (w.heap.size + 1) 3 #[.int .i64 hi] := by
    rw [hX]
    have := Whole.new (w.alloc (.cells #[.int .i64 lo] 3)) 3 #[.int .i64 hi]
    simpa using this
  have Hk := Lib.hid (keptI_any v l lo hi w.heap.size (w.heap.size + 1) X (hw0.cell 0) (hw1.cell 0) hw0.lt hw1.lt ((h.below hB).more hB.size) hl R hR)
  have HB := Lib.hid hB
  have HX := Lib.hid hX
  clear hB1 hB hw0 hw1 hX h hR hl
  go_enter Try.func28, Try.ntmps28
  go_wp2_with fail
  rw [← HX.out]
  refine Hk.out.mono ?_
  rintro e W ⟨u, rfl, h1, h2, h3⟩
  have H3 := Lib.hid fun b e => Nat.le_trans HB.out.size (h3 b e)
  have H1 := Lib.hid h1
  have H2 := Lib.hid (below_then HB.out h2 HB.out.size)
  clear h1 h2 h3
  go_wp2_with fail
  go_ret
  exact ⟨_, rfl, H1.out, H2.out, H3.out⟩

end Go.Proofs.Ytnajladngpphkaa
