/- Walks over layer 3: the reference's Kraft, ones, Right. -/
import Derived.Test.YtcllcnccmjnieaaHuff3
namespace Go.Proofs.Ytcllcnccmjnieaa
open Go.RowKit Huff
set_option linter.unusedVariables false
set_option maxRecDepth 100000

theorem half_pow (j : Nat) (h : j < 15) : ((2 ^ (15 - j) : Nat) : Int) / 2 = ((2 ^ (15 - (j + 1)) : Nat) : Int) := by
  obtain ⟨m, hm⟩ : ∃ m, 15 - j = m + 1 := ⟨14 - j, by omega⟩
  rw [hm, show 15 - (j + 1) = m by omega, Nat.pow_succ]
  omega
theorem pow_le15 (j : Nat) : 2 ^ (15 - j) ≤ 32768 := Nat.le_trans (Nat.pow_le_pow_right (by omega) (show 15 - j ≤ 15 by omega)) (by decide)
theorem kraft_big {zs : List Int} (h : 288 < zs.length) : kraft zs = (0, false) := by
  unfold kraft okL
  rw [if_neg]
  simp
  intro h2; omega
theorem kraft_not {zs : List Int} (h : okL zs = false) : kraft zs = (0, false) := by unfold kraft; rw [if_neg (by simp [h])]

set_option maxHeartbeats 8000000 in
theorem refKraft_any (A : Option Addr) (c : Nat) (zs : List Int) (w : World) (hN : Ints w w.heap.size A zs) (hl : zs.length ≤ 1000000) :
    Calls Try.prog 9 #[.slice A zs.length c] w fun e w' => e = .returned (.tuple #[.int .i64 ((kraft zs).1 : Int), .bool (kraft zs).2]) ∧ w = w' := by
  obtain ⟨L, hL⟩ : ∃ L, L = zs.length := ⟨_, rfl⟩
  have HN := Lib.hid hN
  rw [← hL] at hl ⊢
  have HL := Lib.hid hL
  clear hN hL
  obtain ⟨R, hR⟩ : ∃ R, kraft zs = R := ⟨_, rfl⟩
  rw [hR]
  have HR := Lib.hid hR
  clear hR
  go_enter Try.func9, Try.ntmps9
  go_wp2_with fail
  go_loop [4, 5] (fun s x => ∃ k : Nat, k ≤ L ∧ k ≤ 289 ∧ x = .int .i64 (k : Int) ∧ s = .int .i64 ((kr (nats (zs.take k)) : Nat) : Int) ∧ Hid (∀ i (h : i < zs.length), i < k → okZ zs[i] = true)) (fun _ x => 289 - (intOf x).toNat)
  case atStart => exact ⟨0, Nat.zero_le _, by omega, rfl, rfl, Lib.hid (fun i h h2 => absurd h2 (by omega))⟩
  case round =>
    obtain ⟨k, hk, hk9, rfl, rfl, HO⟩ := hrel
    by_cases hlt : k < L ∧ k < 289
    · obtain ⟨hlt, hlt9⟩ := hlt
      have hkl : k < zs.length := by have := HL.out; omega
      obtain ⟨b1, o1, rfl, hb1, p0⟩ := HN.out.at k hkl
      have hs := kr_nats_take zs k hkl
      have hok1 : okZ zs[k] = true → ∀ i (h : i < zs.length), i < k + 1 → okZ zs[i] = true := fun h i hi h2 => by
        rcases Nat.lt_or_eq_of_le (Nat.le_of_lt_succ h2) with h3 | h3
        · exact HO.out i hi h3
        · subst h3; exact h
      have hno : okZ zs[k] = false → okL zs = false := okL_not hkl
      have hsum : kr (nats (zs.take k)) ≤ 16384 * 289 := Nat.le_trans (kr_le _) (by unfold nats; simp; omega)
      have hsum2 := krT_le zs[k].toNat
      generalize zs[k]'hkl = z at *
      obtain ⟨s, hs0⟩ : ∃ s, kr (nats (zs.take k)) = s := ⟨_, rfl⟩
      rw [hs0] at hs hsum ⊢
      have Hs := Lib.hid hs
      have Hok1 := Lib.hid hok1
      have Hno := Lib.hid hno
      have hk0 : (0 : Int) ≤ (k : Int) := by omega
      have hk1 : (k : Int) < (L : Int) := by omega
      have e1 : decide ((k : Int) < (L : Int)) = true := decide_eq_true hk1
      have e2 : decide (k < L) = true := decide_eq_true hlt
      have e3 : decide ((k : Int) < 289) = true := decide_eq_true (by omega)
      clear hs hok1 hno hs0 HO
      by_cases hz0 : z < 0
      · have d2 : decide (z < 0) = true := decide_eq_true hz0
        have e : (0, false) = R := by
          rw [← HR.out]; exact (kraft_not (Hno.out (by unfold okZ; exact decide_eq_false (by omega)))).symm
        subst e
        clear hz0 hsum hsum2
        go_wp2_with fail
        go_ret2
        exact ⟨rfl, rfl⟩
      · have d2 : decide (z < 0) = false := decide_eq_false hz0
        by_cases hz1 : 15 < z
        · have d3 : decide (15 < z) = true := decide_eq_true hz1
          have e : (0, false) = R := by
            rw [← HR.out]; exact (kraft_not (Hno.out (by unfold okZ; exact decide_eq_false (by omega)))).symm
          subst e
          clear hz0 hz1 hsum hsum2
          go_wp2_with fail
          go_ret2
          exact ⟨rfl, rfl⟩
        · have d3 : decide (15 < z) = false := decide_eq_false hz1
          obtain ⟨n, rfl⟩ : ∃ n : Nat, z = n := ⟨z.toNat, by omega⟩
          have Hok := Lib.hid (Hok1.out (by unfold okZ; exact decide_eq_true (by omega)))
          rw [Int.toNat_natCast] at Hs hsum2
          have hn15 : n ≤ 15 := by omega
          obtain ⟨T, hT⟩ : ∃ T, krT n = T := ⟨_, rfl⟩
          have hT2 : 0 < n → 2 ^ (15 - n) = T := fun h => by rw [← hT]; unfold krT; rw [if_pos h]
          have hT3 : ¬ 0 < n → T = 0 := fun h => by rw [← hT]; unfold krT; rw [if_neg h]
          rw [hT] at Hs hsum2
          have HT2 := Lib.hid hT2
          have HT3 := Lib.hid hT3
          clear Hok1 Hno hz0 hz1 hT hT2 hT3
          go_wp2_with fail
          go_loop [6, 7] (fun x y => ∃ j : Nat, j ≤ n ∧ y = .int .i64 (j : Int) ∧ x = .int .i64 ((2 ^ (15 - j) : Nat) : Int)) (fun _ y => n - (intOf y).toNat)
          case atStart => exact ⟨0, Nat.zero_le _, rfl, rfl⟩
          case round =>
            obtain ⟨j, hj, rfl, rfl⟩ := hrel
            by_cases hjn : j < n
            · have f1 : decide ((j : Int) < (n : Int)) = true := decide_eq_true (by omega)
              have f2 : decide (j < n) = true := decide_eq_true hjn
              have hh := half_pow j (by omega)
              have hle := pow_le15 j
              obtain ⟨q, hq⟩ : ∃ q, 2 ^ (15 - (j + 1)) = q := ⟨_, rfl⟩
              rw [hq] at hh
              have Hq := Lib.hid hq
              clear hq
              obtain ⟨p, hp⟩ : ∃ p, 2 ^ (15 - j) = p := ⟨_, rfl⟩
              rw [hp] at hh hle ⊢
              clear hp
              go_wp2_with fail
              go_round
              case rel => exact ⟨j + 1, by omega, by go_num, by rw [Hq.out]⟩
              case measure => simp [intOf]; omega
            · obtain rfl : n = j := by omega
              have f1 : decide ((n : Int) < (n : Int)) = false := decide_eq_false (by omega)
              by_cases hn0 : 0 < n
              · have d4 : decide ((0 : Int) < (n : Int)) = true := decide_eq_true (by omega)
                have d5 : decide (0 < n) = true := decide_eq_true hn0
                rw [HT2.out hn0]
                clear hjn
                go_wp2_with fail
                go_round
                case rel => exact ⟨k + 1, by omega, by omega, by go_num, by rw [Hs.out]; go_num, Hok⟩
                case measure => simp [intOf]; omega
              · obtain rfl : n = 0 := by omega
                obtain rfl := HT3.out hn0
                clear hjn hn0
                go_wp2_with fail
                go_round
                case rel => exact ⟨k + 1, by omega, by omega, by go_num, by rw [Hs.out]; rfl, Hok⟩
                case measure => simp [intOf]; omega
    · by_cases hbig : 288 < L
      · have e : (0, false) = R := by rw [← HR.out]; exact (kraft_big (by have := HL.out; omega)).symm
        subst e
        have d1 : decide ((288 : Int) < (L : Int)) = true := decide_eq_true (by omega)
        by_cases h9 : k < L
        · have e1 : decide ((k : Int) < (L : Int)) = true := decide_eq_true (by omega)
          have e2 : decide (k < L) = true := decide_eq_true h9
          have e3 : decide ((k : Int) < 289) = false := decide_eq_false (by omega)
          clear hlt hbig h9 HO
          go_wp2_with fail
          go_ret2
          exact ⟨rfl, rfl⟩
        · have e1 : decide ((k : Int) < (L : Int)) = false := decide_eq_false (by omega)
          have e2 : decide (k < L) = false := decide_eq_false h9
          clear hlt hbig h9 HO
          go_wp2_with fail
          go_ret2
          exact ⟨rfl, rfl⟩
      · obtain rfl : L = k := by omega
        have d1 : decide ((288 : Int) < (L : Int)) = false := decide_eq_false (by omega)
        have e1 : decide ((L : Int) < (L : Int)) = false := decide_eq_false (by omega)
        have e2 : decide (L < L) = false := decide_eq_false (by omega)
        have e : (kr (nats zs), true) = R := by
          rw [← HR.out]; unfold kraft; rw [if_pos (okL_all (by have := HL.out; omega) (fun i h => HO.out i h (by have := HL.out; omega)))]
        subst e
        have ht : zs.take L = zs := List.take_of_length_le (by have := HL.out; omega)
        rw [ht]
        clear ht hlt hbig HO
        go_wp2_with fail
        go_ret2
        exact ⟨rfl, rfl⟩
theorem ones_take (l : List Nat) (k : Nat) (h : k < l.length) : ones (l.take (k + 1)) = ones (l.take k) + if l[k] = 1 then 1 else 0 := by
  rw [List.take_succ_eq_append_getElem h]
  unfold ones
  rw [List.filter_append, List.length_append]
  by_cases h1 : l[k] = 1 <;> simp [h1]
theorem ones_le (l : List Nat) : ones l ≤ l.length := List.length_filter_le _ _
set_option maxHeartbeats 4000000 in
theorem ones_any (A : Option Addr) (c : Nat) (l : List Nat) (w : World) (hN : Nums .i64 w w.heap.size A l) (hl : l.length ≤ 1000000) :
    Calls Try.prog 30 #[.slice A l.length c] w fun e w' => e = .returned (.int .i64 (ones l : Int)) ∧ w = w' := by
  obtain ⟨L, hL⟩ : ∃ L, L = l.length := ⟨_, rfl⟩
  have HN := Lib.hid hN
  rw [← hL] at hl ⊢
  have HL := Lib.hid hL
  clear hN hL
  obtain ⟨R, hR⟩ : ∃ R, ones l = R := ⟨_, rfl⟩
  rw [hR]
  have HR := Lib.hid hR
  clear hR
  go_enter Try.func30, Try.ntmps30
  go_wp2_with fail
  go_loop [3, 4] (fun s x => ∃ k : Nat, k ≤ L ∧ x = .int .i64 (k : Int) ∧ s = .int .i64 ((ones (l.take k) : Nat) : Int)) (fun _ x => L - (intOf x).toNat)
  case atStart => exact ⟨0, Nat.zero_le _, rfl, rfl⟩
  case round =>
    obtain ⟨k, hk, rfl, rfl⟩ := hrel
    by_cases hlt : k < L
    · have hkl : k < l.length := by have := HL.out; omega
      obtain ⟨b1, o1, rfl, hb1, hc⟩ := HN.out (by omega)
      have p0 := hc k hkl
      have hge : l.getD k 0 = l[k] := by simp [hkl]
      rw [hge] at p0
      have hs := ones_take l k hkl
      have hsl : ones (l.take k) ≤ 1000000 := Nat.le_trans (ones_le _) (by simp; omega)
      generalize l[k]'hkl = n at *
      obtain ⟨s, hs0⟩ : ∃ s, ones (l.take k) = s := ⟨_, rfl⟩
      rw [hs0] at hs hsl ⊢
      have hk0 : (0 : Int) ≤ (k : Int) := by omega
      have hk1 : (k : Int) < (L : Int) := by omega
      by_cases h1 : n = 1
      · rw [if_pos h1] at hs
        have Hs := Lib.hid hs
        have d1 : ((n : Int) == 1) = true := beq_iff_eq.2 (by omega)
        clear hs hge hc h1 hs0
        go_wp2_with fail
        go_round
        case rel => exact ⟨k + 1, by omega, by go_num, by rw [Hs.out]; go_num⟩
        case measure => simp [intOf]; omega
      · rw [if_neg h1] at hs
        have Hs := Lib.hid hs
        have d1 : ((n : Int) == 1) = false := beq_eq_false_iff_ne.mpr (by omega)
        clear hs hge hc h1 hs0
        go_wp2_with fail
        go_round
        case rel => exact ⟨k + 1, by omega, by go_num, by rw [Hs.out]; rfl⟩
        case measure => simp [intOf]; omega
    · obtain rfl : L = k := by omega
      have ht : l.take L = l := List.take_of_length_le (by have := HL.out; omega)
      rw [ht, HR.out]
      clear hlt ht
      go_wp2_with fail
      go_ret
      exact ⟨rfl, rfl⟩

set_option maxHeartbeats 8000000 in
theorem refRight03_any (A : Option Addr) (c : Nat) (zs : List Int) (short : Bool) (w : World) (hN : Ints w w.heap.size A zs) (hl : zs.length ≤ 1000000) (E : Nat) (hE : errOf zs short = E) :
    Calls Try.prog 11 #[.slice A zs.length c, .bool short] w fun e w' => e = .returned (.int .i64 (E : Int)) ∧ w = w' := by
  have HK := Lib.hid (refKraft_any A c zs w hN hl)
  by_cases hok : okL zs = true
  · rw [err_ref hok] at hE
    have hb := okL_bounds hok
    have hkr : kraft zs = (kr (nats zs), true) := by unfold kraft; rw [if_pos hok]
    rw [hkr] at HK
    have hon := ones_any A c (nats zs) w (hN.to_nums hb.2.1) (by simp [nats]; omega)
    rw [show (nats zs).length = zs.length by simp [nats]] at hon
    have Hon := Lib.hid hon
    obtain ⟨L, hL⟩ : ∃ L, L = zs.length := ⟨_, rfl⟩
    rw [← hL] at HK Hon ⊢
    generalize kr (nats zs) = K at *
    generalize ones (nats zs) = O at *
    simp only at HK
    clear hon hN hl hok hb hkr hL
    by_cases h1 : K = 32768
    · rw [if_pos h1] at hE
      subst hE
      have d1 : ((K : Int) == 32768) = true := beq_iff_eq.2 (by omega)
      clear h1
      go_enter Try.func11, Try.ntmps11
      go_wp2_with fail
      refine HK.out.mono ?_
      rintro e X ⟨rfl, rfl⟩
      go_wp2_with fail
      go_ret
      exact ⟨rfl, rfl⟩
    · rw [if_neg h1] at hE
      have d1 : ((K : Int) == 32768) = false := beq_eq_false_iff_ne.mpr (by omega)
      by_cases h2 : 32768 < K
      · rw [if_pos (.inl h2)] at hE
        subst hE
        have d2 : decide ((32768 : Int) < (K : Int)) = true := decide_eq_true (by omega)
        have d3 : decide (32768 < K) = true := decide_eq_true h2
        clear h1 h2
        go_enter Try.func11, Try.ntmps11
        go_wp2_with fail
        refine HK.out.mono ?_
        rintro e X ⟨rfl, rfl⟩
        go_wp2_with fail
        go_ret
        exact ⟨rfl, rfl⟩
      · have d2 : decide ((32768 : Int) < (K : Int)) = false := decide_eq_false (by omega)
        have d3 : decide (32768 < K) = false := decide_eq_false h2
        cases short
        · rw [if_pos (.inr rfl)] at hE
          subst hE
          clear h1 h2
          go_enter Try.func11, Try.ntmps11
          go_wp2_with fail
          refine HK.out.mono ?_
          rintro e X ⟨rfl, rfl⟩
          go_wp2_with fail
          go_ret
          exact ⟨rfl, rfl⟩
        · rw [if_neg (by simp; omega)] at hE
          by_cases h3 : K = 0
          · rw [if_pos (.inl h3)] at hE
            subst hE
            have d4 : ((K : Int) == 0) = true := beq_iff_eq.2 (by omega)
            clear h1 h2 h3
            go_enter Try.func11, Try.ntmps11
            go_wp2_with fail
            refine HK.out.mono ?_
            rintro e X ⟨rfl, rfl⟩
            go_wp2_with fail
            go_ret
            exact ⟨rfl, rfl⟩
          · have d4 : ((K : Int) == 0) = false := beq_eq_false_iff_ne.mpr (by omega)
            by_cases h4 : K = 16384
            · have d5 : ((K : Int) == 16384) = true := beq_iff_eq.2 (by omega)
              by_cases h5 : O = 1
              · rw [if_pos (.inr ⟨h4, h5⟩)] at hE
                subst hE
                have d6 : ((O : Int) == 1) = true := beq_iff_eq.2 (by omega)
                clear h1 h2 h3 h4 h5
                go_enter Try.func11, Try.ntmps11
                go_wp2_with fail
                refine HK.out.mono ?_
                rintro e X ⟨rfl, rfl⟩
                go_wp2_with fail
                refine Hon.out.mono ?_
                rintro e X ⟨rfl, rfl⟩
                go_wp2_with fail
                go_ret
                exact ⟨rfl, rfl⟩
              · rw [if_neg (by omega)] at hE
                subst hE
                have d6 : ((O : Int) == 1) = false := beq_eq_false_iff_ne.mpr (by omega)
                clear h1 h2 h3 h4 h5
                go_enter Try.func11, Try.ntmps11
                go_wp2_with fail
                refine HK.out.mono ?_
                rintro e X ⟨rfl, rfl⟩
                go_wp2_with fail
                refine Hon.out.mono ?_
                rintro e X ⟨rfl, rfl⟩
                go_wp2_with fail
                go_ret
                exact ⟨rfl, rfl⟩
            · rw [if_neg (by omega)] at hE
              subst hE
              have d5 : ((K : Int) == 16384) = false := beq_eq_false_iff_ne.mpr (by omega)
              clear h1 h2 h3 h4
              go_enter Try.func11, Try.ntmps11
              go_wp2_with fail
              refine HK.out.mono ?_
              rintro e X ⟨rfl, rfl⟩
              go_wp2_with fail
              go_ret
              exact ⟨rfl, rfl⟩
  · have hok' : okL zs = false := by simpa using hok
    have h0 : errOf zs short = 1 := by unfold errOf; rw [if_pos hok']
    rw [h0] at hE
    subst hE
    rw [kraft_not hok'] at HK
    obtain ⟨L, hL⟩ : ∃ L, L = zs.length := ⟨_, rfl⟩
    rw [← hL] at HK ⊢
    simp only at HK
    clear hN hl hok hok' h0 hL
    go_enter Try.func11, Try.ntmps11
    go_wp2_with fail
    refine HK.out.mono ?_
    rintro e X ⟨rfl, rfl⟩
    go_wp2_with fail
    go_ret
    exact ⟨rfl, rfl⟩
end Go.Proofs.Ytcllcnccmjnieaa
