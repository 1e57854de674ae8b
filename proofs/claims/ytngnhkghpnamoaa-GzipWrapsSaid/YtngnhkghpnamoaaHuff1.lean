/- Huff1 -/
import Derived.Test.YtngnhkghpnamoaaGc08
import Derived.Test.YtngnhkghpnamoaaHuffMath
import Derived.Test.YtngnhkghpnamoaaGc02
import Derived.Deep.DeepCutAuto
namespace Go.Proofs.Ytngnhkghpnamoaa
open Go.RowKit Huff
set_option linter.unusedVariables false
set_option maxRecDepth 100000

theorem Ints.at {w : World} {B : Nat} {a : Option Addr} {l : List Int} (h : Ints w B a l) (k : Nat) (hk : k < l.length) : ∃ b off, a = some ⟨b, off, none⟩ ∧ b < B ∧ w.cell? ⟨b, off + k, none⟩ = some (.int .i64 l[k]) := by
  obtain ⟨b, off, rfl, hb, hc⟩ := h (by omega)
  refine ⟨b, off, rfl, hb, ?_⟩
  rw [hc k hk]
  simp [hk]
theorem shr_kr : ∀ n : Nat, 0 < n → n ≤ 15 → (32768 : Int) / 2 ^ n = ((krT n : Nat) : Int) := by
  intro n h0 h1
  have h : n = 1 ∨ n = 2 ∨ n = 3 ∨ n = 4 ∨ n = 5 ∨ n = 6 ∨ n = 7 ∨ n = 8 ∨ n = 9 ∨ n = 10 ∨ n = 11 ∨ n = 12 ∨ n = 13 ∨ n = 14 ∨ n = 15 := by omega
  rcases h with rfl | rfl | rfl | rfl | rfl | rfl | rfl | rfl | rfl | rfl | rfl | rfl | rfl | rfl | rfl <;> rfl
def okZ (z : Int) : Bool := decide (0 ≤ z ∧ z ≤ 15)
theorem okL_all {zs : List Int} (hl : zs.length ≤ 288) (h : ∀ k (hk : k < zs.length), okZ zs[k] = true) : okL zs = true := by
  unfold okL
  rw [Bool.and_eq_true]
  refine ⟨decide_eq_true hl, List.all_eq_true.2 fun z hz => ?_⟩
  obtain ⟨k, hk, rfl⟩ := List.getElem_of_mem hz
  exact h k hk
theorem okL_not {zs : List Int} {k : Nat} (hk : k < zs.length) (h : okZ zs[k] = false) : okL zs = false := by
  unfold okL
  rw [Bool.and_eq_false_iff]
  right
  rw [List.all_eq_false]
  exact ⟨zs[k], List.getElem_mem hk, by rw [show decide (0 ≤ zs[k] ∧ zs[k] ≤ 15) = okZ zs[k] from rfl, h]; simp⟩
theorem kr_nats_take (zs : List Int) (k : Nat) (h : k < zs.length) : kr (nats (zs.take (k + 1))) = kr (nats (zs.take k)) + krT zs[k].toNat := by
  unfold nats
  rw [List.take_succ_eq_append_getElem h, List.map_append, List.map_cons, List.map_nil, kr_snoc]

set_option maxHeartbeats 4000000 in
theorem kraft_any (A : Option Addr) (c : Nat) (zs : List Int) (w : World) (hN : Ints w w.heap.size A zs) (hl : zs.length ≤ 1000000) :
    Calls Try.prog 61 #[.slice A zs.length c] w fun e w' => e = .returned (.tuple #[.int .i64 ((kraft zs).1 : Int), .bool (kraft zs).2]) ∧ w = w' := by
  obtain ⟨L, hL⟩ : ∃ L, L = zs.length := ⟨_, rfl⟩
  have HN := Lib.hid hN
  rw [← hL] at hl ⊢
  have HL := Lib.hid hL
  clear hN hL
  obtain ⟨R, hR⟩ : ∃ R, kraft zs = R := ⟨_, rfl⟩
  rw [hR]
  have HR := Lib.hid hR
  clear hR
  go_enter Try.func61, Try.ntmps61
  by_cases hbig : 288 < L
  · have d1 : decide ((288 : Int) < (L : Int)) = true := decide_eq_true (by omega)
    have e : (0, false) = R := by
      rw [← HR.out]; unfold kraft
      rw [if_neg (by unfold okL; have := HL.out; simp; intro h; omega)]
    subst e
    clear hbig
    go_wp2_with fail
    go_ret2
    exact ⟨rfl, rfl⟩
  · have d1 : decide ((288 : Int) < (L : Int)) = false := decide_eq_false (by omega)
    have hL6 : L ≤ 288 := by omega
    clear hbig
    go_wp2_with fail
    go_loop [4, 12] (fun s x => ∃ k : Nat, k ≤ L ∧ x = .int .i64 (k : Int) ∧ s = .int .i64 ((kr (nats (zs.take k)) : Nat) : Int) ∧ Hid (∀ i (h : i < zs.length), i < k → okZ zs[i] = true)) (fun _ x => L - (intOf x).toNat)
    case atStart => exact ⟨0, Nat.zero_le _, rfl, rfl, Lib.hid (fun i h h2 => absurd h2 (by omega))⟩
    case round =>
      obtain ⟨k, hk, rfl, rfl, HO⟩ := hrel
      by_cases hlt : k < L
      · have hkl : k < zs.length := by have := HL.out; omega
        obtain ⟨b1, o1, rfl, hb1, p0⟩ := HN.out.at k hkl
        have hs := kr_nats_take zs k hkl
        have hok1 : okZ zs[k] = true → ∀ i (h : i < zs.length), i < k + 1 → okZ zs[i] = true := fun h i hi h2 => by
          rcases Nat.lt_or_eq_of_le (Nat.le_of_lt_succ h2) with h3 | h3
          · exact HO.out i hi h3
          · subst h3; exact h
        have hno : okZ zs[k] = false → okL zs = false := okL_not hkl
        have hsum : kr (nats (zs.take k)) ≤ 16384 * 288 := Nat.le_trans (kr_le _) (by unfold nats; simp; omega)
        have hsum2 := krT_le zs[k].toNat
        generalize zs[k]'hkl = z at *
        obtain ⟨s, hs0⟩ : ∃ s, kr (nats (zs.take k)) = s := ⟨_, rfl⟩
        rw [hs0] at hs hsum ⊢
        have Hs := Lib.hid hs
        have Hok1 := Lib.hid hok1
        have Hno := Lib.hid hno
        have hk0 : (0 : Int) ≤ (k : Int) := by omega
        have hk1 : (k : Int) < (L : Int) := by omega
        clear hs hok1 hno hs0 HO
        by_cases hz0 : z < 0
        · have d2 : decide (z < 0) = true := decide_eq_true hz0
          have e : (0, false) = R := by
            rw [← HR.out]; unfold kraft; rw [if_neg]; rw [Hno.out (by unfold okZ; exact decide_eq_false (by omega))]; simp
          subst e
          clear hz0 hsum hsum2
          go_wp2_with fail
          go_ret2
          exact ⟨rfl, rfl⟩
        · have d2 : decide (z < 0) = false := decide_eq_false hz0
          by_cases hz1 : 15 < z
          · have d3 : decide (15 < z) = true := decide_eq_true hz1
            have e : (0, false) = R := by
              rw [← HR.out]; unfold kraft; rw [if_neg]; rw [Hno.out (by unfold okZ; exact decide_eq_false (by omega))]; simp
            subst e
            clear hz0 hz1 hsum hsum2
            go_wp2_with fail
            go_ret2
            exact ⟨rfl, rfl⟩
          · have d3 : decide (15 < z) = false := decide_eq_false hz1
            obtain ⟨n, rfl⟩ : ∃ n : Nat, z = n := ⟨z.toNat, by omega⟩
            have Hok := Lib.hid (Hok1.out (by unfold okZ; exact decide_eq_true (by omega)))
            rw [Int.toNat_natCast] at Hs hsum2
            have hn15 : n ≤ 15 := by omega
            clear Hok1 Hno hz0 hz1
            by_cases hn0 : 0 < n
            · have d4 : decide ((0 : Int) < (n : Int)) = true := decide_eq_true (by omega)
              have d5 : decide (0 < n) = true := decide_eq_true hn0
              have hq := shr_kr n hn0 hn15
              obtain ⟨t, ht⟩ : ∃ t, krT n = t := ⟨_, rfl⟩
              rw [ht] at hq hsum2 Hs
              clear ht
              go_wp2_with fail
              go_round
              case rel => exact ⟨k + 1, by omega, by go_num, by rw [Hs.out]; go_num, Hok⟩
              case measure => simp [intOf]; omega
            · obtain rfl : n = 0 := by omega
              have hT : krT 0 = 0 := rfl
              rw [hT] at Hs
              clear hT hsum2 hn0 hn15
              go_wp2_with fail
              go_round
              case rel => exact ⟨k + 1, by omega, by go_num, by rw [Hs.out]; rfl, Hok⟩
              case measure => simp [intOf]; omega
      · obtain rfl : L = k := by omega
        have e : (kr (nats zs), true) = R := by
          rw [← HR.out]; unfold kraft; rw [if_pos (okL_all (by have := HL.out; omega) (fun i h => HO.out i h (by have := HL.out; omega)))]
        subst e
        have ht : zs.take L = zs := List.take_of_length_le (by have := HL.out; omega)
        rw [ht]
        clear ht
        go_wp2_with fail
        go_ret2
        exact ⟨rfl, rfl⟩

set_option maxHeartbeats 2000000 in
theorem sparse_any (A : Option Addr) (c : Nat) (l : List Nat) (w : World) (hN : Nums .i64 w w.heap.size A l) (hl : l.length ≤ 1000000) (hb : ∀ x ∈ l, x ≤ 15) (R : Bool) (hR : sparseB l = R) :
    Calls Try.prog 62 #[.slice A l.length c] w fun e w' => e = .returned (.bool R) ∧ w = w' := by
  obtain ⟨L, hL⟩ : ∃ L, L = l.length := ⟨_, rfl⟩
  have HN := Lib.hid hN
  rw [← hL] at hl ⊢
  have HL := Lib.hid hL
  have HR := Lib.hid hR
  have Hb := Lib.hid hb
  clear hN hL hR hb
  go_enter Try.func62, Try.ntmps62
  go_wp2_with fail
  go_loop [7] (fun x => ∃ k : Nat, k ≤ L ∧ x = .int .i64 (k : Int) ∧ Hid (∀ i (h : i < l.length), i < k → l[i] ≤ 1)) (fun x => L - (intOf x).toNat)
  case atStart => exact ⟨0, Nat.zero_le _, rfl, Lib.hid (fun i h h2 => absurd h2 (by omega))⟩
  case round =>
    obtain ⟨k, hk, rfl, HO⟩ := hrel
    by_cases hlt : k < L
    · have hkl : k < l.length := by have := HL.out; omega
      obtain ⟨b1, o1, rfl, hb1, hc⟩ := HN.out (by omega)
      have p0 := hc k hkl
      have hge : l.getD k 0 = l[k] := by simp [hkl]
      rw [hge] at p0
      have hok1 : l[k] ≤ 1 → ∀ i (h : i < l.length), i < k + 1 → l[i] ≤ 1 := fun h i hi h2 => by
        rcases Nat.lt_or_eq_of_le (Nat.le_of_lt_succ h2) with h3 | h3
        · exact HO.out i hi h3
        · subst h3; exact h
      have hno : ¬ l[k] ≤ 1 → sparseB l = false := fun h => by
        unfold sparseB
        rw [List.all_eq_false]
        exact ⟨l[k], List.getElem_mem hkl, by simpa using h⟩
      generalize l[k]'hkl = n at *
      have Hok1 := Lib.hid hok1
      have Hno := Lib.hid hno
      have hk0 : (0 : Int) ≤ (k : Int) := by omega
      have hk1 : (k : Int) < (L : Int) := by omega
      clear hok1 hno hge hc HO
      by_cases h1 : 1 < n
      · have d2 : decide ((1 : Int) < (n : Int)) = true := decide_eq_true (by omega)
        have d3 : decide (1 < n) = true := decide_eq_true h1
        have e : false = R := by rw [← HR.out]; exact (Hno.out (by omega)).symm
        subst e
        clear h1
        go_wp2_with fail
        go_ret
        exact ⟨rfl, rfl⟩
      · have d2 : decide ((1 : Int) < (n : Int)) = false := decide_eq_false (by omega)
        have d3 : decide (1 < n) = false := decide_eq_false h1
        have Hok := Lib.hid (Hok1.out (by omega))
        clear h1 Hok1 Hno
        go_wp2_with fail
        go_round
        case rel => exact ⟨k + 1, by omega, by go_num, Hok⟩
        case measure => simp [intOf]; omega
    · obtain rfl : L = k := by omega
      have e : true = R := by
        rw [← HR.out]; unfold sparseB; symm
        rw [List.all_eq_true]
        intro x hx
        obtain ⟨i, hi, rfl⟩ := List.getElem_of_mem hx
        exact decide_eq_true (HO.out i hi (by have := HL.out; omega))
      subst e
      clear hlt
      go_wp2_with fail
      go_ret
      exact ⟨rfl, rfl⟩
end Go.Proofs.Ytngnhkghpnamoaa
