/- Huff3 -/
import Derived.Test.YtngnhkghpnamoaaHuffNum
namespace Go.Proofs.Ytngnhkghpnamoaa
open Go.RowKit Huff
set_option linter.unusedVariables false
set_option maxRecDepth 100000

def NewPost (w : World) (zs : List Int) (short : Bool) (e : Ending) (w' : World) : Prop :=
  (errOf zs short = 0 ∧ ∃ g, e = .returned (.tuple #[.pointer (some ⟨g, 0, none⟩), .int .i64 0]) ∧ CodeAt w' (g + 1) g (nats zs) ∧ Below w.heap.size w w') ∨
  (errOf zs short ≠ 0 ∧ e = .returned (.tuple #[.pointer none, .int .i64 (errOf zs short : Int)]) ∧ Below w.heap.size w w')

def NewYes (w : World) (l : List Nat) (e : Ending) (w' : World) : Prop := ∃ g, e = .returned (.tuple #[.pointer (some ⟨g, 0, none⟩), .int .i64 0]) ∧ CodeAt w' (g + 1) g l ∧ Below w.heap.size w w'
theorem okL_bounds {zs : List Int} (h : okL zs = true) : zs.length ≤ 288 ∧ (∀ z ∈ zs, 0 ≤ z) ∧ (∀ x ∈ nats zs, x ≤ 15) := by
  unfold okL at h
  rw [Bool.and_eq_true] at h
  have h2 := List.all_eq_true.1 h.2
  refine ⟨of_decide_eq_true h.1, fun z hz => (of_decide_eq_true (h2 z hz)).1, fun x hx => ?_⟩
  obtain ⟨z, hz, rfl⟩ := List.mem_map.1 hx
  have := of_decide_eq_true (h2 z hz)
  omega
set_option maxHeartbeats 4000000 in
theorem new_yes (A : Option Addr) (c : Nat) (zs : List Int) (short : Bool) (w : World) (hN : Ints w w.heap.size A zs) (hl : zs.length ≤ 1000000) (he : errOf zs short = 0) :
    Calls Try.prog 40 #[.slice A zs.length c, .bool short] w (NewYes w (nats zs)) := by
  have hok : okL zs = true := by
    unfold errOf at he
    by_cases h : okL zs = false
    · rw [if_pos h] at he; omega
    · simpa using h
  obtain ⟨b0, b1, b2⟩ := okL_bounds hok
  have hK := kraft_any A c zs w hN hl
  have hkr : kraft zs = (kr (nats zs), true) := by unfold kraft; rw [if_pos hok]
  rw [hkr] at hK
  have hln : (nats zs).length = zs.length := by simp [nats]
  have hNn : Nums .i64 w w.heap.size A (nats zs) := hN.to_nums b1
  have hnum := number_any A c (nats zs) w hNn (by omega) b2
  obtain ⟨R, hR⟩ : ∃ R, sparseB (nats zs) = R := ⟨_, rfl⟩
  have hsp := sparse_any A c (nats zs) w hNn (by omega) b2 R hR
  rw [hln] at hnum hsp
  have hc : ¬ 32768 < kr (nats zs) ∧ (kr (nats zs) < 32768 → short = true ∧ R = true) := by
    unfold errOf at he
    rw [if_neg (by simp [hok])] at he
    by_cases h1 : 32768 < kr (nats zs)
    · rw [if_pos h1] at he; omega
    · rw [if_neg h1] at he
      refine ⟨h1, fun h2 => ?_⟩
      by_cases h3 : short = true ∧ sparseB (nats zs) = true
      · rw [hR] at h3; exact h3
      · rw [if_pos ⟨h2, h3⟩] at he; omega
  have HK := Lib.hid hK
  have Hnum := Lib.hid hnum
  have Hsp := Lib.hid hsp
  obtain ⟨L, hL⟩ : ∃ L, L = zs.length := ⟨_, rfl⟩
  obtain ⟨s, hs⟩ : ∃ s, s = kr (nats zs) := ⟨_, rfl⟩
  rw [← hs] at HK hc
  rw [← hL] at HK Hnum Hsp ⊢
  simp only at HK
  obtain ⟨hc1, hc2⟩ := hc
  have d1 : decide ((32768 : Int) < (s : Int)) = false := decide_eq_false (by omega)
  have d2 : decide (32768 < s) = false := decide_eq_false hc1
  clear hK hnum hsp hR hkr hln hNn hN he hok b0 b1 b2 hl
  by_cases h2 : s < 32768
  · obtain ⟨rfl, rfl⟩ := hc2 h2
    have d3 : decide ((s : Int) < (32768 : Int)) = true := decide_eq_true (by omega)
    have d4 : decide (s < 32768) = true := decide_eq_true h2
    clear hc1 hc2 h2 hs hL
    go_enter Try.func40, Try.ntmps40
    go_wp2_with fail
    refine HK.out.mono ?_
    rintro e X ⟨rfl, rfl⟩
    go_wp2_with fail
    refine Hsp.out.mono ?_
    rintro e X ⟨rfl, rfl⟩
    go_wp2_with fail
    refine Hnum.out.mono ?_
    rintro e X ⟨g, rfl, hC, hB⟩
    have HC := Lib.hid hC
    have HB := Lib.hid hB
    clear hC hB
    go_wp2_with fail
    go_ret2
    exact ⟨g, rfl, HC.out, HB.out⟩
  · have d3 : decide ((s : Int) < (32768 : Int)) = false := decide_eq_false (by omega)
    have d4 : decide (s < 32768) = false := decide_eq_false h2
    clear hc1 hc2 h2 hs hL
    go_enter Try.func40, Try.ntmps40
    go_wp2_with fail
    refine HK.out.mono ?_
    rintro e X ⟨rfl, rfl⟩
    go_wp2_with fail
    refine Hnum.out.mono ?_
    rintro e X ⟨g, rfl, hC, hB⟩
    have HC := Lib.hid hC
    have HB := Lib.hid hB
    clear hC hB
    go_wp2_with fail
    go_ret2
    exact ⟨g, rfl, HC.out, HB.out⟩

def NewNo (w : World) (E : Nat) (e : Ending) (w' : World) : Prop := e = .returned (.tuple #[.pointer none, .int .i64 (E : Int)]) ∧ w = w'
set_option maxHeartbeats 4000000 in
theorem new_no (A : Option Addr) (c : Nat) (zs : List Int) (short : Bool) (w : World) (hN : Ints w w.heap.size A zs) (hl : zs.length ≤ 1000000) (he : errOf zs short ≠ 0) :
    Calls Try.prog 40 #[.slice A zs.length c, .bool short] w (NewNo w (errOf zs short)) := by
  have hK := kraft_any A c zs w hN hl
  have HK := Lib.hid hK
  obtain ⟨E, hE⟩ : ∃ E, errOf zs short = E := ⟨_, rfl⟩
  have HE := Lib.hid hE
  rw [hE]
  have hEE := hE
  unfold errOf at hEE
  by_cases hok : okL zs = false
  · rw [if_pos hok] at hEE
    subst hEE
    have hkr : kraft zs = (0, false) := by unfold kraft; rw [if_neg (by simp [hok])]
    rw [hkr] at HK
    obtain ⟨L, hL⟩ : ∃ L, L = zs.length := ⟨_, rfl⟩
    rw [← hL] at HK ⊢
    simp only at HK
    clear hK hE hkr hok hL hl he hN
    go_enter Try.func40, Try.ntmps40
    go_wp2_with fail
    refine HK.out.mono ?_
    rintro e X ⟨rfl, rfl⟩
    go_wp2_with fail
    go_ret2
    exact ⟨rfl, rfl⟩
  · have hok' : okL zs = true := by simpa using hok
    rw [if_neg hok] at hEE
    obtain ⟨b0, b1, b2⟩ := okL_bounds hok'
    have hkr : kraft zs = (kr (nats zs), true) := by unfold kraft; rw [if_pos hok']
    rw [hkr] at HK
    have hln : (nats zs).length = zs.length := by simp [nats]
    have hNn : Nums .i64 w w.heap.size A (nats zs) := hN.to_nums b1
    obtain ⟨R, hR⟩ : ∃ R, sparseB (nats zs) = R := ⟨_, rfl⟩
    have hsp := sparse_any A c (nats zs) w hNn (by omega) b2 R hR
    rw [hln] at hsp
    rw [hR] at hEE
    have Hsp := Lib.hid hsp
    obtain ⟨L, hL⟩ : ∃ L, L = zs.length := ⟨_, rfl⟩
    obtain ⟨s, hs⟩ : ∃ s, s = kr (nats zs) := ⟨_, rfl⟩
    rw [← hs] at HK hEE
    rw [← hL] at HK Hsp ⊢
    simp only at HK
    clear hsp hR hkr hln hNn hN hok hok' b0 b1 b2 hl hK
    by_cases h1 : 32768 < s
    · rw [if_pos h1] at hEE
      subst hEE
      have d1 : decide ((32768 : Int) < (s : Int)) = true := decide_eq_true (by omega)
      have d2 : decide (32768 < s) = true := decide_eq_true h1
      clear h1 hs hL hE he
      go_enter Try.func40, Try.ntmps40
      go_wp2_with fail
      refine HK.out.mono ?_
      rintro e X ⟨rfl, rfl⟩
      go_wp2_with fail
      go_ret2
      exact ⟨rfl, rfl⟩
    · rw [if_neg h1] at hEE
      have d1 : decide ((32768 : Int) < (s : Int)) = false := decide_eq_false (by omega)
      have d2 : decide (32768 < s) = false := decide_eq_false h1
      by_cases h2 : s < 32768 ∧ ¬ (short = true ∧ R = true)
      · rw [if_pos h2] at hEE
        subst hEE
        have d3 : decide ((s : Int) < (32768 : Int)) = true := decide_eq_true (by omega)
        have d4 : decide (s < 32768) = true := decide_eq_true h2.1
        have h3 := h2.2
        clear h1 hs hL hE he h2
        cases short
        · clear h3
          go_enter Try.func40, Try.ntmps40
          go_wp2_with fail
          refine HK.out.mono ?_
          rintro e X ⟨rfl, rfl⟩
          go_wp2_with fail
          go_ret2
          exact ⟨rfl, rfl⟩
        · have hR : R = false := by cases R; rfl; exact absurd ⟨rfl, rfl⟩ h3
          subst hR
          clear h3
          go_enter Try.func40, Try.ntmps40
          go_wp2_with fail
          refine HK.out.mono ?_
          rintro e X ⟨rfl, rfl⟩
          go_wp2_with fail
          refine Hsp.out.mono ?_
          rintro e X ⟨rfl, rfl⟩
          go_wp2_with fail
          go_ret2
          exact ⟨rfl, rfl⟩
      · rw [if_neg h2] at hEE
        exact absurd (hE.trans hEE.symm) he

/-- What Of answers. -/
def ofA (l : List Nat) (n : Int) : Nat × Nat := if 0 ≤ n ∧ n < l.length then wordOf l n.toNat else (0, 0)
set_option maxHeartbeats 2000000 in
theorem of_nil (n : Int) (w : World) : Calls Try.prog 68 #[.pointer none, .int .i64 n] w fun e w' => e = .returned (.tuple #[.int .u32 0, .int .i64 0]) ∧ w = w' := by
  go_enter Try.func68, Try.ntmps68
  go_wp2_with fail
  go_ret2
  exact ⟨rfl, rfl⟩
theorem words_get {l : List Nat} {i : Nat} (h : i < l.length) : (words l)[i]'(by simpa [words] using h) = wordOf l i := by simp [words]
set_option maxHeartbeats 2000000 in
theorem of_any (g base : Nat) (l : List Nat) (n : Int) (w : World) (h : CodeAt w base g l) (R : Nat × Nat) (hR : ofA l n = R) :
    Calls Try.prog 68 #[.pointer (some ⟨g, 0, none⟩), .int .i64 n] w fun e w' => e = .returned (.tuple #[.int .u32 (R.1 : Int), .int .i64 (R.2 : Int)]) ∧ ∃ k, w' = w.drewN k := by
  obtain ⟨gw, v, h1, hC, hW, hG⟩ := h
  have c0 : w.cell? ⟨g, 0, none⟩ = some (.slice (some ⟨gw, 0, none⟩) l.length l.length) := by rw [hC.cell]; rfl
  unfold ofA at hR
  by_cases hn : 0 ≤ n ∧ n < l.length
  · rw [if_pos hn] at hR
    obtain ⟨i, rfl⟩ : ∃ i : Nat, n = i := ⟨n.toNat, by omega⟩
    rw [Int.toNat_natCast] at hR
    have hi : i < l.length := by omega
    obtain ⟨x0, x1⟩ := wcells_get (words l) i (by simpa [words] using hi)
    rw [words_get hi, hR] at x0 x1
    have hx0 : w.cell? ⟨gw, i * 2, none⟩ = some (.int .u32 (R.1 : Int)) := by rw [hW.cell]; simpa using x0
    have hx1 : w.cell? ⟨gw, i * 2 + 1, none⟩ = some (.int .i64 (R.2 : Int)) := by rw [hW.cell]; simpa using x1
    obtain ⟨L, hL⟩ : ∃ L, L = l.length := ⟨_, rfl⟩
    rw [← hL] at c0 hi
    have d1 : decide ((i : Int) < 0) = false := decide_eq_false (by omega)
    have d2 : decide ((L : Int) ≤ (i : Int)) = false := decide_eq_false (by omega)
    have d3 : decide (L ≤ i) = false := decide_eq_false (by omega)
    have i0 : (0 : Int) ≤ (i : Int) := by omega
    have i1 : (i : Int) < (L : Int) := by omega
    clear hR hL hC hW hG hn x0 x1 h1
    go_enter Try.func68, Try.ntmps68
    go_wp2_with fail
    go_quiet (fail)
    go_wp2_with fail
    go_ret2
    exact ⟨rfl, _, rfl⟩
  · rw [if_neg hn] at hR
    subst hR
    by_cases h0 : n < 0
    · have d1 : decide (n < 0) = true := decide_eq_true h0
      clear hn h0 hC hW hG h1
      go_enter Try.func68, Try.ntmps68
      go_wp2_with fail
      go_ret2
      exact ⟨rfl, 0, rfl⟩
    · have d1 : decide (n < 0) = false := decide_eq_false h0
      obtain ⟨i, rfl⟩ : ∃ i : Nat, n = i := ⟨n.toNat, by omega⟩
      obtain ⟨L, hL⟩ : ∃ L, L = l.length := ⟨_, rfl⟩
      rw [← hL] at c0 hn
      have d2 : decide ((L : Int) ≤ (i : Int)) = true := decide_eq_true (by omega)
      have d3 : decide (L ≤ i) = true := decide_eq_true (by omega)
      clear hn h0 hC hW hG h1 hL
      go_enter Try.func68, Try.ntmps68
      go_wp2_with fail
      go_ret2
      exact ⟨rfl, 0, rfl⟩
end Go.Proofs.Ytngnhkghpnamoaa
