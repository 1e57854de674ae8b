/- HuffRef3 -/
import Derived.Test.YtngnhkghpnamoaaGc45
namespace Go.Proofs.Ytngnhkghpnamoaa
open Go.RowKit Huff
set_option linter.unusedVariables false
set_option maxRecDepth 100000

theorem sinfo : (Try.prog.info? 9).map (fun i => (i.zero, i.size, i.bytes)) = some (some (.string ByteArray.empty), 1, 16) := by kernel_rfl
def strs (l : List (List Nat)) : List Value := l.map fun s => Value.string (strOf s)
theorem smade (n : Nat) : madeCells #[.string ByteArray.empty] n = (strs (List.replicate n [])).toArray := by
  apply Array.ext
  · simp [size_madeCells, strs]
  · intro j hj1 hj2
    simp [madeCells, strs, Nat.mod_one]
    rfl
/-- The text of a symbol's code. -/
def textOf (l : List Nat) (i : Nat) : List Nat := digs (wordOf l i).1 (wordOf l i).2
def textTo (l : List Nat) (k n i : Nat) : List Nat := if l.getD i 99 < k ∨ l.getD i 99 = k ∧ i < n then textOf l i else []
def textsTo (l : List Nat) (k n : Nat) : List (List Nat) := (List.range l.length).map (textTo l k n)
def texts (l : List Nat) : List (List Nat) := (List.range l.length).map (textOf l)
theorem textsTo_length (l : List Nat) (k n : Nat) : (textsTo l k n).length = l.length := by simp [textsTo]
theorem textsTo_start (l : List Nat) : List.replicate l.length [] = textsTo l 1 0 := by
  apply List.ext_getElem
  · simp [textsTo]
  · intro i h1 h2
    simp only [textsTo, List.getElem_replicate, List.getElem_map, List.getElem_range]
    unfold textTo
    split
    · next h =>
      unfold textOf wordOf
      rw [if_pos (by omega)]
      rfl
    · rfl
theorem textsTo_row (l : List Nat) (k : Nat) : textsTo l k l.length = textsTo l (k + 1) 0 := by
  apply List.ext_getElem
  · simp [textsTo]
  · intro i h1 h2
    have hi : i < l.length := by simpa [textsTo] using h1
    simp only [textsTo, List.getElem_map, List.getElem_range]
    unfold textTo
    have : (l.getD i 99 < k ∨ l.getD i 99 = k ∧ i < l.length) ↔ (l.getD i 99 < k + 1 ∨ l.getD i 99 = k + 1 ∧ i < 0) := by omega
    by_cases hc : l.getD i 99 < k ∨ l.getD i 99 = k ∧ i < l.length
    · rw [if_pos hc, if_pos (this.1 hc)]
    · rw [if_neg hc, if_neg (fun h => hc (this.2 h))]
theorem textsTo_end {l : List Nat} (hb : ∀ x ∈ l, x ≤ 15) : textsTo l 16 0 = texts l := by
  apply List.ext_getElem
  · simp [textsTo, texts]
  · intro i h1 h2
    have hi : i < l.length := by simpa [texts] using h2
    simp only [textsTo, texts, List.getElem_map, List.getElem_range]
    unfold textTo
    rw [if_pos]
    have : l.getD i 99 = l[i] := by simp [hi]
    have := hb _ (List.getElem_mem hi)
    omega
theorem textsTo_no {l : List Nat} {k n : Nat} (hn : n < l.length) (h : l.getD n 99 ≠ k) : textsTo l k n = textsTo l k (n + 1) := by
  apply List.ext_getElem
  · simp [textsTo]
  · intro i h1 h2
    simp only [textsTo, List.getElem_map, List.getElem_range]
    unfold textTo
    have : (l.getD i 99 < k ∨ l.getD i 99 = k ∧ i < n) ↔ (l.getD i 99 < k ∨ l.getD i 99 = k ∧ i < n + 1) := by
      constructor
      · rintro (h3 | ⟨h3, h4⟩)
        · exact .inl h3
        · exact .inr ⟨h3, by omega⟩
      · rintro (h3 | ⟨h3, h4⟩)
        · exact .inl h3
        · refine .inr ⟨h3, ?_⟩
          have : i ≠ n := fun e => h (by rw [← e]; exact h3)
          omega
    by_cases hc : l.getD i 99 < k ∨ l.getD i 99 = k ∧ i < n
    · rw [if_pos hc, if_pos (this.1 hc)]
    · rw [if_neg hc, if_neg (fun h => hc (this.2 h))]
theorem textsTo_yes {l : List Nat} {k n : Nat} (hk : 0 < k) (hn : n < l.length) (h : l.getD n 99 = k) : (textsTo l k n).set n (digs (fst l k + (symsTo l k n).length) k) = textsTo l k (n + 1) := by
  apply List.ext_getElem
  · simp [textsTo]
  · intro i h1 h2
    rw [List.getElem_set]
    simp only [textsTo, List.getElem_map, List.getElem_range]
    by_cases he : n = i
    · subst he
      rw [if_pos rfl]
      unfold textTo
      rw [if_pos (.inr ⟨h, by omega⟩)]
      unfold textOf wordOf
      rw [if_neg (by omega)]
      unfold rank
      rw [h]
    · rw [if_neg he]
      unfold textTo
      have : (l.getD i 99 < k ∨ l.getD i 99 = k ∧ i < n) ↔ (l.getD i 99 < k ∨ l.getD i 99 = k ∧ i < n + 1) := by omega
      by_cases hc : l.getD i 99 < k ∨ l.getD i 99 = k ∧ i < n
      · rw [if_pos hc, if_pos (this.1 hc)]
      · rw [if_neg hc, if_neg (fun h => hc (this.2 h))]
theorem strs_set (l : List (List Nat)) (k : Nat) (s : List Nat) : (strs l).set k (.string (strOf s)) = strs (l.set k s) := by simp [strs]
theorem Whole.sets {W : World} {g : Nat} {l : List (List Nat)} (h : Whole W g 9 (strs l).toArray) (k : Nat) (s : List Nat) : Whole (W.setCell ⟨g, k, none⟩ (.string (strOf s))) g 9 (strs (l.set k s)).toArray := by
  have := h.set k (.string (strOf s))
  rw [List.setIfInBounds_toArray, strs_set] at this
  exact this
def CodesPost (w : World) (l : List Nat) (e : Ending) (w' : World) : Prop := ∃ g, e = .returned (.slice (some ⟨g, 0, none⟩) l.length l.length) ∧ Whole w' g 9 (strs (texts l)).toArray ∧ Below w.heap.size w w' ∧ w.heap.size ≤ g

set_option maxHeartbeats 8000000 in
theorem codes_any (A : Option Addr) (c : Nat) (l : List Nat) (w : World) (hN : Nums .i64 w w.heap.size A l) (hl : l.length ≤ 288) (hb : ∀ x ∈ l, x ≤ 15) :
    Calls Try.prog 30 #[.slice A l.length c] w (CodesPost w l) := by
  obtain ⟨i0, hi0, hz0, hz1, hz2⟩ := info_parts sinfo
  obtain ⟨L, hL⟩ : ∃ L, L = l.length := ⟨_, rfl⟩
  have HN := Lib.hid hN
  unfold CodesPost
  rw [← hL] at hl ⊢
  have HL := Lib.hid hL
  have Hb := Lib.hid hb
  have hmk := run_make (P := Try.prog) w 59 9 i0 _ Try.underlying59 hi0 hz0 .i64 .i64 (L : Int) (L : Int) (by omega) (Int.le_refl _) (by rw [hz2]; omega) (by omega)
  simp only [Int.toNat_natCast] at hmk
  rw [hz1, show (Value.string ByteArray.empty).cells = #[.string ByteArray.empty] from rfl, Nat.mul_one, smade] at hmk
  have Hdig := Lib.hid digits_any
  have hfs : Hid (∀ n, 1 ≤ n → n ≤ 15 → 2 * nxt l (n - 1) = fst l n ∧ nxt l (n - 1) < 10000000 ∧ fst l n + (syms l n).length = nxt l n ∧ nxt l n < 10000000) := fun n h1 h2 => by
    have hl2 : l.length ≤ 288 := by have := HL.out; omega
    obtain ⟨m, rfl⟩ : ∃ m, n = m + 1 := ⟨n - 1, by omega⟩
    exact ⟨rfl, nxt_lt l hl2 _ (by omega), rfl, nxt_lt l hl2 _ (by omega)⟩
  clear hN hL hb
  go_enter Try.func30, Try.ntmps30
  go_upto_region 3 with (fail)
  obtain ⟨g, hg⟩ : ∃ g, g = w.heap.size := ⟨_, rfl⟩
  obtain ⟨X1, hX1⟩ : ∃ X, X = w.alloc (.cells (strs (List.replicate L [])).toArray 9) := ⟨_, rfl⟩
  have HW0 : Hid (Whole X1 g 9 (strs (textsTo l 1 0)).toArray) := by rw [hX1, hg, ← textsTo_start, ← HL.out]; exact Whole.new w _ _
  have HB0 : Hid (Below w.heap.size w X1) := by rw [hX1]; exact (Below.refl _ _).alloc (Nat.le_refl _) _
  rw [← hX1, ← hg]
  have Hg := Lib.hid hg
  clear hX1 hg hmk
  go_wp2_with fail
  go_loopw [4, 5] (fun x y W => ∃ (n : Nat), 1 ≤ n ∧ n ≤ 16 ∧ y = .int .i64 (n : Int) ∧ x = .int .i64 ((nxt l (n - 1) : Nat) : Int) ∧ Hid (Whole W g 9 (strs (textsTo l n 0)).toArray) ∧ Hid (Below w.heap.size w W)) (fun _ y _ => 16 - (intOf y).toNat)
  case atStart => exact ⟨1, by omega, by omega, rfl, rfl, HW0, HB0⟩
  case round =>
    obtain ⟨n, hn1, hn2, rfl, rfl, HW, HB⟩ := hrel
    clear HW0 HB0
    by_cases hlt : n ≤ 15
    · obtain ⟨g1, g2, g3, g4⟩ := hfs.out n hn1 hlt
      have HFs := Lib.hid g3
      have hF1 : 2 * ((nxt l (n - 1) : Nat) : Int) = ((fst l n : Nat) : Int) := by omega
      have hFl : fst l n < 20000001 := by omega
      obtain ⟨F, hF⟩ : ∃ F, fst l n = F := ⟨_, rfl⟩
      rw [hF] at hF1 hFl HFs
      have HF := Lib.hid hF
      have HW0 := HW
      have HB0 := HB
      have d1 : decide ((n : Int) < 16) = true := decide_eq_true (by omega)
      have hm1 : ((nxt l (n - 1) : Nat) : Int) < 10000000 := by omega
      obtain ⟨v0, hv0⟩ : ∃ v, nxt l (n - 1) = v := ⟨_, rfl⟩
      rw [hv0] at hF1 hm1 ⊢
      obtain ⟨X0, hX0⟩ : ∃ X, X = wr := ⟨_, rfl⟩
      subst hX0
      clear g1 g2 g3 g4 hF HW HB hv0
      go_wp2_with fail
      go_loopw [4, 6] (fun x y W => ∃ (j : Nat), j ≤ L ∧ y = .int .i64 (j : Int) ∧ x = .int .i64 ((F + (symsTo l n j).length : Nat) : Int) ∧ Hid (Whole W g 9 (strs (textsTo l n j)).toArray) ∧ Hid (Below w.heap.size w W)) (fun _ y _ => L - (intOf y).toNat)
      case atStart => exact ⟨0, by omega, rfl, rfl, HW0, HB0⟩
      case round =>
        obtain ⟨j, hj, rfl, rfl, HW, HB⟩ := hrel
        clear HW0 HB0
        by_cases hlt2 : j < L
        · have hkl : j < l.length := by have := HL.out; omega
          obtain ⟨b1, o1, rfl, hb1, hc⟩ := HN.out (by omega)
          have p0 := (HB.out.cell (p := ⟨b1, o1 + j, none⟩) hb1).trans (hc j hkl)
          have hge : l.getD j 0 = l.getD j 99 := by simp [hkl]
          rw [hge] at p0
          have hsl := symsTo_len l n j
          have hno := fun h => textsTo_no (k := n) hkl h
          have hyes := fun h => textsTo_yes (k := n) (show 0 < n by omega) hkl h
          have hst : symsTo l n (j + 1) = symsTo l n j ++ if l.getD j 99 = n then [j] else [] := rfl
          obtain ⟨m, hm⟩ : ∃ m, l.getD j 99 = m := ⟨_, rfl⟩
          rw [hm] at p0 hno hyes hst
          have hcg : wr.cell? ⟨g, j, none⟩ = some (.string (strOf ((textsTo l n j)[j]'(by rw [textsTo_length]; exact hkl)))) := by rw [HW.out.cell]; simp [strs, textsTo_length, hkl]
          have hcf : wr.frozen? ⟨g, j, none⟩ = false := HW.out.frozen _
          generalize ((textsTo l n j)[j]'(by rw [textsTo_length]; exact hkl)) = old at *
          have k0 : (0 : Int) ≤ (j : Int) := by omega
          have k1 : (j : Int) < (L : Int) := by omega
          obtain ⟨s, hs⟩ : ∃ s, (symsTo l n j).length = s := ⟨_, rfl⟩
          rw [hs] at hsl hyes ⊢
          have hsl3 : s ≤ 288 := by omega
          by_cases hmn : m = n
          · have d2 : ((m : Int) == (n : Int)) = true := beq_iff_eq.2 (by omega)
            have Hy := Lib.hid (hyes hmn)
            rw [if_pos hmn] at hst
            have Hst : Hid ((symsTo l n (j + 1)).length = s + 1) := by show _ = _; rw [hst, List.length_append, hs]; rfl
            rw [HF.out] at Hy
            have Hq := Lib.hid (Hdig.out (F + s) n wr (by omega) (by omega))
            have HW2 := HW.out.sets j (digs (F + s) n)
            rw [Hy.out] at HW2
            have HW3 := Lib.hid HW2
            have HB3 := Lib.hid (HB.out.setCell (p := ⟨g, j, none⟩) (by rw [Hg.out]; exact Nat.le_refl _) (.string (strOf (digs (F + s) n))))
            obtain ⟨V, hV⟩ : ∃ V, F + s = V := ⟨_, rfl⟩
            rw [hV] at Hq HW3 HB3 ⊢
            have hV1 : Hid (V + 1 = F + (symsTo l n (j + 1)).length) := by show _ = _; rw [Hst.out]; omega
            have hVl : V < 30000000 := by omega
            obtain ⟨D, hD⟩ : ∃ D, digs V n = D := ⟨_, rfl⟩
            rw [hD] at Hq HW3 HB3
            clear hyes hno hst hs hmn hm hge hc HW HB hsl HW2 hV Hy hD
            go_wp2_with fail
            refine Hq.out.mono ?_
            rintro e X ⟨rfl, rfl⟩
            go_wp2_with fail
            go_roundw
            case rel => exact ⟨j + 1, by omega, by go_num, by rw [← hV1.out]; go_num, HW3, HB3⟩
            case measure => simp [intOf]; omega
          · have d2 : ((m : Int) == (n : Int)) = false := beq_eq_false_iff_ne.mpr (by omega)
            have hn9 := hno hmn
            rw [if_neg hmn, List.append_nil] at hst
            have Hst : Hid ((symsTo l n (j + 1)).length = s) := by show _ = _; rw [hst, hs]
            have HW3 : Hid (Whole wr g 9 (strs (textsTo l n (j + 1))).toArray) := by rw [← hn9]; exact HW.out
            clear hyes hno hst hs hmn hm hge hc HW hn9 hsl
            go_wp2_with fail
            go_roundw
            case rel => exact ⟨j + 1, by omega, by go_num, by rw [Hst.out], HW3, HB⟩
            case measure => simp [intOf]; omega
        · obtain rfl : L = j := by omega
          have HW3 : Hid (Whole wr g 9 (strs (textsTo l (n + 1) 0)).toArray) := by have := HW.out; rw [HL.out, textsTo_row] at this; exact this
          have Hnn : Hid (F + (symsTo l n L).length = nxt l n) := by show _ = _; rw [← HFs.out]; unfold syms; rw [HL.out]
          have hnn2 : n + 1 - 1 = n := by omega
          have Hnn2 := Lib.hid hnn2
          clear hnn2 HW hlt2
          go_wp2_with fail
          go_roundw
          case rel => exact ⟨n + 1, by omega, by omega, by go_num, by rw [Hnn2.out, ← Hnn.out], HW3, HB⟩
          case measure => simp [intOf]; omega
    · obtain rfl : n = 16 := by omega
      have HW3 : Hid (Whole wr g 9 (strs (texts l)).toArray) := by have := HW.out; rw [textsTo_end Hb.out] at this; exact this
      clear hlt hn1 hn2 HW
      go_wp2_with fail
      go_ret
      exact ⟨g, rfl, HW3.out, HB.out, by rw [Hg.out]; exact Nat.le_refl _⟩
end Go.Proofs.Ytngnhkghpnamoaa
