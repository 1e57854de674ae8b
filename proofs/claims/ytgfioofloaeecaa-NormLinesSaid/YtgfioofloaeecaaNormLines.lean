/- Walks over layer 26: Lines, both; Ring. -/
import Derived.Test.YtgfioofloaeecaaPPts
namespace Go.Proofs.Ytgfioofloaeecaa
open Go.RowKit
set_option linter.unusedVariables false
set_option maxRecDepth 100000

/-- What Lines answers, of rounded parts. -/
def linesP (rr : List (List P2)) : List (List P2) := (rr.map fun l => simpleE l false).filter fun l => decide (2 ≤ l.length)
theorem linesP_yes {l : List P2} {rr : List (List P2)} (h : 2 ≤ (simpleE l false).length) : linesP (l :: rr) = simpleE l false :: linesP rr := by
  unfold linesP
  rw [List.map_cons, List.filter_cons, decide_eq_true h]; rfl
theorem linesP_no {l : List P2} {rr : List (List P2)} (h : ¬ 2 ≤ (simpleE l false).length) : linesP (l :: rr) = linesP rr := by
  unfold linesP
  rw [List.map_cons, List.filter_cons, decide_eq_false h]; rfl
def PPPost (w : World) (ll : List (List P2)) (e : Ending) (w' : World) : Prop := ∃ v, e = .returned v ∧ RdPP w' w'.heap.size v ll ∧ Below w.heap.size w w'
theorem own_cells {w : World} {base : Nat} {v : Value} {ll : List (List P2)} (h : OwnPP w base v ll) : ∃ xs, w.ownsRow base 23 1 v ll.length xs ∧ xs.length = ll.length ∧ ∀ i (h : i < ll.length), ∃ u, xs[i]? = some u ∧ RdN w v.ownBlock u ll[i] := by
  obtain ⟨xs, h1, h2⟩ := h
  exact ⟨xs, h1, by have := h1.1; omega, h2⟩

set_option maxHeartbeats 8000000 in
theorem lines_any (v : Value) (ll : List (List Sp)) (w : World) (h : RdSS w w.heap.size v ll) (hl : ll.length ≤ 1000) (hl2 : ∀ l ∈ ll, l.length ≤ 1000) (R : List (List P2)) (hR : linesP (ll.map fun l => l.map rzS) = R) :
    Calls Try.prog 15 #[v] w (PPPost w R) := by
  obtain ⟨i0, hi0, hz0, hz1, hz2⟩ := info_parts ppinfo
  obtain ⟨a0, c0, rfl, _, _, ha⟩ := h.at
  obtain ⟨L0, hL0⟩ : ∃ L, L = ll.length := ⟨_, rfl⟩
  have HA := Lib.hid ha
  have HL := Lib.hid hL0
  have HL2 := Lib.hid hl2
  have HR := Lib.hid hR
  rw [← hL0] at hl ⊢
  clear hL0 ha hR hl2 h
  go_enter Try.func15, Try.ntmps15
  go_wp2_with fail
  go_loopw [9, 3] (fun i u W => ∃ (k : Nat) (m : List (List P2)) (v : Value), k ≤ L0 ∧ i = .int .i64 (k : Int) ∧ v = u ∧ Hid (OwnPP W w.heap.size v m) ∧ m.length ≤ k ∧ Hid (Below w.heap.size w W) ∧ Hid (m ++ linesP ((ll.drop k).map fun l => l.map rzS) = R)) (fun i _ _ => L0 - (intOf i).toNat)
  case atStart => exact ⟨0, [], _, Nat.zero_le _, rfl, rfl, OwnPP.nil_ _ _, Nat.le_refl _, Below.refl _ _, HR.out⟩
  case round =>
    obtain ⟨k, m, v, hk, rfl, rfl, HO, hm, HBW, hs⟩ := hrel
    by_cases hlt : k < L0
    · have hkl : k < ll.length := by have := HL.out; omega
      have hdr : ll.drop k = ll[k] :: ll.drop (k + 1) := List.drop_eq_getElem_cons hkl
      obtain ⟨b1, o1, u1, rfl, hb1, p0, hr1⟩ := HA.out k hkl
      have hm1 := HL2.out _ (List.getElem_mem hkl)
      have hs2 := hs.out
      rw [hdr] at hs2
      generalize ll[k]'hkl = l at *
      have p0 := (HBW.out.cell (p := ⟨b1, o1 + k, none⟩) hb1).trans p0
      have Hno : Hid (¬ 2 ≤ (simpleE (l.map rzS) false).length → m ++ linesP ((ll.drop (k + 1)).map fun l => l.map rzS) = R) := fun h => by rw [← hs2]; first | rw [List.map_cons, linesP_no h] | rw [linesP_no h]
      have Hyes : Hid (2 ≤ (simpleE (l.map rzS) false).length → (m ++ [simpleE (l.map rzS) false]) ++ linesP ((ll.drop (k + 1)).map fun l => l.map rzS) = R) := fun h => by rw [← hs2]; first | (rw [List.map_cons, linesP_yes h]; simp; done) | (rw [linesP_yes h]; simp)
      have hk0 : (0 : Int) ≤ (k : Int) := by omega
      have hk1 : (k : Int) < (L0 : Int) := by omega
      have Hm := Lib.hid hm
      clear hs hs2 hdr hm hb1
      have hlm : (l.map rzS).length ≤ 1000 := by rw [List.length_map]; exact hm1
      obtain ⟨r, hr⟩ : ∃ r, l.map rzS = r := ⟨_, rfl⟩
      rw [hr] at hlm Hno Hyes
      have Hq := Lib.hid (nround_any _ l wr ((hr1.below HBW.out).more HBW.out.size) hm1 r hr)
      obtain ⟨a1, c1, rfl, _, _, _, _⟩ := hr1
      have Hlm := Lib.hid hlm
      clear hr hlm hm1
      obtain ⟨M0, hM0⟩ : ∃ M, l.length = M := ⟨_, rfl⟩
      rw [hM0] at p0 Hq
      clear hM0
      go_wp2_with fail
      refine Hq.out.mono ?_
      rintro e X1 ⟨ur, rfl, hr, hX, _⟩
      have HB1 := Lib.hid (below_then HBW.out hX HBW.out.size)
      have HO1 := Lib.hid (HO.out.below hX)
      have Hq2 := Lib.hid (simple_any ur r false X1 hr Hlm.out _ rfl)
      clear hr hX Hq p0
      go_wp2_with fail
      refine Hq2.out.mono ?_
      rintro e X2 ⟨us, rfl, hus, hX, hfr⟩
      have HB2 := Lib.hid (below_then HB1.out hX HB1.out.size)
      have HO2 := Lib.hid (HO1.out.below hX)
      have hne : ∀ b, us.ownBlock = some b → v.ownBlock ≠ some b := fun b e1 e2 => by
        have h1 := hfr b e1
        have h2 := (HO1.out.lt b e2).2
        omega
      have HU := Lib.hid (RdN.of_rd hus hne)
      have huo := rdp_one hus
      obtain ⟨sa, sc, rfl, _, _, _⟩ := hus
      clear hX hfr hne Hq2
      obtain ⟨S, hS⟩ : ∃ S, simpleE r false = S := ⟨_, rfl⟩
      rw [hS] at Hno Hyes HU huo ⊢
      clear hS
      obtain ⟨M, hM⟩ : ∃ M, S.length = M := ⟨_, rfl⟩
      have HM := Lib.hid hM
      rw [hM] at HU huo Hno Hyes ⊢
      clear hM
      by_cases h2 : 2 ≤ M
      · have d1 : decide ((2 : Int) ≤ (M : Int)) = true := decide_eq_true (by omega)
        have d2 : decide (2 ≤ M) = true := decide_eq_true h2
        have d3 : decide ((1 : Int) < (M : Int)) = true := decide_eq_true (by omega)
        have d4 : decide (1 < M) = true := decide_eq_true (by omega)
        have Hy := Lib.hid (Hyes.out h2)
        obtain ⟨xs, hown, hxl, hx⟩ := own_cells HO2.out
        have HX := Lib.hid hx
        clear Hno Hyes h2 hx
        go_wp2_with (at_builtin; refine app_one rfl (.tmp 19) (.tmp 21) 34 rfl w.heap.size 23 i0 _ 24 Try.underlying34 hi0 hz0 hz1 hz2 rfl v _ _ rfl hown (.slice sa M sc) 1 rfl huo (by have := Hm.out; unfold maxLen; omega) (by have := Hm.out; omega) HB2.out.size ?_)
        intro v3 w3 h2 h3 h5
        have hG := own_grow HX.out hxl HU.out h2 h3 h5
        have HG := Lib.hid hG
        have HB3 := Lib.hid (HB2.out.trans (below_of_grown (base := w.heap.size) (Below.refl w.heap.size X2) hown h3 HB2.out.size))
        clear h2 h3 h5 hG hown hxl
        go_wp2_with fail
        go_roundw
        case rel => exact ⟨k + 1, m ++ [S], v3, hlt, by go_num, rfl, HG, by have := Hm.out; simp; omega, HB3, Hy⟩
        case measure => simp [intOf]; omega
      · have d1 : decide ((2 : Int) ≤ (M : Int)) = false := decide_eq_false (by omega)
        have d2 : decide (2 ≤ M) = false := decide_eq_false h2
        have d3 : decide ((1 : Int) < (M : Int)) = false := decide_eq_false (by omega)
        have d4 : decide (1 < M) = false := decide_eq_false (by omega)
        have Hy := Lib.hid (Hno.out h2)
        clear Hno Hyes h2
        go_wp2_with fail
        go_roundw
        case rel => exact ⟨k + 1, m, v, hlt, by go_num, rfl, HO2, by have := Hm.out; omega, HB2, Hy⟩
        case measure => simp [intOf]; omega
    · obtain rfl : L0 = k := by omega
      rw [List.drop_of_length_le (by have := HL.out; omega)] at hs
      have e : m = R := by have := hs.out; simpa [linesP] using this
      subst e
      have H1 := Lib.hid HO.out.rd
      clear HO
      go_wp2_with fail
      go_ret
      exact ⟨_, rfl, H1.out, HBW.out⟩

set_option maxHeartbeats 8000000 in
theorem refLines_any (v : Value) (ll : List (List P2)) (w : World) (h : RdPP w w.heap.size v ll) (hl : ll.length ≤ 1000) (hl2 : ∀ l ∈ ll, l.length ≤ 1000) (R : List (List P2)) (hR : linesP (ll) = R) :
    Calls Try.prog 16 #[v] w (PPPost w R) := by
  obtain ⟨i0, hi0, hz0, hz1, hz2⟩ := info_parts ppinfo
  obtain ⟨a0, c0, rfl, _, _, ha⟩ := h.at
  obtain ⟨L0, hL0⟩ : ∃ L, L = ll.length := ⟨_, rfl⟩
  have HA := Lib.hid ha
  have HL := Lib.hid hL0
  have HL2 := Lib.hid hl2
  have HR := Lib.hid hR
  rw [← hL0] at hl ⊢
  clear hL0 ha hR hl2 h
  go_enter Try.func16, Try.ntmps16
  go_wp2_with fail
  go_loopw [4, 3] (fun i u W => ∃ (k : Nat) (m : List (List P2)) (v : Value), k ≤ L0 ∧ i = .int .i64 (k : Int) ∧ v = u ∧ Hid (OwnPP W w.heap.size v m) ∧ m.length ≤ k ∧ Hid (Below w.heap.size w W) ∧ Hid (m ++ linesP (ll.drop k) = R)) (fun i _ _ => L0 - (intOf i).toNat)
  case atStart => exact ⟨0, [], _, Nat.zero_le _, rfl, rfl, OwnPP.nil_ _ _, Nat.le_refl _, Below.refl _ _, HR.out⟩
  case round =>
    obtain ⟨k, m, v, hk, rfl, rfl, HO, hm, HBW, hs⟩ := hrel
    by_cases hlt : k < L0
    · have hkl : k < ll.length := by have := HL.out; omega
      have hdr : ll.drop k = ll[k] :: ll.drop (k + 1) := List.drop_eq_getElem_cons hkl
      obtain ⟨b1, o1, u1, rfl, hb1, p0, hr1⟩ := HA.out k hkl
      have hm1 := HL2.out _ (List.getElem_mem hkl)
      have hs2 := hs.out
      rw [hdr] at hs2
      generalize ll[k]'hkl = l at *
      have p0 := (HBW.out.cell (p := ⟨b1, o1 + k, none⟩) hb1).trans p0
      have Hno : Hid (¬ 2 ≤ (simpleE (l) false).length → m ++ linesP (ll.drop (k + 1)) = R) := fun h => by rw [← hs2]; first | rw [List.map_cons, linesP_no h] | rw [linesP_no h]
      have Hyes : Hid (2 ≤ (simpleE (l) false).length → (m ++ [simpleE (l) false]) ++ linesP (ll.drop (k + 1)) = R) := fun h => by rw [← hs2]; first | (rw [List.map_cons, linesP_yes h]; simp; done) | (rw [linesP_yes h]; simp)
      have hk0 : (0 : Int) ≤ (k : Int) := by omega
      have hk1 : (k : Int) < (L0 : Int) := by omega
      have Hm := Lib.hid hm
      clear hs hs2 hdr hm hb1
      have Hq2 := Lib.hid (refSimple_any _ l false wr ((hr1.below HBW.out).more HBW.out.size) hm1 _ rfl)
      obtain ⟨a1, c1, rfl, _, _, _⟩ := hr1
      have Hlm := Lib.hid hm1
      have HB1 := HBW
      have HO1 := HO
      obtain ⟨M0, hM0⟩ : ∃ M, l.length = M := ⟨_, rfl⟩
      rw [hM0] at p0 Hq2
      clear hM0 hm1
      obtain ⟨X1, hX1⟩ : ∃ X, X = wr := ⟨_, rfl⟩
      rw [← hX1] at HB1 HO1 Hq2 p0 ⊢
      clear hX1
      go_wp2_with fail
      refine Hq2.out.mono ?_
      rintro e X2 ⟨us, rfl, hus, hX, hfr⟩
      have HB2 := Lib.hid (below_then HB1.out hX HB1.out.size)
      have HO2 := Lib.hid (HO1.out.below hX)
      have hne : ∀ b, us.ownBlock = some b → v.ownBlock ≠ some b := fun b e1 e2 => by
        have h1 := hfr b e1
        have h2 := (HO1.out.lt b e2).2
        omega
      have HU := Lib.hid (RdN.of_rd hus hne)
      have huo := rdp_one hus
      obtain ⟨sa, sc, rfl, _, _, _⟩ := hus
      clear hX hfr hne Hq2
      obtain ⟨S, hS⟩ : ∃ S, simpleE l false = S := ⟨_, rfl⟩
      rw [hS] at Hno Hyes HU huo ⊢
      clear hS
      obtain ⟨M, hM⟩ : ∃ M, S.length = M := ⟨_, rfl⟩
      have HM := Lib.hid hM
      rw [hM] at HU huo Hno Hyes ⊢
      clear hM
      by_cases h2 : 2 ≤ M
      · have d1 : decide ((2 : Int) ≤ (M : Int)) = true := decide_eq_true (by omega)
        have d2 : decide (2 ≤ M) = true := decide_eq_true h2
        have d3 : decide ((1 : Int) < (M : Int)) = true := decide_eq_true (by omega)
        have d4 : decide (1 < M) = true := decide_eq_true (by omega)
        have Hy := Lib.hid (Hyes.out h2)
        obtain ⟨xs, hown, hxl, hx⟩ := own_cells HO2.out
        have HX := Lib.hid hx
        clear Hno Hyes h2 hx
        go_wp2_with (at_builtin; refine app_one rfl (.tmp 20) (.tmp 22) 34 rfl w.heap.size 23 i0 _ 24 Try.underlying34 hi0 hz0 hz1 hz2 rfl v _ _ rfl hown (.slice sa M sc) 1 rfl huo (by have := Hm.out; unfold maxLen; omega) (by have := Hm.out; omega) HB2.out.size ?_)
        intro v3 w3 h2 h3 h5
        have hG := own_grow HX.out hxl HU.out h2 h3 h5
        have HG := Lib.hid hG
        have HB3 := Lib.hid (HB2.out.trans (below_of_grown (base := w.heap.size) (Below.refl w.heap.size X2) hown h3 HB2.out.size))
        clear h2 h3 h5 hG hown hxl
        go_wp2_with fail
        go_roundw
        case rel => exact ⟨k + 1, m ++ [S], v3, hlt, by go_num, rfl, HG, by have := Hm.out; simp; omega, HB3, Hy⟩
        case measure => simp [intOf]; omega
      · have d1 : decide ((2 : Int) ≤ (M : Int)) = false := decide_eq_false (by omega)
        have d2 : decide (2 ≤ M) = false := decide_eq_false h2
        have d3 : decide ((1 : Int) < (M : Int)) = false := decide_eq_false (by omega)
        have d4 : decide (1 < M) = false := decide_eq_false (by omega)
        have Hy := Lib.hid (Hno.out h2)
        clear Hno Hyes h2
        go_wp2_with fail
        go_roundw
        case rel => exact ⟨k + 1, m, v, hlt, by go_num, rfl, HO2, by have := Hm.out; omega, HB2, Hy⟩
        case measure => simp [intOf]; omega
    · obtain rfl : L0 = k := by omega
      rw [List.drop_of_length_le (by have := HL.out; omega)] at hs
      have e : m = R := by have := hs.out; simpa [linesP] using this
      subst e
      have H1 := Lib.hid HO.out.rd
      clear HO
      go_wp2_with fail
      go_ret
      exact ⟨_, rfl, H1.out, HBW.out⟩

def RingPost (w : World) (r : List P2) (e : Ending) (w' : World) : Prop := ∃ v, e = .returned (.tuple #[v, .bool (decide (3 ≤ r.length))]) ∧ Below w.heap.size w w' ∧ (3 ≤ r.length → RdP w' w'.heap.size v r) ∧ (¬ 3 ≤ r.length → v = .slice none 0 0)
set_option maxHeartbeats 4000000 in
theorem ring_any (v : Value) (l : List Sp) (w : World) (h : RdS w w.heap.size v l) (hl : l.length ≤ 1000) (R : List P2) (hR : simpleE (l.map rzS) true = R) : Calls Try.prog 17 #[v] w (RingPost w R) := by
  obtain ⟨r, hr⟩ : ∃ r, l.map rzS = r := ⟨_, rfl⟩
  have hrl : r.length ≤ 1000 := by rw [← hr, List.length_map]; exact hl
  have Hq := Lib.hid (nround_any v l w h hl r hr)
  have Hq2 := Lib.hid fun u W hW => simple_any u r true W hW hrl R (by rw [← hr]; exact hR)
  clear h hl hR hr hrl
  go_enter Try.func17, Try.ntmps17
  go_wp2_with fail
  refine Hq.out.mono ?_
  rintro e X1 ⟨u, rfl, hu, hX, _⟩
  have HB1 := Lib.hid hX
  have Hq3 := Lib.hid (Hq2.out u X1 hu)
  clear hu hX Hq Hq2
  go_wp2_with fail
  refine Hq3.out.mono ?_
  rintro e X2 ⟨s, rfl, hs, hX, _⟩
  have HB2 := Lib.hid (below_then HB1.out hX HB1.out.size)
  have HS := Lib.hid hs
  obtain ⟨a, c, rfl, _, _, _⟩ := hs
  clear hX Hq3
  obtain ⟨M, hM⟩ : ∃ M, R.length = M := ⟨_, rfl⟩
  have HM := Lib.hid hM
  rw [hM] at HS ⊢
  by_cases h2 : M < 3
  · have d1 : decide ((M : Int) < 3) = true := decide_eq_true (by omega)
    have d2 : decide (M < 3) = true := decide_eq_true h2
    have Hd : Hid (decide (3 ≤ R.length) = false) := decide_eq_false (by omega)
    have Hn : Hid (¬ 3 ≤ R.length) := by show ¬ _; omega
    clear h2 hM
    go_wp2_with fail
    go_ret2
    exact ⟨_, by rw [Hd.out]; rfl, HB2.out, fun h => absurd h Hn.out, fun _ => rfl⟩
  · have d1 : decide ((M : Int) < 3) = false := decide_eq_false (by omega)
    have d2 : decide (M < 3) = false := decide_eq_false h2
    have Hd : Hid (decide (3 ≤ R.length) = true) := decide_eq_true (by omega)
    have Hn : Hid (3 ≤ R.length) := by show _ ≤ _; omega
    clear h2 hM
    go_wp2_with fail
    go_ret2
    exact ⟨_, by rw [Hd.out]; rfl, HB2.out, fun _ => HS.out, fun h => absurd Hn.out h⟩
end Go.Proofs.Ytgfioofloaeecaa
