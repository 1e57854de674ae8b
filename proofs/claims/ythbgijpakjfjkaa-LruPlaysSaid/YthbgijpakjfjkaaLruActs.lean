/- Layer 34: the acts that came in, and much. -/
import Derived.Test.YthbgijpakjfjkaaSliceFields
import Derived.Test.YthbgijpakjfjkaaRowNil
import Derived.Test.YthbgijpakjfjkaaLru9
import Derived.SizedLaws
namespace Go.Proofs.Ythbgijpakjfjkaa
open Go.ChangeShapes Go.WideShapes Go.ChangeAt Go.RowKit Go.Deep
set_option linter.unusedVariables false
set_option maxRecDepth 100000

structure Ac where
  k : Int
  key : ByteArray
  bs : List Nat
def AAt (w : World) (B : Nat) (a : Option Addr) (l : List Ac) : Prop := ∀ i (hi : i < l.length), ∃ b off ad cc, a = some ⟨b, off, none⟩ ∧ b < B ∧ w.cell? ⟨b, off + i * 3, none⟩ = some (.int .i64 (l[i]'hi).k) ∧ w.cell? ⟨b, off + i * 3 + 1, none⟩ = some (.string (l[i]'hi).key) ∧
  w.cell? ⟨b, off + i * 3 + 2, none⟩ = some (.slice ad (l[i]'hi).bs.length cc) ∧ Nums .u8 w B ad (l[i]'hi).bs ∧ (ad = none → cc = 0)
def ActsArg (w : World) (v : Value) (l : List Ac) : Prop := ∃ a c, v = .slice a l.length c ∧ l.length ≤ c ∧ c ≤ maxLen ∧ (∀ g ∈ l, g.key.size ≤ reachBytes ∧ g.bs.length ≤ reachBytes ∧ ∀ x ∈ g.bs, x < 256) ∧ AAt w w.heap.size a l
theorem aat_of {w : World} {B : Nat} {a : Option Addr} {L : Nat} {f : Nat → Ac} (h : ∀ i, i < L → ∃ b off ad cc, a = some ⟨b, off, none⟩ ∧ b < B ∧ w.cell? ⟨b, off + i * 3, none⟩ = some (.int .i64 (f i).k) ∧ w.cell? ⟨b, off + i * 3 + 1, none⟩ = some (.string (f i).key) ∧
    w.cell? ⟨b, off + i * 3 + 2, none⟩ = some (.slice ad (f i).bs.length cc) ∧ Nums .u8 w B ad (f i).bs ∧ (ad = none → cc = 0)) : AAt w B a ((List.range L).map f) := fun i hi => by
  have hi' : i < L := by simpa using hi
  have e : ((List.range L).map f)[i] = f i := by simp
  rw [e]
  exact h i hi'
theorem weights_mem_all {H : Type} {P : Program} {e : TypeId} : ∀ {l : List (DataW H)} {d : DataW H}, d ∈ l → ∀ n ∈ d.weights P e, n ∈ DataW.weightsAll P e l
  | d0 :: l, d, h, n, hn => by
    simp only [DataW.weightsAll, List.mem_append]
    rcases List.mem_cons.1 h with rfl | h
    · exact .inl hn
    · exact .inr (weights_mem_all h n hn)
  | [], _, h, _, _ => by cases h
theorem open_acts {H : Type} {enc : TypeId × Value → H} {W : World} {base : Nat} {v : Value} {d : DataW H} {p : List MemPlace}
    (hv : Value.okWide Try.prog W .any base 22 v) (h : DataW.Trod enc Try.prog W 0 (fun _ => true) true 22 v d p) (hw : ∀ n ∈ d.weights Try.prog 22, n ≤ reachBytes) : ∃ l, ActsArg W v l := by
  obtain ⟨a, L, c, rfl⟩ := okWide_slice Try.underlying22 hv
  obtain ⟨fuel, hf⟩ := h
  rcases open_slice_fields (Try.underlying22) (Try.underlying33) (by kernel_rfl) (by kernel_rfl) hf with ⟨hcs, _⟩ | ⟨x, len, cap, m, D, Pl, hcs, _, hl, hmx, hm, hx, hi⟩
  · simp [Value.cells] at hcs
    obtain ⟨rfl, rfl, rfl⟩ := hcs
    exact ⟨[], none, 0, rfl, Nat.le_refl _, by unfold maxLen; omega, by simp, fun i hi => by simp at hi⟩
  · simp [Value.cells] at hcs
    obtain ⟨rfl, rfl, rfl⟩ := hcs
    simp only [if_true] at hm
    have key : ∀ i, ∃ t : Ac, i < L → (∃ b off ad cc, (some x : Option Addr) = some ⟨b, off, none⟩ ∧ b < W.heap.size ∧ W.cell? ⟨b, off + i * 3, none⟩ = some (.int .i64 t.k) ∧ W.cell? ⟨b, off + i * 3 + 1, none⟩ = some (.string t.key) ∧
        W.cell? ⟨b, off + i * 3 + 2, none⟩ = some (.slice ad t.bs.length cc) ∧ Nums .u8 W W.heap.size ad t.bs ∧ (ad = none → cc = 0)) ∧
        t.key.size ≤ reachBytes ∧ t.bs.length ≤ reachBytes ∧ ∀ x ∈ t.bs, x < 256 := by
      intro i
      by_cases hlt : i < L
      · obtain ⟨ys, n, hDi, _, hysl, hfld⟩ := hi i (by omega)
        obtain ⟨v0, y0, hc0, _, ht0⟩ := hfld 0 _ rfl
        obtain ⟨v1, y1, hc1, hy1, ht1⟩ := hfld 1 _ rfl
        obtain ⟨v2, y2, hc2, hy2, ht2⟩ := hfld 2 _ rfl
        obtain ⟨z0, e0, rfl, w0⟩ := DataW.trod_int Try.underlying3 ht0
        obtain ⟨s1, e1, es1, w1⟩ := DataW.trod_string Try.underlying9 ht1
        simp at e0 e1
        subst e0 e1
        obtain ⟨b, off, spot⟩ := x
        have hspot : spot = none := by
          obtain ⟨ys', n', _, _, _, hfld'⟩ := hi 0 (by omega)
          obtain ⟨v0', y0', hc0', _, _⟩ := hfld' 0 _ rfl
          simpa [Addr.add] using World.cell?_spot hc0'
        subst hspot
        rw [add_none] at hc0 hc1 hc2
        have hbl : b < W.heap.size := block_lt_of_cell hc0
        have hin : ∀ n ∈ (D i).weights Try.prog 33, n ≤ reachBytes := by
          intro n h1
          have h2 : n ∈ d.weights Try.prog 22 := by
            injection hx with hx1 hx2
            rw [hx1]
            simp only [DataW.weights, Try.underlying22, List.mem_cons, List.mem_append]
            exact .inr (.inl (weights_mem_all (List.mem_map.2 ⟨i, List.mem_range.2 hlt, rfl⟩) n h1))
          exact hw n h2
        have hwt : ∀ n ∈ y2.1.weights Try.prog 31, n ≤ reachBytes := by
          intro n hn
          refine hin n ?_
          rw [hDi]
          simp only [DataW.weights, Try.underlying33]
          refine DataW.weights_mem_each (j := 2) (t := 31) (d := y2.1) rfl ?_ n hn
          rw [List.getElem?_map, hy2]; rfl
        have hks : s1.size ≤ reachBytes := by
          have h1 : s1.size ∈ y1.1.weights Try.prog 9 := by
            rw [es1]
            simp only [DataW.weights, List.mem_singleton]
            rfl
          refine hin _ ?_
          rw [hDi]
          simp only [DataW.weights, Try.underlying33]
          refine DataW.weights_mem_each (j := 1) (t := 9) (d := y1.1) rfl ?_ _ h1
          rw [List.getElem?_map, hy1]; rfl
        have h3 : ∃ (ad : Option Addr) (ln cp : Nat), v2 = .slice ad ln cp ∧ ln ≤ reachBytes := by
          rcases open_ints Try.underlying31 Try.underlying5 (by kernel_rfl) ht2 with ⟨e3, _⟩ | ⟨x3, l3, c3, zs, e3, _, hlc, _, hzs, hy, _⟩
          · simp at e3; exact ⟨_, _, _, e3, Nat.zero_le _⟩
          · simp at e3
            refine ⟨_, _, _, e3, ?_⟩
            have := hwt ((lits .u8 (zs.take l3) : List (DataW H)).length + (lits .u8 (zs.drop l3) : List (DataW H)).length |>.mul (Try.prog.bytesOf 5)) (by
              rw [hy]
              simp only [DataW.weights, Try.underlying31, List.mem_cons]
              exact .inl rfl)
            have hb1 : Try.prog.bytesOf 5 = 1 := by kernel_rfl
            rw [hb1] at this
            simp only [if_true] at hzs
            have hln : ∀ qs : List Int, (lits .u8 qs : List (DataW H)).length = qs.length := fun qs => by simp [lits]
            rw [hln, hln] at this
            simp at this
            omega
        obtain ⟨ad, ln, cp, rfl, hln⟩ := h3
        obtain ⟨dd, hdl, _, _, hdd, hdn, hnil⟩ := open_numsn (enc := enc) Try.underlying31 Try.underlying5 (by kernel_rfl) 256 (fun _ h => nat_u8 h) (d := y2.1) (p := y2.2) (a := ad) (len := ln) (cap := cp) ⟨n, by simpa [Value.cells] using ht2⟩
        subst hdl
        exact ⟨⟨_, s1, dd⟩, fun _ => ⟨⟨b, off, ad, cp, rfl, hbl, hc0, hc1, hc2, hdn, hnil⟩, hks, hln, hdd⟩⟩
      · exact ⟨⟨0, ByteArray.empty, []⟩, fun h => absurd h hlt⟩
    refine ⟨(List.range L).map fun i => (key i).choose, some x, c, by simp, by simpa using hl, hmx, ?_, aat_of fun i hi => ((key i).choose_spec hi).1⟩
    intro g hg
    simp only [List.mem_map, List.mem_range] at hg
    obtain ⟨i, hi, rfl⟩ := hg
    exact ((key i).choose_spec hi).2

def bulk (l : List Ac) : Nat := (l.map fun g => g.key.size + g.bs.length).sum
theorem bulk_take (l : List Ac) (k : Nat) (h : k < l.length) : bulk (l.take (k + 1)) = bulk (l.take k) + ((l[k]).key.size + (l[k]).bs.length) := by
  have e := List.take_succ_eq_append_getElem h
  unfold bulk
  rw [e, List.map_append, List.sum_append]
  simp
def MuchPost (w : World) (l : List Ac) (e : Ending) (w' : World) : Prop := ∃ t : Bool, e = .returned (.bool t) ∧ (t = false → l.length ≤ 60 ∧ bulk l ≤ 2000) ∧ ∃ k, w' = w.drewN k
set_option maxHeartbeats 8000000 in
theorem much_any (v : Value) (l : List Ac) (w : World) (H : ActsArg w v l) : Calls Try.prog 6 #[v] w (MuchPost w l) := by
  obtain ⟨a, c, rfl, _, hcm, hall, hat⟩ := H
  have Hall := Lib.hid hall
  have Hat := Lib.hid hat
  have hlm : l.length ≤ 9223372036854775807 := by have : l.length ≤ maxLen := by omega
                                                  unfold maxLen at this; omega
  clear hall hat hcm
  go_enter Try.func6, Try.ntmps6
  go_wp2_with fail
  go_loopw [3, 4] (fun n i W => ∃ k u : Nat, n = .int .i64 (u : Int) ∧ i = .int .i64 (k : Int) ∧ k ≤ l.length ∧ k ≤ 80 ∧ Hid (u = bulk (l.take k)) ∧ u ≤ 2000 ∧ ∃ j, W = w.drewN j) (fun _ i _ => 80 - (intOf i).toNat)
  case atStart => exact ⟨0, 0, rfl, rfl, Nat.zero_le _, by omega, rfl, by omega, 0, rfl⟩
  case round =>
    obtain ⟨k, u, rfl, rfl, hk, hk8, hu, hu2, j, rfl⟩ := hrel
    by_cases hlt : k < l.length
    · by_cases h8 : k < 80
      · have d1 : decide ((k : Int) < (l.length : Int)) = true := decide_eq_true (by omega)
        have d2 : decide ((k : Int) < 80) = true := decide_eq_true (by omega)
        obtain ⟨b, off, ad, cc, rfl, hbl, hc0, hc1, hc2, _, _⟩ := Hat.out k hlt
        obtain ⟨r1, r2, _⟩ := Hall.out _ (List.getElem_mem hlt)
        have hbk := bulk_take l k hlt
        obtain ⟨s, hs⟩ : ∃ s, s = (l[k]).key := ⟨_, rfl⟩
        obtain ⟨m, hm⟩ : ∃ m, m = (l[k]).bs.length := ⟨_, rfl⟩
        rw [← hs] at hc1 r1 hbk
        rw [← hm] at hc2 r2 hbk
        unfold reachBytes at r1 r2
        have HU : Hid (u + (s.size + m) = bulk (l.take (k + 1))) := by rw [hbk, ← hu.out]; rfl
        have Hlt := Lib.hid hlt
        have Hall2 := Hall
        clear hs hm hbk hu hc0
        by_cases hbig : 2000 < u + (s.size + m)
        · have d3 : decide ((2000 : Int) < (u : Int) + (s.size : Int) + (m : Int)) = true := decide_eq_true (by omega)
          go_wp2_with fail
          go_quiet (fail)
          go_wp2_with fail
          go_ret
          exact ⟨true, rfl, (fun h => by cases h), _, rfl⟩
        · have d3 : decide ((2000 : Int) < (u : Int) + (s.size : Int) + (m : Int)) = false := decide_eq_false (by omega)
          go_wp2_with fail
          go_quiet (fail)
          go_wp2_with fail
          go_roundw
          case rel => exact ⟨k + 1, u + (s.size + m), by congr 1; omega, by go_num, Hlt.out, by omega, HU, by omega, _, rfl⟩
          case measure => simp [intOf] <;> omega
      · have d1 : decide ((k : Int) < (l.length : Int)) = true := decide_eq_true (by omega)
        have d2 : decide ((k : Int) < 80) = false := decide_eq_false (by omega)
        have d3 : decide ((60 : Int) < (l.length : Int)) = true := decide_eq_true (by omega)
        go_wp2_with fail
        go_ret
        exact ⟨true, by first | rfl | simp [d3], (fun h => by cases h), _, rfl⟩
    · obtain rfl : k = l.length := by omega
      rw [List.take_length] at hu
      have d1 : decide ((l.length : Int) < (l.length : Int)) = false := decide_eq_false (by omega)
      by_cases h6 : 60 < l.length
      · have d3 : decide ((60 : Int) < (l.length : Int)) = true := decide_eq_true (by omega)
        go_wp2_with fail
        go_ret
        exact ⟨true, by first | rfl | simp [d3], (fun h => by cases h), _, rfl⟩
      · have d3 : decide ((60 : Int) < (l.length : Int)) = false := decide_eq_false (by omega)
        go_wp2_with fail
        go_ret
        exact ⟨false, by first | rfl | simp [d3], fun h => ⟨by omega, by rw [← hu.out]; exact hu2⟩, _, rfl⟩
end Go.Proofs.Ythbgijpakjfjkaa
