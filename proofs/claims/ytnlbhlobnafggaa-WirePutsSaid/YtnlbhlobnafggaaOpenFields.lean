/- A slice of fields that came in. -/
import Derived.Test.YtnlbhlobnafggaaSliceFields
import Derived.Test.YtnlbhlobnafggaaPut
import Derived.SizedLaws
namespace Go.Proofs.Ytnlbhlobnafggaa
open Go.ChangeShapes Go.WideShapes Go.ChangeAt Go.RowKit Go.Deep Var
set_option linter.unusedVariables false

def GArg (w : World) (v : Value) (gs : List G) : Prop :=
  ∃ a c, v = .slice a gs.length c ∧ gs.length ≤ c ∧ c ≤ maxLen ∧ (∀ g ∈ gs, (-9223372036854775808 ≤ g.num ∧ g.num < 9223372036854775808) ∧ (-9223372036854775808 ≤ g.kind ∧ g.kind < 9223372036854775808) ∧ g.int < 18446744073709551616 ∧ g.data.length ≤ reachBytes ∧ ∀ x ∈ g.data, x < 256) ∧ GAt w w.heap.size a gs

theorem gat_of {w : World} {B : Nat} {a : Option Addr} {L : Nat} {f : Nat → G} (h : ∀ i, i < L → ∃ b off ad cc, a = some ⟨b, off, none⟩ ∧ b < B ∧ w.cell? ⟨b, off + i * 4, none⟩ = some (.int .i64 (f i).num) ∧ w.cell? ⟨b, off + i * 4 + 1, none⟩ = some (.int .i64 (f i).kind) ∧
    w.cell? ⟨b, off + i * 4 + 2, none⟩ = some (.int .u64 ((f i).int : Int)) ∧ w.cell? ⟨b, off + i * 4 + 3, none⟩ = some (.slice ad (f i).data.length cc) ∧ Nums .u8 w B ad (f i).data) : GAt w B a ((List.range L).map f) := fun i hi => by
  have hi' : i < L := by simpa using hi
  have e : ((List.range L).map f)[i] = f i := by simp
  rw [e]
  exact h i hi'

theorem weights_mem_all {H : Type} {P : Program} {e : TypeId} : ∀ {l : List (DataW H)} {d : DataW H}, d ∈ l → ∀ n ∈ d.weights P e, n ∈ DataW.weightsAll P e l
  | d0 :: l, d, h, n, hn => by
    simp only [DataW.weightsAll, List.mem_append]
    rcases List.mem_cons.1 h with rfl | h
    · exact .inl hn
    · exact .inr (weights_mem_all h n hn)
  | [], _, h, _, _ => by cases h

theorem open_fields {H : Type} {enc : TypeId × Value → H} {W : World} {base : Nat} {v : Value} {d : DataW H} {p : List MemPlace}
    (hv : Value.okWide Try.prog W .any base 36 v) (h : DataW.Trod enc Try.prog W 0 (fun _ => true) true 36 v d p) (hw : ∀ n ∈ d.weights Try.prog 36, n ≤ reachBytes) : ∃ gs, GArg W v gs := by
  obtain ⟨a, L, c, rfl⟩ := okWide_slice Try.underlying36 hv
  obtain ⟨fuel, hf⟩ := h
  rcases open_slice_fields (Try.underlying36) (Try.underlying55) (by kernel_rfl) (by kernel_rfl) hf with ⟨hcs, _⟩ | ⟨x, len, cap, m, D, Pl, hcs, _, hl, hmx, hm, hx, hi⟩
  · simp [Value.cells] at hcs
    obtain ⟨rfl, rfl, rfl⟩ := hcs
    exact ⟨[], none, 0, rfl, Nat.le_refl _, by unfold maxLen; omega, by simp, fun i hi => by simp at hi⟩
  · simp [Value.cells] at hcs
    obtain ⟨rfl, rfl, rfl⟩ := hcs
    simp only [if_true] at hm
    have key : ∀ i, ∃ t : G, i < L → (∃ b off ad cc, (some x : Option Addr) = some ⟨b, off, none⟩ ∧ b < W.heap.size ∧ W.cell? ⟨b, off + i * 4, none⟩ = some (.int .i64 t.num) ∧ W.cell? ⟨b, off + i * 4 + 1, none⟩ = some (.int .i64 t.kind) ∧
        W.cell? ⟨b, off + i * 4 + 2, none⟩ = some (.int .u64 (t.int : Int)) ∧ W.cell? ⟨b, off + i * 4 + 3, none⟩ = some (.slice ad t.data.length cc) ∧ Nums .u8 W W.heap.size ad t.data) ∧
        (-9223372036854775808 ≤ t.num ∧ t.num < 9223372036854775808) ∧ (-9223372036854775808 ≤ t.kind ∧ t.kind < 9223372036854775808) ∧ t.int < 18446744073709551616 ∧ t.data.length ≤ reachBytes ∧ ∀ x ∈ t.data, x < 256 := by
      intro i
      by_cases hlt : i < L
      · obtain ⟨ys, n, hDi, _, hysl, hfld⟩ := hi i (by omega)
        obtain ⟨v0, y0, hc0, _, ht0⟩ := hfld 0 _ rfl
        obtain ⟨v1, y1, hc1, _, ht1⟩ := hfld 1 _ rfl
        obtain ⟨v2, y2, hc2, _, ht2⟩ := hfld 2 _ rfl
        obtain ⟨v3, y3, hc3, hy3, ht3⟩ := hfld 3 _ rfl
        obtain ⟨z0, e0, rfl, w0⟩ := DataW.trod_int Try.underlying3 ht0
        obtain ⟨z1, e1, rfl, w1⟩ := DataW.trod_int Try.underlying3 ht1
        obtain ⟨z2, e2, rfl, w2⟩ := DataW.trod_int Try.underlying22 ht2
        simp at e0 e1 e2
        subst e0 e1 e2
        obtain ⟨n2, hn2, hb2⟩ := nat_u64 w2
        subst hn2
        obtain ⟨b, off, spot⟩ := x
        have hspot : spot = none := by
          obtain ⟨ys', n', _, _, _, hfld'⟩ := hi 0 (by omega)
          obtain ⟨v0', y0', hc0', _, _⟩ := hfld' 0 _ rfl
          simpa [Addr.add] using World.cell?_spot hc0'
        subst hspot
        rw [add_none] at hc0 hc1 hc2 hc3
        have hbl : b < W.heap.size := block_lt_of_cell hc0
        have hwt : ∀ n ∈ y3.1.weights Try.prog 23, n ≤ reachBytes := by
          intro n hn
          have h1 : n ∈ (D i).weights Try.prog 55 := by
            rw [hDi]
            simp only [DataW.weights, Try.underlying55]
            refine DataW.weights_mem_each (j := 3) (t := 23) (d := y3.1) rfl ?_ n hn
            rw [List.getElem?_map, hy3]; rfl
          have h2 : n ∈ d.weights Try.prog 36 := by
            injection hx with hx1 hx2
            rw [hx1]
            simp only [DataW.weights, Try.underlying36, List.mem_cons, List.mem_append]
            exact .inr (.inl (weights_mem_all (List.mem_map.2 ⟨i, List.mem_range.2 hlt, rfl⟩) n h1))
          exact hw n h2
        have h3 : ∃ (ad : Option Addr) (ln cp : Nat), v3 = .slice ad ln cp ∧ ln ≤ reachBytes := by
          rcases open_ints Try.underlying23 Try.underlying5 (by kernel_rfl) ht3 with ⟨e3, _⟩ | ⟨x3, l3, c3, zs, e3, _, hlc, _, hzs, hy, _⟩
          · simp at e3; exact ⟨_, _, _, e3, Nat.zero_le _⟩
          · simp at e3
            refine ⟨_, _, _, e3, ?_⟩
            have := hwt ((lits .u8 (zs.take l3) : List (DataW H)).length + (lits .u8 (zs.drop l3) : List (DataW H)).length |>.mul (Try.prog.bytesOf 5)) (by
              rw [hy]
              simp only [DataW.weights, Try.underlying23, List.mem_cons]
              exact .inl rfl)
            have hb1 : Try.prog.bytesOf 5 = 1 := by kernel_rfl
            rw [hb1] at this
            simp only [if_true] at hzs
            have hln : ∀ qs : List Int, (lits .u8 qs : List (DataW H)).length = qs.length := fun qs => by simp [lits]
            rw [hln, hln] at this
            simp at this
            omega
        obtain ⟨ad, ln, cp, rfl, hln⟩ := h3
        obtain ⟨dd, hdl, _, _, hdd, hdn⟩ := open_nums (enc := enc) Try.underlying23 Try.underlying5 (by kernel_rfl) 256 (fun _ h => nat_u8 h) (d := y3.1) (p := y3.2) (a := ad) (len := ln) (cap := cp) ⟨n, by simpa [Value.cells] using ht3⟩
        subst hdl
        exact ⟨⟨_, _, n2, dd⟩, fun _ => ⟨⟨b, off, ad, cp, rfl, hbl, hc0, hc1, hc2, hc3, hdn⟩, int_i64 w0, int_i64 w1, hb2, hln, hdd⟩⟩
      · exact ⟨⟨0, 0, 0, []⟩, fun h => absurd h hlt⟩
    refine ⟨(List.range L).map fun i => (key i).choose, some x, c, by simp, by simpa using hl, hmx, ?_, gat_of fun i hi => ((key i).choose_spec hi).1⟩
    intro g hg
    simp only [List.mem_map, List.mem_range] at hg
    obtain ⟨i, hi, rfl⟩ := hg
    exact ((key i).choose_spec hi).2
end Go.Proofs.Ytnlbhlobnafggaa
