/- InfC -/
import Derived.Test.YtngnhkghpnamoaaInfB
namespace Go.Proofs.Ytngnhkghpnamoaa
open Go.RowKit Huff Bit
set_option linter.unusedVariables false
set_option maxRecDepth 100000

def AllPost (w : World) (r : List Nat × Nat × Nat) (e : Ending) (w' : World) : Prop := ∃ a c, e = .returned (.tuple #[.slice a r.1.length c, .int .i64 (r.2.1 : Int), .int .i64 (r.2.2 : Int)]) ∧ Nums .u8 w' w'.heap.size a r.1 ∧ (a = none → c = 0 ∧ r.1 = []) ∧ r.1.length ≤ c ∧ c ≤ maxLen ∧ Below w.heap.size w w'
theorem all_boxes (w X : World) (hX : X = ((w.alloc (.cells #[.slice none 0 0] 22)).alloc (.cells #[.int .i64 0] 3)).alloc (.cells #[.int .i64 0] 24)) :
    Whole X w.heap.size 22 #[.slice none 0 0] ∧ Whole X (w.heap.size + 1) 3 #[.int .i64 0] ∧ Whole X (w.heap.size + 1 + 1) 24 #[.int .i64 0] ∧ Below w.heap.size w X ∧ X.heap.size = w.heap.size + 1 + 1 + 1 := by
  subst hX
  obtain ⟨A, hA⟩ : ∃ z, z = w.alloc (.cells #[.slice none 0 0] 22) := ⟨_, rfl⟩
  have hs : A.heap.size = w.heap.size + 1 := by rw [hA]; simp
  have h1 : Whole A w.heap.size 22 #[.slice none 0 0] := by rw [hA]; exact Whole.new w _ _
  have b1 : Below w.heap.size w A := by rw [hA]; exact (Below.refl _ _).alloc (Nat.le_refl _) _
  rw [← hA]
  obtain ⟨B, hB⟩ : ∃ z, z = A.alloc (.cells #[.int .i64 0] 3) := ⟨_, rfl⟩
  have hs2 : B.heap.size = w.heap.size + 1 + 1 := by rw [hB, ← hs]; simp
  have h2 : Whole B (w.heap.size + 1) 3 #[.int .i64 0] := by rw [hB, ← hs]; exact Whole.new A _ _
  have b2 : Below A.heap.size A B := by rw [hB]; exact (Below.refl _ _).alloc (Nat.le_refl _) _
  rw [← hB]
  have b3 : Below B.heap.size B (B.alloc (.cells #[.int .i64 0] 24)) := (Below.refl _ _).alloc (Nat.le_refl _) _
  have h3 : Whole (B.alloc (.cells #[.int .i64 0] 24)) (w.heap.size + 1 + 1) 24 #[.int .i64 0] := by rw [← hs2]; exact Whole.new B _ _
  refine ⟨(h1.below b2 h1.lt).below b3 (by omega), h2.below b3 h2.lt, h3, (b1.trans (b2.mono b1.size)).trans (b3.mono (by omega)), by simp [hs2]⟩
/-- At the door, with a panic on its way. -/
theorem all_door (w W : World) (n : Nat) (tm : Array Value) (u v x : Value) (h4 : Whole W w.heap.size 22 #[u]) (h5 : Whole W (w.heap.size + 1) 3 #[v]) (h6 : Whole W (w.heap.size + 1 + 1) 24 #[x]) (hB : Below w.heap.size w W)
    (ht4 : tm[4]? = some (.pointer (some ⟨w.heap.size, 0, none⟩))) (ht5 : tm[5]? = some (.pointer (some ⟨w.heap.size + 1, 0, none⟩))) (ht6 : tm[6]? = some (.pointer (some ⟨w.heap.size + 1 + 1, 0, none⟩))) :
    bodyPostD Try.prog Try.f54 (AllPost w ([], 0, n)) (Exit.panic (pan n)) { tmps := tm, defers := [{ target := Target.fn (Fn.func 74) #[.pointer (some ⟨w.heap.size, 0, none⟩), .pointer (some ⟨w.heap.size + 1, 0, none⟩), .pointer (some ⟨w.heap.size + 1 + 1, 0, none⟩)], args := #[] }] } W := by
  refine leaves_cons (f := 74) (args := #[.pointer (some ⟨w.heap.size, 0, none⟩), .pointer (some ⟨w.heap.size + 1, 0, none⟩), .pointer (some ⟨w.heap.size + 1 + 1, 0, none⟩)]) (by simp) (by simp [go_sem]) ?_
  refine (all_panicking ⟨w.heap.size, 0, none⟩ ⟨w.heap.size + 1, 0, none⟩ ⟨w.heap.size + 1 + 1, 0, none⟩ n [] u v x W (h4.cell 0) (h5.cell 0) (h6.cell 0) (h4.frozen 0) (h5.frozen 0) (h6.frozen 0) (by show w.heap.size ≠ w.heap.size + 1; omega) (by show w.heap.size ≠ w.heap.size + 1 + 1; omega) (by show w.heap.size + 1 ≠ w.heap.size + 1 + 1; omega)).mono ?_
  rintro e u' w'' ⟨rfl, rfl, hw⟩
  have a1 : w.heap.size ≠ w.heap.size + 1 := by omega
  have a2 : w.heap.size ≠ w.heap.size + 1 + 1 := by omega
  have a3 : w.heap.size + 1 ≠ w.heap.size := by omega
  have a4 : w.heap.size + 1 ≠ w.heap.size + 1 + 1 := by omega
  have a5 : w.heap.size + 1 + 1 ≠ w.heap.size := by omega
  have a6 : w.heap.size + 1 + 1 ≠ w.heap.size + 1 := by omega
  have k4 : Whole w'' w.heap.size 22 #[.slice none 0 0] := by rw [hw]; simpa using ((h4.set 0 (.slice none 0 0)).far a1 (.int .i64 0)).far a2 (.int .i64 (n : Int))
  have k5 : Whole w'' (w.heap.size + 1) 3 #[.int .i64 0] := by rw [hw]; simpa using ((h5.far a3 (.slice none 0 0)).set 0 (.int .i64 0)).far a4 (.int .i64 (n : Int))
  have k6 : Whole w'' (w.heap.size + 1 + 1) 24 #[.int .i64 (n : Int)] := by rw [hw]; simpa using ((h6.far a5 (.slice none 0 0)).far a6 (.int .i64 0)).set 0 (.int .i64 (n : Int))
  have hB2 : Below w.heap.size w w'' := by rw [hw]; exact ((hB.setCell (p := ⟨w.heap.size, 0, none⟩) (Nat.le_refl _) _).setCell (p := ⟨w.heap.size + 1, 0, none⟩) (by show _ ≤ _ + 1; omega) _).setCell (p := ⟨w.heap.size + 1 + 1, 0, none⟩) (by show _ ≤ _ + 1 + 1; omega) _
  have v4 : w''.cell? ⟨w.heap.size, 0, none⟩ = some (.slice none 0 0) := k4.cell 0
  have v5 : w''.cell? ⟨w.heap.size + 1, 0, none⟩ = some (.int .i64 0) := k5.cell 0
  have v6 : w''.cell? ⟨w.heap.size + 1 + 1, 0, none⟩ = some (.int .i64 (n : Int)) := k6.cell 0
  clear hw k4 k5 k6 h4 h5 h6 hB a1 a2 a3 a4 a5 a6
  simp [Leaves, settle, results, Try.results54, asAddr, go_sem, ht4, ht5, ht6, v4, v5, v6]
  exact ⟨none, 0, rfl, fun h => absurd h (by simp), fun _ => ⟨rfl, rfl⟩, Nat.le_refl _, Nat.zero_le _, hB2⟩
/-- At the door, with results laid. -/
theorem all_door_ok (w W : World) (tm : Array Value) (a : Option Addr) (L c u : Nat) (o : List Nat) (v4 : W.cell? ⟨w.heap.size, 0, none⟩ = some (.slice a L c)) (v5 : W.cell? ⟨w.heap.size + 1, 0, none⟩ = some (.int .i64 (u : Int))) (v6 : W.cell? ⟨w.heap.size + 1 + 1, 0, none⟩ = some (.int .i64 0))
    (hL : L = o.length) (hN : Nums .u8 W W.heap.size a o) (hz : a = none → c = 0 ∧ o = []) (hc : o.length ≤ c) (hm : c ≤ maxLen) (hB : Below w.heap.size w W)
    (ht4 : tm[4]? = some (.pointer (some ⟨w.heap.size, 0, none⟩))) (ht5 : tm[5]? = some (.pointer (some ⟨w.heap.size + 1, 0, none⟩))) (ht6 : tm[6]? = some (.pointer (some ⟨w.heap.size + 1 + 1, 0, none⟩))) :
    bodyPostD Try.prog Try.f54 (AllPost w (o, u, 0)) Exit.ret { tmps := tm, defers := [{ target := Target.fn (Fn.func 74) #[.pointer (some ⟨w.heap.size, 0, none⟩), .pointer (some ⟨w.heap.size + 1, 0, none⟩), .pointer (some ⟨w.heap.size + 1 + 1, 0, none⟩)], args := #[] }] } W := by
  subst hL
  refine leaves_cons (f := 74) (args := #[.pointer (some ⟨w.heap.size, 0, none⟩), .pointer (some ⟨w.heap.size + 1, 0, none⟩), .pointer (some ⟨w.heap.size + 1 + 1, 0, none⟩)]) (by simp) (by simp [go_sem]) ?_
  refine (all_idle ⟨w.heap.size, 0, none⟩ ⟨w.heap.size + 1, 0, none⟩ ⟨w.heap.size + 1 + 1, 0, none⟩ W).mono ?_
  rintro e u' w'' ⟨rfl, rfl, rfl⟩
  simp [Leaves, settle, results, Try.results54, asAddr, go_sem, ht4, ht5, ht6, v4, v5, v6]
  exact ⟨a, c, rfl, hN, hz, hc, hm, hB⟩
theorem all_results {tmps : Array Value} {d : Nat} {v : Value} (h4 : d ≠ 4) (h5 : d ≠ 5) (h6 : d ≠ 6) : results Try.f54 (tmps.setIfInBounds d v) = results Try.f54 tmps := by
  simp [results, Try.results54, Array.getElem?_setIfInBounds_ne, h4, h5, h6]
theorem leaves_put {R : Ending → World → Prop} {tmps : Array Value} {d : Nat} {v : Value} (h4 : d ≠ 4) (h5 : d ≠ 5) (h6 : d ≠ 6) : ∀ (ds : List Deferred) (u : FrameMode) (w : World),
    Leaves Try.prog Try.f54 (tmps.setIfInBounds d v) R ds u w → Leaves Try.prog Try.f54 tmps R ds u w
  | [], .returning, w, h => by
    obtain ⟨x, h1, h2⟩ := h
    rw [all_results h4 h5 h6] at h1
    exact ⟨x, h1, h2⟩
  | [], .panicking chain, w, h => h
  | [], .run, _, h => h
  | dd :: ds, u, w, h => by
    obtain ⟨hu, fv, cap, f, args, h1, h2, h3⟩ := h
    refine ⟨hu, fv, cap, f, args, h1, h2, h3.mono ?_⟩
    intro e u' w' he
    cases e with
    | returned x => exact leaves_put h4 h5 h6 ds _ _ he
    | panicked c => exact leaves_put h4 h5 h6 ds _ _ he
    | outgrown => exact he
section
variable {X : Cx}
theorem run_block_at {most : Nat} {o : List Nat} {q : Nat} {x : (Nat × List Nat) × Nat} (h : X.run (Inf.blockP most o) q = .ok x) : q + 1 ≤ x.2 ∧ x.2 ≤ 8 * X.bs.length := by
  unfold Inf.blockP at h
  cases hR1 : X.run (Inf.bitsP 1) q with
  | error E => rw [run_err hR1] at h; cases h
  | ok y =>
    obtain ⟨la, q1⟩ := y
    have hq := run_bits_at hR1
    simp only at hq
    rw [run_ok hR1] at h
    have hs := ((Inf.Stable.bits 2).bnd fun k => (Inf.Stable.kind most o k).bnd fun o => Inf.Stable.ret (la, o)) (bitOf X.bs) (8 * X.bs.length) q1 x.1 x.2 (by omega) ⟨_, rfl⟩ h
    exact ⟨by omega, hs.2.1⟩
end
set_option maxHeartbeats 16000000 in
theorem all_any (a : Option Addr) (c : Nat) (bs : List Nat) (most : Nat) (w : World) (hN : Nums .u8 w w.heap.size a bs) (hz : a = none → c = 0 ∧ bs = []) (hlen : bs.length ≤ 4096) (hb : ∀ x ∈ bs, x < 256) (hm : most ≤ 1048576) :
    Calls Try.prog 54 #[.slice a bs.length c, .int .i64 (most : Int)] w (AllPost w (Inf.doneM (Inf.loopP most Inf.fuel [] (bitOf bs) (8 * bs.length) 0))) := by
  have hmf : ∀ (fn : Fn) (first cap : Array Value) (w : World), (Instr.makeFunc fn first cap).run Try.prog w = .ok (.func fn first cap) w := fun _ _ _ _ => rfl
  obtain ⟨R, hR⟩ : ∃ R, Inf.loopP most Inf.fuel [] (bitOf bs) (8 * bs.length) 0 = R := ⟨_, rfl⟩
  rw [hR]
  have HR := Lib.hid hR
  obtain ⟨W0, hW0⟩ : ∃ z, z = ((w.alloc (.cells #[.slice none 0 0] 22)).alloc (.cells #[.int .i64 0] 3)).alloc (.cells #[.int .i64 0] 24) := ⟨_, rfl⟩
  obtain ⟨h4, h5, h6, hB0, hs0⟩ := all_boxes w W0 hW0
  have Hnr := Lib.hid (newReader_any a c bs W0 ((hN.below hB0).more hB0.size) (by omega) hz)
  have HB0 := Lib.hid hB0
  have H4 := Lib.hid h4
  have H5 := Lib.hid h5
  have H6 := Lib.hid h6
  have Hs0 := Lib.hid hs0
  have Hlen := Lib.hid hlen
  have Hb := Lib.hid hb
  have Hm := Lib.hid hm
  obtain ⟨L, hL⟩ : ∃ L, bs.length = L := ⟨_, rfl⟩
  have HL := Lib.hid hL
  rw [hL] at Hnr ⊢
  clear hR hN hz hlen hb hm hB0 h4 h5 h6 hs0 hL
  go_enter_defers Try.func54, Try.ntmps54
  go_upto_region 2 with (fail)
  rw [← hW0]
  clear hW0
  go_wp2_with fail
  refine Hnr.out.mono ?_
  rintro e W1 ⟨g, a', c', rfl, hRd, hg, hB1⟩
  obtain ⟨W2, hW2⟩ : ∃ z, z = W1.alloc (.cells #[.pointer (some ⟨g, 0, none⟩), .slice none 0 0, .int .i64 (most : Int), .pointer none, .pointer none] 112) := ⟨_, rfl⟩
  have hs2 : W2.heap.size = W1.heap.size + 1 := by rw [hW2]; simp
  have hB2 : Below W1.heap.size W1 W2 := by rw [hW2]; exact (Below.refl _ _).alloc (Nat.le_refl _) _
  have hWd : Whole W2 W1.heap.size 112 #[.pointer (some ⟨g, 0, none⟩), .slice none 0 0, .int .i64 (most : Int), .pointer none, .pointer none] := by rw [hW2]; exact Whole.new W1 _ _
  have hg1 := hRd.1.lt
  have hs1 := hB1.size
  have hs0 := Hs0.out
  obtain ⟨X, hX⟩ : ∃ X : Cx, X = { B := W0.heap.size, n := W2.heap.size, d := W1.heap.size, r := g, a := a', c := c', bs := bs, most := most } := ⟨_, rfl⟩
  have hXok : X.Ok := by subst hX; exact ⟨by show W0.heap.size ≤ W1.heap.size; omega, by show W0.heap.size ≤ g; omega, by show W1.heap.size < W2.heap.size; omega, by show g < W2.heap.size; omega, Hlen.out, Hb.out, Hm.out⟩
  have hDec : Dec X (none, none) [] 0 W2 := by
    subst hX
    exact ⟨⟨.slice none 0 0, hWd, Own8.nil_ _ _⟩, hRd.1.below hB2 hg1, (hRd.2.below hB2).more hB2.size, Nat.le_refl _, Nat.zero_le _⟩
  have hBW : Below W0.heap.size W0 W2 := keepBelow hB2 hB1
  have H4 := Lib.hid (H4.out.below hBW (by omega))
  have H5 := Lib.hid (H5.out.below hBW (by omega))
  have H6 := Lib.hid (H6.out.below hBW (by omega))
  have HBW := Lib.hid (HB0.out.trans (hBW.mono (by omega)))
  have HD := Lib.hid hDec
  have HX := Lib.hid hXok
  have HXb : Hid (X.B = W0.heap.size) := by rw [hX]; rfl
  have HXs : Hid (X.bs = bs ∧ X.most = most) := by rw [hX]; exact ⟨rfl, rfl⟩
  have hXd : X.d = W1.heap.size := by rw [hX]
  have hXr : X.r = g := by rw [hX]
  have hR : X.run (Inf.loopP X.most Inf.fuel []) 0 = R := by rw [hX]; exact HR.out
  have HRx := Lib.hid hR
  have Hfu : Hid (8 * X.bs.length - 0 < Inf.fuel) := by show _ < 40000; have := HXs.out.1; rw [this]; have := Hlen.out; omega
  clear hR hX hXok hDec hBW hs1 hs0 hg1 hWd hB2 hRd hg hB1 Hnr HR Hb Hm Hlen hmf
  go_wp2_with fail
  rw [← hW2]
  clear hW2
  rw [← hXd]
  have HXd := Lib.hid hXd
  have HXr := Lib.hid hXr
  clear hs2 hXd hXr
  go_loopw [15] (fun s W => ∃ (f q : Nat) (o : List Nat) (F : Option Addr × Option Addr), Hid (Dec X F o q W) ∧ Hid (Fix F W) ∧ Hid (DK X.B W2 W) ∧ Hid (8 * X.bs.length - q < f) ∧ Hid (X.run (Inf.loopP X.most f o) q = R)) (fun _ W => 8 * X.bs.length + 1 - posOf X.r W)
  case atStart => exact ⟨Inf.fuel, 0, [], (none, none), HD, .inl rfl, DK.refl _ _, Hfu, HRx⟩
  case round =>
    obtain ⟨f0, q, o, F, HDq, HFq, HKq, HF0, HE⟩ := hrel
    clear HRx HD Hfu
    obtain ⟨f, rfl⟩ : ∃ f, f0 = f + 1 := ⟨f0 - 1, by have := HF0.out; omega⟩
    have hE := HE.out
    unfold Inf.loopP at hE
    have Hbl := dblock_any HX.out HDq.out HFq.out
    have Hpos := Lib.hid HDq.out.pos
    have Hat := Lib.hid HDq.out.at_
    clear HE
    cases hR1 : X.run (Inf.blockP X.most o) q with
    | error E =>
      rw [run_err hR1] at hE
      subst hE
      rw [hR1] at Hbl
      have HB := Lib.hid Hbl
      clear Hbl hR1
      go_wp2_with fail
      refine HB.out.mono ?_
      rintro e W ⟨rfl, hB⟩
      have hB2 : Below W0.heap.size W2 W := by rw [← HXb.out]; exact HKq.out.below.trans hB
      have hs0 := Hs0.out
      exact all_door w W E _ _ _ _ (H4.out.below hB2 (by omega)) (H5.out.below hB2 (by omega)) (H6.out.below hB2 (by omega)) (HBW.out.trans (hB2.mono (by omega))) (by rfl) (by rfl) (by rfl)
    | ok x =>
      obtain ⟨⟨la, o'⟩, q1⟩ := x
      rw [run_ok hR1] at hE
      have hq1 := run_block_at hR1
      simp only at hq1
      rw [hR1] at Hbl
      have HB := Lib.hid Hbl
      have HQ1 := Lib.hid hq1
      clear Hbl hR1 hq1
      by_cases hla : la = 1
      · have hE2 : Except.ok (o', q1) = R := by
          have : (if la = 1 then Inf.ret o' else Inf.loopP X.most f o') (bitOf X.bs) (8 * X.bs.length) q1 = R := hE
          rw [if_pos hla] at this
          exact this
        subst hE2
        subst hla
        clear hE
        go_wp2_with fail
        refine HB.out.mono ?_
        rintro e W3 ⟨rfl, ⟨F3, hD3, hF3⟩, hK3⟩
        have HD3 := Lib.hid hD3
        have HK3 := Lib.hid (HKq.out.trans hK3)
        clear hD3 hK3 hF3 HB
        go_wp2_with fail
        have hs0 := Hs0.out
        obtain ⟨va, h1, h2⟩ := HD3.out.dec
        obtain ⟨oa, oc, rfl, hc1, hc2, hz, hN⟩ := h2.nums
        have k4 := H4.out.dk HK3.out (by decide) (by decide) (by decide)
        have k5 := H5.out.dk HK3.out (by decide) (by decide) (by decide)
        have k6 := H6.out.dk HK3.out (by decide) (by decide) (by decide)
        have At := Lib.hid fun W (hr : Rd W X.r X.a X.c X.bs q1) => at_any X.r X.a X.c X.bs q1 W hr
        obtain ⟨b4, hb4⟩ : ∃ z, z = w.heap.size := ⟨_, rfl⟩
        obtain ⟨b5, hb5⟩ : ∃ z, z = w.heap.size + 1 := ⟨_, rfl⟩
        obtain ⟨b6, hb6⟩ : ∃ z, z = w.heap.size + 1 + 1 := ⟨_, rfl⟩
        rw [← hb6, ← hb5, ← hb4]
        rw [← hb4] at k4
        rw [← hb5] at k5
        rw [← hb6] at k6
        have n45 : b4 ≠ b5 := by omega
        have n46 : b4 ≠ b6 := by omega
        have n56 : b5 ≠ b6 := by omega
        have n54 : b5 ≠ b4 := by omega
        have n64 : b6 ≠ b4 := by omega
        have n65 : b6 ≠ b5 := by omega
        have c0 : W3.drew.cell? ⟨X.d, 0, none⟩ = some (.pointer (some ⟨X.r, 0, none⟩)) := h1.cell 0
        have c1 : W3.drew.cell? ⟨X.d, 1, none⟩ = some (.slice oa o'.length oc) := h1.cell 1
        have x4 : W3.drew.cell? ⟨b4, 0, none⟩ = some (.slice none 0 0) := k4.cell 0
        have x5 : W3.drew.cell? ⟨b5, 0, none⟩ = some (.int .i64 0) := k5.cell 0
        have x6 : W3.drew.cell? ⟨b6, 0, none⟩ = some (.int .i64 0) := k6.cell 0
        have f4 : W3.drew.frozen? ⟨b4, 0, none⟩ = false := k4.frozen 0
        have f5 : W3.drew.frozen? ⟨b5, 0, none⟩ = false := k5.frozen 0
        have f6 : W3.drew.frozen? ⟨b6, 0, none⟩ = false := k6.frozen 0
        have d5 : Whole W3.drew b5 3 #[.int .i64 0] := k5
        have d6 : Whole W3.drew b6 24 #[.int .i64 0] := k6
        have y5 : ∀ u, (W3.drew.setCell ⟨b4, 0, none⟩ u).cell? ⟨b5, 0, none⟩ = some (.int .i64 0) := fun u => (d5.far (p := ⟨b4, 0, none⟩) n54 u).cell 0
        have g5 : ∀ u, (W3.drew.setCell ⟨b4, 0, none⟩ u).frozen? ⟨b5, 0, none⟩ = false := fun u => (d5.far (p := ⟨b4, 0, none⟩) n54 u).frozen 0
        have y6 : ∀ u v, ((W3.drew.setCell ⟨b4, 0, none⟩ u).setCell ⟨b5, 0, none⟩ v).cell? ⟨b6, 0, none⟩ = some (.int .i64 0) := fun u v => ((d6.far (p := ⟨b4, 0, none⟩) n64 u).far (p := ⟨b5, 0, none⟩) n65 v).cell 0
        have g6 : ∀ u v, ((W3.drew.setCell ⟨b4, 0, none⟩ u).setCell ⟨b5, 0, none⟩ v).frozen? ⟨b6, 0, none⟩ = false := fun u v => ((d6.far (p := ⟨b4, 0, none⟩) n64 u).far (p := ⟨b5, 0, none⟩) n65 v).frozen 0
        have xw5 : W3.cell? ⟨b5, 0, none⟩ = some (.int .i64 0) := k5.cell 0
        have xw6 : W3.cell? ⟨b6, 0, none⟩ = some (.int .i64 0) := k6.cell 0
        have fw5 : W3.frozen? ⟨b5, 0, none⟩ = false := k5.frozen 0
        have fw6 : W3.frozen? ⟨b6, 0, none⟩ = false := k6.frozen 0
        obtain ⟨U, hU⟩ : ∃ U, U = (q1 + 7) / 8 := ⟨_, rfl⟩
        have hq4 := HD3.out.at_
        have hl4 : X.bs.length ≤ 4096 := HX.out.len
        have w1 : IntKind.i64.wrap ((q1 : Int) + 7) = (q1 : Int) + 7 := IntWalk.i64_in _ ⟨by omega, by omega⟩
        have w2 : IntKind.i64.wrap (((q1 : Int) + 7).tdiv 8) = (U : Int) := by
          rw [Int.tdiv_eq_ediv_of_nonneg (by omega), IntWalk.i64_in _ ⟨by omega, by omega⟩]
          omega
        obtain ⟨Z, hZ⟩ : ∃ Z, Z = (((W3.setCell ⟨b4, 0, none⟩ (.slice oa o'.length oc)).setCell ⟨b5, 0, none⟩ (.int .i64 (U : Int))).setCell ⟨b6, 0, none⟩ (.int .i64 0)).drew := ⟨_, rfl⟩
        have hXn : W0.heap.size < X.n := by rw [← HXb.out]; have := HX.out.bd; have := HX.out.dn; omega
        have z4 : Whole Z b4 22 #[.slice oa o'.length oc] := by rw [hZ]; simpa using (((k4.set 0 (.slice oa o'.length oc)).far (p := ⟨b5, 0, none⟩) n45 (.int .i64 (U : Int))).far (p := ⟨b6, 0, none⟩) n46 (.int .i64 0)).drew
        have z5 : Whole Z b5 3 #[.int .i64 (U : Int)] := by rw [hZ]; simpa using (((k5.far (p := ⟨b4, 0, none⟩) n54 (.slice oa o'.length oc)).set 0 (.int .i64 (U : Int))).far (p := ⟨b6, 0, none⟩) n56 (.int .i64 0)).drew
        have z6 : Whole Z b6 24 #[.int .i64 0] := by rw [hZ]; simpa using (((k6.far (p := ⟨b4, 0, none⟩) n64 (.slice oa o'.length oc)).far (p := ⟨b5, 0, none⟩) n65 (.int .i64 (U : Int))).set 0 (.int .i64 0)).drew
        have hoZ : Only (fun k => k = b4 ∨ k = b5 ∨ k = b6) W3 Z := by
          rw [hZ]
          exact (Only.setCell (S := fun k => k = b4 ∨ k = b5 ∨ k = b6) (Only.setCell (S := fun k => k = b4 ∨ k = b5 ∨ k = b6) (Only.setCell (S := fun k => k = b4 ∨ k = b5 ∨ k = b6) (Only.refl _ _) (p := ⟨b4, 0, none⟩) (fun _ => .inl rfl) _) (p := ⟨b5, 0, none⟩) (fun _ => .inr (.inl rfl)) _) (p := ⟨b6, 0, none⟩) (fun _ => .inr (.inr rfl)) _).drew
        have hOZ : Own8 Z X.n (.slice oa o'.length oc) o' := h2.only hoZ (fun b hb e => by have := (h2.lt b hb).1; omega)
        have hNZ : Nums .u8 Z Z.heap.size oa o' := by
          obtain ⟨oa2, oc2, e, _, _, _, hN2⟩ := hOZ.nums
          injection e with e1 _ _
          rw [e1]; exact hN2
        have hBZ : Below w.heap.size w Z := by
          have hB3 : Below w.heap.size w W3 := HBW.out.trans (HK3.out.below.mono (by rw [HXb.out]; omega))
          refine hB3.trans (hoZ.below (fun b hb e => by omega) ?_)
          exact hB3.size
        have HZ := Lib.hid (show Z.cell? ⟨b4, 0, none⟩ = some (.slice oa o'.length oc) ∧ Z.cell? ⟨b5, 0, none⟩ = some (.int .i64 (U : Int)) ∧ Z.cell? ⟨b6, 0, none⟩ = some (.int .i64 0) from ⟨z4.cell 0, z5.cell 0, z6.cell 0⟩)
        have HZN := Lib.hid (show Nums .u8 Z Z.heap.size oa o' ∧ (oa = none → oc = 0 ∧ o' = []) ∧ o'.length ≤ oc ∧ oc ≤ maxLen ∧ Below w.heap.size w Z from ⟨hNZ, hz, hc1, hc2, hBZ⟩)
        have HZe := Lib.hid hZ
        have Hb4 := Lib.hid hb4
        have Hb5 := Lib.hid hb5
        have Hb6 := Lib.hid hb6
        have HU := Lib.hid hU
        clear hZ hXn z4 z5 z6 hoZ hOZ hNZ hBZ
        have Hat3 := Lib.hid (At.out W3.drew HD3.out.drew.reader)
        clear hN h1 h2 hz hc1 hc2 k4 k5 k6 d5 d6 At hs0 hb4 hb5 hb6 hq4 hl4 hU
        refine wp_region_held (S := fun _ => True) (by kernel_rfl) ?_
        refine wpAnyH_take (i := 0) (oi := { dst := some 17, op := Go.Op.move (Go.Operand.tmp 7), type := 106, pos := "inflate.go:49", after := #[], guard := none }) (v := ?_) rfl (by kernel_rfl) (by kernel_rfl) (by kernel_rfl) (fun _ a _ h => leaves_put (by decide) (by decide) (by decide) _ _ _ h) (Or.inl ⟨by rfl, ?_⟩) (trivial) ?_
        rotate_left 1
        · intro w5 hSw
          go_simp; all_goals (with_reducible rfl)
        try simp only [Act.put, List.setIfInBounds_toArray, List.set_cons_zero, List.set_cons_succ]
        refine wpAnyH_take (i := 1) (oi := { dst := some 18, op := Go.Op.nilCheck (Go.Operand.tmp 17), type := 0, pos := "inflate.go:49", after := #[{ on := 0, ground := Go.Ground.data }], guard := none }) (v := ?_) rfl (by kernel_rfl) (by kernel_rfl) (by kernel_rfl) (fun _ a _ h => leaves_put (by decide) (by decide) (by decide) _ _ _ h) (Or.inl ⟨by rfl, ?_⟩) (trivial) ?_
        rotate_left 1
        · intro w5 hSw
          go_simp; all_goals (with_reducible rfl)
        try simp only [Act.put, List.setIfInBounds_toArray, List.set_cons_zero, List.set_cons_succ]
        refine wpAnyH_take (i := 2) (oi := { dst := some 19, op := Go.Op.fieldAddr 112 (Go.Operand.tmp 18) 1, type := 0, pos := "inflate.go:49", after := #[{ on := 1, ground := Go.Ground.data }], guard := none }) (v := ?_) rfl (by kernel_rfl) (by kernel_rfl) (by kernel_rfl) (fun _ a _ h => leaves_put (by decide) (by decide) (by decide) _ _ _ h) (Or.inl ⟨by rfl, ?_⟩) (trivial) ?_
        rotate_left 1
        · intro w5 hSw
          go_simp; all_goals (with_reducible rfl)
        try simp only [Act.put, List.setIfInBounds_toArray, List.set_cons_zero, List.set_cons_succ]
        refine wpAnyH_take (i := 4) (oi := { dst := some 21, op := Go.Op.move (Go.Operand.tmp 7), type := 106, pos := "inflate.go:49", after := #[], guard := none }) (v := ?_) rfl (by kernel_rfl) (by kernel_rfl) (by kernel_rfl) (fun _ a _ h => leaves_put (by decide) (by decide) (by decide) _ _ _ h) (Or.inl ⟨by rfl, ?_⟩) (trivial) ?_
        rotate_left 1
        · intro w5 hSw
          go_simp; all_goals (with_reducible rfl)
        try simp only [Act.put, List.setIfInBounds_toArray, List.set_cons_zero, List.set_cons_succ]
        refine wpAnyH_take (i := 5) (oi := { dst := some 22, op := Go.Op.nilCheck (Go.Operand.tmp 21), type := 0, pos := "inflate.go:49", after := #[{ on := 4, ground := Go.Ground.data }], guard := none }) (v := ?_) rfl (by kernel_rfl) (by kernel_rfl) (by kernel_rfl) (fun _ a _ h => leaves_put (by decide) (by decide) (by decide) _ _ _ h) (Or.inl ⟨by rfl, ?_⟩) (trivial) ?_
        rotate_left 1
        · intro w5 hSw
          go_simp; all_goals (with_reducible rfl)
        try simp only [Act.put, List.setIfInBounds_toArray, List.set_cons_zero, List.set_cons_succ]
        refine wpAnyH_take (i := 6) (oi := { dst := some 23, op := Go.Op.fieldAddr 112 (Go.Operand.tmp 22) 0, type := 0, pos := "inflate.go:49", after := #[{ on := 5, ground := Go.Ground.data }], guard := none }) (v := ?_) rfl (by kernel_rfl) (by kernel_rfl) (by kernel_rfl) (fun _ a _ h => leaves_put (by decide) (by decide) (by decide) _ _ _ h) (Or.inl ⟨by rfl, ?_⟩) (trivial) ?_
        rotate_left 1
        · intro w5 hSw
          go_simp; all_goals (with_reducible rfl)
        try simp only [Act.put, List.setIfInBounds_toArray, List.set_cons_zero, List.set_cons_succ]
        refine wpAnyH_ready (rs := [3, 7]) (by kernel_rfl) (by simp) ?_
        refine (AllReadyH.cons (o := { dst := some 20, op := Go.Op.load 22 (Go.Operand.tmp 19), type := 22, pos := "inflate.go:49", after := #[{ on := 2, ground := Go.Ground.data }], guard := none }) rfl (fun K hK => ?_) (AllReadyH.cons (o := { dst := some 24, op := Go.Op.load 107 (Go.Operand.tmp 23), type := 107, pos := "inflate.go:49", after := #[{ on := 6, ground := Go.Ground.data }], guard := none }) rfl (fun K hK => ?_) AllReadyH.nil))
        · go_simp
          refine hK.out _ _ (trivial) (fun _ => ?_)
          clear hK K
          try simp only [Act.put, List.setIfInBounds_toArray, List.set_cons_zero, List.set_cons_succ]
          refine wpAnyH_ready (rs := [7]) (by kernel_rfl) (by simp) ?_
          refine (AllReadyH.cons (o := { dst := some 24, op := Go.Op.load 107 (Go.Operand.tmp 23), type := 107, pos := "inflate.go:49", after := #[{ on := 6, ground := Go.Ground.data }], guard := none }) rfl (fun K hK => ?_) AllReadyH.nil)
          go_simp
          refine hK.out _ _ (trivial) (fun _ => ?_)
          clear hK K
          try simp only [Act.put, List.setIfInBounds_toArray, List.set_cons_zero, List.set_cons_succ]
          refine wpAnyH_ready (rs := [8]) (by kernel_rfl) (by simp) ?_
          refine (AllReadyH.cons (o := { dst := some 25, op := Go.Op.call { callee := Go.Callee.value (Go.Operand.func 77), args := #[Go.Operand.tmp 24], argTypes := #[107] }, type := 3, pos := "inflate.go:49", after := #[{ on := 7, ground := Go.Ground.data }], guard := none }) rfl (fun K hK => ?_) AllReadyH.nil)
          go_simp
          (refine Hat3.out.mono ?_; rintro e W9 ⟨rfl, rfl⟩)
          go_wp2_with fail
          refine hK.out _ _ (trivial) (fun _ => ?_)
          clear hK K
          try simp only [Act.put, List.setIfInBounds_toArray, List.set_cons_zero, List.set_cons_succ]
          refine wpAnyH_take (i := 9) (oi := { dst := some 26, op := Go.Op.binOp Go.BinOp.add 3 (Go.Operand.tmp 25) (Go.Operand.const (Go.Value.int Go.IntKind.i64 7)) 3, type := 3, pos := "inflate.go:49", after := #[{ on := 8, ground := Go.Ground.data }], guard := none }) (v := ?_) rfl (by kernel_rfl) (by kernel_rfl) (by kernel_rfl) (fun _ a _ h => leaves_put (by decide) (by decide) (by decide) _ _ _ h) (Or.inl ⟨by rfl, ?_⟩) (trivial) ?_
          rotate_left 1
          · intro w5 hSw
            go_simp; all_goals (with_reducible rfl)
          try simp only [Act.put, List.setIfInBounds_toArray, List.set_cons_zero, List.set_cons_succ]
          refine wpAnyH_take (i := 10) (oi := { dst := some 27, op := Go.Op.binOp Go.BinOp.quo 3 (Go.Operand.tmp 26) (Go.Operand.const (Go.Value.int Go.IntKind.i64 8)) 3, type := 3, pos := "inflate.go:49", after := #[{ on := 9, ground := Go.Ground.data }], guard := none }) (v := ?_) rfl (by kernel_rfl) (by kernel_rfl) (by kernel_rfl) (fun _ a _ h => leaves_put (by decide) (by decide) (by decide) _ _ _ h) (Or.inl ⟨by rfl, ?_⟩) (trivial) ?_
          rotate_left 1
          · intro w5 hSw
            go_simp; all_goals (with_reducible rfl)
          try simp only [Act.put, List.setIfInBounds_toArray, List.set_cons_zero, List.set_cons_succ]
          refine wpAnyH_ready (rs := [11]) (by kernel_rfl) (by simp) ?_
          refine (AllReadyH.cons (o := { dst := none, op := Go.Op.store 22 (Go.Operand.tmp 4) (Go.Operand.tmp 20), type := 0, pos := "inflate.go:49", after := #[{ on := 3, ground := Go.Ground.data }, { on := 8, ground := Go.Ground.chain }, { on := 0, ground := Go.Ground.phase }, { on := 1, ground := Go.Ground.phase }, { on := 2, ground := Go.Ground.phase }, { on := 3, ground := Go.Ground.phase }, { on := 4, ground := Go.Ground.textOnly Go.Departure.lateStoresUnsure }, { on := 5, ground := Go.Ground.textOnly Go.Departure.lateStoresUnsure }, { on := 6, ground := Go.Ground.textOnly Go.Departure.lateStoresUnsure }, { on := 7, ground := Go.Ground.textOnly Go.Departure.lateStoresUnsure }, { on := 8, ground := Go.Ground.textOnly Go.Departure.lateStoresUnsure }, { on := 9, ground := Go.Ground.textOnly Go.Departure.lateStoresUnsure }, { on := 10, ground := Go.Ground.textOnly Go.Departure.lateStoresUnsure }], guard := none }) rfl (fun K hK => ?_) AllReadyH.nil)
          go_simp
          refine hK.out _ _ (trivial) (fun _ => ?_)
          clear hK K
          try simp only [Act.put, List.setIfInBounds_toArray, List.set_cons_zero, List.set_cons_succ]
          refine wpAnyH_ready (rs := [12]) (by kernel_rfl) (by simp) ?_
          refine (AllReadyH.cons (o := { dst := none, op := Go.Op.store 3 (Go.Operand.tmp 5) (Go.Operand.tmp 27), type := 0, pos := "inflate.go:49", after := #[{ on := 10, ground := Go.Ground.data }, { on := 11, ground := Go.Ground.chain }, { on := 0, ground := Go.Ground.phase }, { on := 1, ground := Go.Ground.phase }, { on := 2, ground := Go.Ground.phase }, { on := 3, ground := Go.Ground.phase }, { on := 4, ground := Go.Ground.phase }, { on := 5, ground := Go.Ground.phase }, { on := 6, ground := Go.Ground.phase }, { on := 7, ground := Go.Ground.phase }, { on := 8, ground := Go.Ground.phase }, { on := 9, ground := Go.Ground.phase }, { on := 10, ground := Go.Ground.phase }, { on := 11, ground := Go.Ground.phase }], guard := none }) rfl (fun K hK => ?_) AllReadyH.nil)
          go_simp
          refine hK.out _ _ (trivial) (fun _ => ?_)
          clear hK K
          try simp only [Act.put, List.setIfInBounds_toArray, List.set_cons_zero, List.set_cons_succ]
          refine wpAnyH_ready (rs := [13]) (by kernel_rfl) (by simp) ?_
          refine (AllReadyH.cons (o := { dst := none, op := Go.Op.store 24 (Go.Operand.tmp 6) (Go.Operand.const (Go.Value.int Go.IntKind.i64 0)), type := 0, pos := "inflate.go:49", after := #[{ on := 12, ground := Go.Ground.chain }, { on := 0, ground := Go.Ground.phase }, { on := 1, ground := Go.Ground.phase }, { on := 2, ground := Go.Ground.phase }, { on := 3, ground := Go.Ground.phase }, { on := 4, ground := Go.Ground.phase }, { on := 5, ground := Go.Ground.phase }, { on := 6, ground := Go.Ground.phase }, { on := 7, ground := Go.Ground.phase }, { on := 8, ground := Go.Ground.phase }, { on := 9, ground := Go.Ground.phase }, { on := 10, ground := Go.Ground.phase }, { on := 11, ground := Go.Ground.phase }, { on := 12, ground := Go.Ground.phase }], guard := none }) rfl (fun K hK => ?_) AllReadyH.nil)
          go_simp
          refine hK.out _ _ (trivial) (fun _ => ?_)
          clear hK K
          try simp only [Act.put, List.setIfInBounds_toArray, List.set_cons_zero, List.set_cons_succ]
          refine wpAnyH_done (by kernel_rfl) ?_ _
          rw [← HZe.out]
          go_wp2_with fail
          obtain ⟨p4, p5, p6⟩ := HZ.out
          rw [Hb4.out] at p4
          rw [Hb5.out] at p5
          rw [Hb6.out] at p6
          rw [Hb4.out, Hb5.out, Hb6.out]
          show bodyPostD _ _ (AllPost w (o', (q1 + 7) / 8, 0)) _ _ _
          rw [← HU.out]
          exact all_door_ok w Z _ oa o'.length oc U o' p4 p5 p6 rfl HZN.out.1 HZN.out.2.1 HZN.out.2.2.1 HZN.out.2.2.2.1 HZN.out.2.2.2.2 (by rfl) (by rfl) (by rfl)
        · go_simp
          refine hK.out _ _ (trivial) (fun _ => ?_)
          clear hK K
          try simp only [Act.put, List.setIfInBounds_toArray, List.set_cons_zero, List.set_cons_succ]
          refine wpAnyH_ready (rs := [3, 8]) (by kernel_rfl) (by simp) ?_
          refine (AllReadyH.cons (o := { dst := some 20, op := Go.Op.load 22 (Go.Operand.tmp 19), type := 22, pos := "inflate.go:49", after := #[{ on := 2, ground := Go.Ground.data }], guard := none }) rfl (fun K hK => ?_) (AllReadyH.cons (o := { dst := some 25, op := Go.Op.call { callee := Go.Callee.value (Go.Operand.func 77), args := #[Go.Operand.tmp 24], argTypes := #[107] }, type := 3, pos := "inflate.go:49", after := #[{ on := 7, ground := Go.Ground.data }], guard := none }) rfl (fun K hK => ?_) AllReadyH.nil))
          · go_simp
            refine hK.out _ _ (trivial) (fun _ => ?_)
            clear hK K
            try simp only [Act.put, List.setIfInBounds_toArray, List.set_cons_zero, List.set_cons_succ]
            refine wpAnyH_ready (rs := [8]) (by kernel_rfl) (by simp) ?_
            refine (AllReadyH.cons (o := { dst := some 25, op := Go.Op.call { callee := Go.Callee.value (Go.Operand.func 77), args := #[Go.Operand.tmp 24], argTypes := #[107] }, type := 3, pos := "inflate.go:49", after := #[{ on := 7, ground := Go.Ground.data }], guard := none }) rfl (fun K hK => ?_) AllReadyH.nil)
            go_simp
            (refine Hat3.out.mono ?_; rintro e W9 ⟨rfl, rfl⟩)
            go_wp2_with fail
            refine hK.out _ _ (trivial) (fun _ => ?_)
            clear hK K
            try simp only [Act.put, List.setIfInBounds_toArray, List.set_cons_zero, List.set_cons_succ]
            refine wpAnyH_take (i := 9) (oi := { dst := some 26, op := Go.Op.binOp Go.BinOp.add 3 (Go.Operand.tmp 25) (Go.Operand.const (Go.Value.int Go.IntKind.i64 7)) 3, type := 3, pos := "inflate.go:49", after := #[{ on := 8, ground := Go.Ground.data }], guard := none }) (v := ?_) rfl (by kernel_rfl) (by kernel_rfl) (by kernel_rfl) (fun _ a _ h => leaves_put (by decide) (by decide) (by decide) _ _ _ h) (Or.inl ⟨by rfl, ?_⟩) (trivial) ?_
            rotate_left 1
            · intro w5 hSw
              go_simp; all_goals (with_reducible rfl)
            try simp only [Act.put, List.setIfInBounds_toArray, List.set_cons_zero, List.set_cons_succ]
            refine wpAnyH_take (i := 10) (oi := { dst := some 27, op := Go.Op.binOp Go.BinOp.quo 3 (Go.Operand.tmp 26) (Go.Operand.const (Go.Value.int Go.IntKind.i64 8)) 3, type := 3, pos := "inflate.go:49", after := #[{ on := 9, ground := Go.Ground.data }], guard := none }) (v := ?_) rfl (by kernel_rfl) (by kernel_rfl) (by kernel_rfl) (fun _ a _ h => leaves_put (by decide) (by decide) (by decide) _ _ _ h) (Or.inl ⟨by rfl, ?_⟩) (trivial) ?_
            rotate_left 1
            · intro w5 hSw
              go_simp; all_goals (with_reducible rfl)
            try simp only [Act.put, List.setIfInBounds_toArray, List.set_cons_zero, List.set_cons_succ]
            refine wpAnyH_ready (rs := [11]) (by kernel_rfl) (by simp) ?_
            refine (AllReadyH.cons (o := { dst := none, op := Go.Op.store 22 (Go.Operand.tmp 4) (Go.Operand.tmp 20), type := 0, pos := "inflate.go:49", after := #[{ on := 3, ground := Go.Ground.data }, { on := 8, ground := Go.Ground.chain }, { on := 0, ground := Go.Ground.phase }, { on := 1, ground := Go.Ground.phase }, { on := 2, ground := Go.Ground.phase }, { on := 3, ground := Go.Ground.phase }, { on := 4, ground := Go.Ground.textOnly Go.Departure.lateStoresUnsure }, { on := 5, ground := Go.Ground.textOnly Go.Departure.lateStoresUnsure }, { on := 6, ground := Go.Ground.textOnly Go.Departure.lateStoresUnsure }, { on := 7, ground := Go.Ground.textOnly Go.Departure.lateStoresUnsure }, { on := 8, ground := Go.Ground.textOnly Go.Departure.lateStoresUnsure }, { on := 9, ground := Go.Ground.textOnly Go.Departure.lateStoresUnsure }, { on := 10, ground := Go.Ground.textOnly Go.Departure.lateStoresUnsure }], guard := none }) rfl (fun K hK => ?_) AllReadyH.nil)
            go_simp
            refine hK.out _ _ (trivial) (fun _ => ?_)
            clear hK K
            try simp only [Act.put, List.setIfInBounds_toArray, List.set_cons_zero, List.set_cons_succ]
            refine wpAnyH_ready (rs := [12]) (by kernel_rfl) (by simp) ?_
            refine (AllReadyH.cons (o := { dst := none, op := Go.Op.store 3 (Go.Operand.tmp 5) (Go.Operand.tmp 27), type := 0, pos := "inflate.go:49", after := #[{ on := 10, ground := Go.Ground.data }, { on := 11, ground := Go.Ground.chain }, { on := 0, ground := Go.Ground.phase }, { on := 1, ground := Go.Ground.phase }, { on := 2, ground := Go.Ground.phase }, { on := 3, ground := Go.Ground.phase }, { on := 4, ground := Go.Ground.phase }, { on := 5, ground := Go.Ground.phase }, { on := 6, ground := Go.Ground.phase }, { on := 7, ground := Go.Ground.phase }, { on := 8, ground := Go.Ground.phase }, { on := 9, ground := Go.Ground.phase }, { on := 10, ground := Go.Ground.phase }, { on := 11, ground := Go.Ground.phase }], guard := none }) rfl (fun K hK => ?_) AllReadyH.nil)
            go_simp
            refine hK.out _ _ (trivial) (fun _ => ?_)
            clear hK K
            try simp only [Act.put, List.setIfInBounds_toArray, List.set_cons_zero, List.set_cons_succ]
            refine wpAnyH_ready (rs := [13]) (by kernel_rfl) (by simp) ?_
            refine (AllReadyH.cons (o := { dst := none, op := Go.Op.store 24 (Go.Operand.tmp 6) (Go.Operand.const (Go.Value.int Go.IntKind.i64 0)), type := 0, pos := "inflate.go:49", after := #[{ on := 12, ground := Go.Ground.chain }, { on := 0, ground := Go.Ground.phase }, { on := 1, ground := Go.Ground.phase }, { on := 2, ground := Go.Ground.phase }, { on := 3, ground := Go.Ground.phase }, { on := 4, ground := Go.Ground.phase }, { on := 5, ground := Go.Ground.phase }, { on := 6, ground := Go.Ground.phase }, { on := 7, ground := Go.Ground.phase }, { on := 8, ground := Go.Ground.phase }, { on := 9, ground := Go.Ground.phase }, { on := 10, ground := Go.Ground.phase }, { on := 11, ground := Go.Ground.phase }, { on := 12, ground := Go.Ground.phase }], guard := none }) rfl (fun K hK => ?_) AllReadyH.nil)
            go_simp
            refine hK.out _ _ (trivial) (fun _ => ?_)
            clear hK K
            try simp only [Act.put, List.setIfInBounds_toArray, List.set_cons_zero, List.set_cons_succ]
            refine wpAnyH_done (by kernel_rfl) ?_ _
            rw [← HZe.out]
            go_wp2_with fail
            obtain ⟨p4, p5, p6⟩ := HZ.out
            rw [Hb4.out] at p4
            rw [Hb5.out] at p5
            rw [Hb6.out] at p6
            rw [Hb4.out, Hb5.out, Hb6.out]
            show bodyPostD _ _ (AllPost w (o', (q1 + 7) / 8, 0)) _ _ _
            rw [← HU.out]
            exact all_door_ok w Z _ oa o'.length oc U o' p4 p5 p6 rfl HZN.out.1 HZN.out.2.1 HZN.out.2.2.1 HZN.out.2.2.2.1 HZN.out.2.2.2.2 (by rfl) (by rfl) (by rfl)
          · go_simp
            (refine Hat3.out.mono ?_; rintro e W9 ⟨rfl, rfl⟩)
            go_wp2_with fail
            refine hK.out _ _ (trivial) (fun _ => ?_)
            clear hK K
            try simp only [Act.put, List.setIfInBounds_toArray, List.set_cons_zero, List.set_cons_succ]
            refine wpAnyH_take (i := 9) (oi := { dst := some 26, op := Go.Op.binOp Go.BinOp.add 3 (Go.Operand.tmp 25) (Go.Operand.const (Go.Value.int Go.IntKind.i64 7)) 3, type := 3, pos := "inflate.go:49", after := #[{ on := 8, ground := Go.Ground.data }], guard := none }) (v := ?_) rfl (by kernel_rfl) (by kernel_rfl) (by kernel_rfl) (fun _ a _ h => leaves_put (by decide) (by decide) (by decide) _ _ _ h) (Or.inl ⟨by rfl, ?_⟩) (trivial) ?_
            rotate_left 1
            · intro w5 hSw
              go_simp; all_goals (with_reducible rfl)
            try simp only [Act.put, List.setIfInBounds_toArray, List.set_cons_zero, List.set_cons_succ]
            refine wpAnyH_take (i := 10) (oi := { dst := some 27, op := Go.Op.binOp Go.BinOp.quo 3 (Go.Operand.tmp 26) (Go.Operand.const (Go.Value.int Go.IntKind.i64 8)) 3, type := 3, pos := "inflate.go:49", after := #[{ on := 9, ground := Go.Ground.data }], guard := none }) (v := ?_) rfl (by kernel_rfl) (by kernel_rfl) (by kernel_rfl) (fun _ a _ h => leaves_put (by decide) (by decide) (by decide) _ _ _ h) (Or.inl ⟨by rfl, ?_⟩) (trivial) ?_
            rotate_left 1
            · intro w5 hSw
              go_simp; all_goals (with_reducible rfl)
            try simp only [Act.put, List.setIfInBounds_toArray, List.set_cons_zero, List.set_cons_succ]
            refine wpAnyH_ready (rs := [3]) (by kernel_rfl) (by simp) ?_
            refine (AllReadyH.cons (o := { dst := some 20, op := Go.Op.load 22 (Go.Operand.tmp 19), type := 22, pos := "inflate.go:49", after := #[{ on := 2, ground := Go.Ground.data }], guard := none }) rfl (fun K hK => ?_) AllReadyH.nil)
            go_simp
            refine hK.out _ _ (trivial) (fun _ => ?_)
            clear hK K
            try simp only [Act.put, List.setIfInBounds_toArray, List.set_cons_zero, List.set_cons_succ]
            refine wpAnyH_ready (rs := [11]) (by kernel_rfl) (by simp) ?_
            refine (AllReadyH.cons (o := { dst := none, op := Go.Op.store 22 (Go.Operand.tmp 4) (Go.Operand.tmp 20), type := 0, pos := "inflate.go:49", after := #[{ on := 3, ground := Go.Ground.data }, { on := 8, ground := Go.Ground.chain }, { on := 0, ground := Go.Ground.phase }, { on := 1, ground := Go.Ground.phase }, { on := 2, ground := Go.Ground.phase }, { on := 3, ground := Go.Ground.phase }, { on := 4, ground := Go.Ground.textOnly Go.Departure.lateStoresUnsure }, { on := 5, ground := Go.Ground.textOnly Go.Departure.lateStoresUnsure }, { on := 6, ground := Go.Ground.textOnly Go.Departure.lateStoresUnsure }, { on := 7, ground := Go.Ground.textOnly Go.Departure.lateStoresUnsure }, { on := 8, ground := Go.Ground.textOnly Go.Departure.lateStoresUnsure }, { on := 9, ground := Go.Ground.textOnly Go.Departure.lateStoresUnsure }, { on := 10, ground := Go.Ground.textOnly Go.Departure.lateStoresUnsure }], guard := none }) rfl (fun K hK => ?_) AllReadyH.nil)
            go_simp
            refine hK.out _ _ (trivial) (fun _ => ?_)
            clear hK K
            try simp only [Act.put, List.setIfInBounds_toArray, List.set_cons_zero, List.set_cons_succ]
            refine wpAnyH_ready (rs := [12]) (by kernel_rfl) (by simp) ?_
            refine (AllReadyH.cons (o := { dst := none, op := Go.Op.store 3 (Go.Operand.tmp 5) (Go.Operand.tmp 27), type := 0, pos := "inflate.go:49", after := #[{ on := 10, ground := Go.Ground.data }, { on := 11, ground := Go.Ground.chain }, { on := 0, ground := Go.Ground.phase }, { on := 1, ground := Go.Ground.phase }, { on := 2, ground := Go.Ground.phase }, { on := 3, ground := Go.Ground.phase }, { on := 4, ground := Go.Ground.phase }, { on := 5, ground := Go.Ground.phase }, { on := 6, ground := Go.Ground.phase }, { on := 7, ground := Go.Ground.phase }, { on := 8, ground := Go.Ground.phase }, { on := 9, ground := Go.Ground.phase }, { on := 10, ground := Go.Ground.phase }, { on := 11, ground := Go.Ground.phase }], guard := none }) rfl (fun K hK => ?_) AllReadyH.nil)
            go_simp
            refine hK.out _ _ (trivial) (fun _ => ?_)
            clear hK K
            try simp only [Act.put, List.setIfInBounds_toArray, List.set_cons_zero, List.set_cons_succ]
            refine wpAnyH_ready (rs := [13]) (by kernel_rfl) (by simp) ?_
            refine (AllReadyH.cons (o := { dst := none, op := Go.Op.store 24 (Go.Operand.tmp 6) (Go.Operand.const (Go.Value.int Go.IntKind.i64 0)), type := 0, pos := "inflate.go:49", after := #[{ on := 12, ground := Go.Ground.chain }, { on := 0, ground := Go.Ground.phase }, { on := 1, ground := Go.Ground.phase }, { on := 2, ground := Go.Ground.phase }, { on := 3, ground := Go.Ground.phase }, { on := 4, ground := Go.Ground.phase }, { on := 5, ground := Go.Ground.phase }, { on := 6, ground := Go.Ground.phase }, { on := 7, ground := Go.Ground.phase }, { on := 8, ground := Go.Ground.phase }, { on := 9, ground := Go.Ground.phase }, { on := 10, ground := Go.Ground.phase }, { on := 11, ground := Go.Ground.phase }, { on := 12, ground := Go.Ground.phase }], guard := none }) rfl (fun K hK => ?_) AllReadyH.nil)
            go_simp
            refine hK.out _ _ (trivial) (fun _ => ?_)
            clear hK K
            try simp only [Act.put, List.setIfInBounds_toArray, List.set_cons_zero, List.set_cons_succ]
            refine wpAnyH_done (by kernel_rfl) ?_ _
            rw [← HZe.out]
            go_wp2_with fail
            obtain ⟨p4, p5, p6⟩ := HZ.out
            rw [Hb4.out] at p4
            rw [Hb5.out] at p5
            rw [Hb6.out] at p6
            rw [Hb4.out, Hb5.out, Hb6.out]
            show bodyPostD _ _ (AllPost w (o', (q1 + 7) / 8, 0)) _ _ _
            rw [← HU.out]
            exact all_door_ok w Z _ oa o'.length oc U o' p4 p5 p6 rfl HZN.out.1 HZN.out.2.1 HZN.out.2.2.1 HZN.out.2.2.2.1 HZN.out.2.2.2.2 (by rfl) (by rfl) (by rfl)
      · have hE2 : X.run (Inf.loopP X.most f o') q1 = R := by
          have : (if la = 1 then Inf.ret o' else Inf.loopP X.most f o') (bitOf X.bs) (8 * X.bs.length) q1 = R := hE
          rw [if_neg hla] at this
          exact this
        have HE := Lib.hid hE2
        have el : (la == 1) = false := by simpa using hla
        have HB : Hid (Calls Try.prog 76 #[.pointer (some ⟨X.d, 0, none⟩)] wr fun e w' => e = .returned (.bool false) ∧ (∃ F, Dec X F o' q1 w' ∧ Fix F w') ∧ DK X.B wr w') := by have := HB.out; unfold BPost at this; simp only [el] at this; exact this
        clear hE hE2 hla el
        go_wp2_with fail
        refine HB.out.mono ?_
        rintro e W3 ⟨rfl, ⟨F3, hD3, hF3⟩, hK3⟩
        have HD3 := Lib.hid hD3
        have HF3 := Lib.hid hF3
        have HK3 := Lib.hid (HKq.out.trans hK3)
        clear hD3 hK3 hF3 HB
        go_wp2_with fail
        go_roundw
        case rel => exact ⟨f, q1, o', F3, HD3, HF3, HK3, by show _ < _; have := HF0.out; have := HQ1.out; omega, HE⟩
        case measure => rw [Hpos.out, HD3.out.pos]; have := HQ1.out; have := Hat.out; omega
end Go.Proofs.Ytngnhkghpnamoaa
