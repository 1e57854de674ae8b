/- Layer 18: Parse. -/
import Derived.Test.YtceegpkgifflcaaDoorCsv3
namespace Go.Proofs.YtceegpkgifflcaaDoor
open Go.RowKit Go.Lib
set_option linter.unusedVariables false
set_option maxRecDepth 100000

/-- A row of the call's own, its blocks above g, whose elements read as R and lie above g. -/
def TTg (X : World) (g : Nat) (d : Value) (R : List (List ByteArray)) : Prop :=
  ∃ xs, X.ownsRow (g + 1) 31 1 d R.length xs ∧ ∀ i (h : i < R.length), ∃ u, xs[i]? = some u ∧ RdTN X d.ownBlock u R[i] ∧ ∀ b, u.ownBlock = some b → g < b
section
variable {X Z : World} {g : Nat} {d d' u : Value} {R : List (List ByteArray)} {r : List ByteArray}
theorem TTg.nil_ : TTg X g (.slice none 0 0) [] := ⟨[], ⟨rfl, .inl ⟨rfl, rfl⟩⟩, fun i h => by simp at h⟩
theorem TTg.tt (h : TTg X g d R) : OwnTT X (g + 1) d R := by
  obtain ⟨xs, h1, h2⟩ := h
  exact ⟨xs, h1, fun i hi => by obtain ⟨u, a, b, _⟩ := h2 i hi; exact ⟨u, a, b⟩⟩
theorem TTg.far (h : TTg X g d R) (ho : Only (fun b => b = g) X Z) : TTg Z g d R := by
  obtain ⟨xs, h1, h2⟩ := h
  refine ⟨xs, own_only h1 ho (fun b e hb => by have := (World.ownsRow.lt h1 b e).1; omega), fun i hi => ?_⟩
  obtain ⟨u, a, ⟨A, c, e, l1, l2, l3⟩, b3⟩ := h2 i hi
  refine ⟨u, a, ⟨A, c, e, l1, l2, ?_⟩, b3⟩
  rcases l3 with e2 | ⟨b, off, e2, hb, hk, hc⟩
  · exact .inl e2
  · have hgb : g < b := b3 b (by rw [e, e2]; rfl)
    exact .inr ⟨b, off, e2, Nat.lt_of_lt_of_le hb ho.size, hk, fun i hi => (ho.cell (p := ⟨b, off + i, none⟩) hb (by simp; omega)).trans (hc i hi)⟩
theorem TTg.drewN (h : TTg X g d R) (n : Nat) : TTg (X.drewN n) g d R := h
theorem TTg.grow (h : TTg X g d R) {xs : List Value} (hx : ∀ i (h : i < R.length), ∃ u, xs[i]? = some u ∧ RdTN X d.ownBlock u R[i] ∧ ∀ b, u.ownBlock = some b → g < b) (hl : xs.length = R.length) (hu : RdTN X d.ownBlock u r) (hb : ∀ b, u.ownBlock = some b → g < b)
    (h2 : Z.ownsRow (g + 1) 31 1 d' (R.length + 1) (xs ++ [u])) (h3 : X.grownBy Z d.ownBlock) (h5 : d'.ownBlock = d.ownBlock ∨ ∃ k, d'.ownBlock = some k ∧ X.heap.size ≤ k) : TTg Z g d' (R ++ [r]) := by
  have hx2 : ∀ i (h : i < R.length), ∃ u, xs[i]? = some u ∧ RdTN X d.ownBlock u R[i] := fun i hi => by obtain ⟨u, a, b, _⟩ := hx i hi; exact ⟨u, a, b⟩
  obtain ⟨ys, k1, k2⟩ := own_grow hx2 hl hu h2 h3 h5
  have hys : ys.length = R.length + 1 := by have := k1.1; simpa using this
  have hlen : (xs ++ [u]).length = R.length + 1 := by simp [hl]
  have ho : Only (fun k => d.ownBlock = some k) X Z := Only.of_grown h3 (fun b e => e)
  have hn : ∀ b, b < X.heap.size → d.ownBlock ≠ some b → d'.ownBlock ≠ some b := fun b hb hk => by
    rcases h5 with e | ⟨k, e, hk'⟩
    · rw [e]; exact hk
    · rw [e]; intro e'; injection e' with e'; omega
  refine ⟨xs ++ [u], by simpa using h2, fun i hi => ?_⟩
  by_cases hlt : i < R.length
  · obtain ⟨u', q1, q2, q3⟩ := hx i hlt
    refine ⟨u', by rw [List.getElem?_append_left (by omega)]; exact q1, ?_, q3⟩
    have e : (R ++ [r])[i] = R[i] := by simp [List.getElem_append, hlt]
    rw [e]
    exact q2.only ho (fun _ h => h) hn
  · have hi2 : i = R.length := by simp at hi; omega
    subst hi2
    refine ⟨u, by rw [List.getElem?_append_right (by omega), hl]; simp, ?_, hb⟩
    have e : (R ++ [r])[R.length] = r := by simp
    rw [e]
    exact hu.only ho (fun _ h => h) hn
end
theorem below_drawnT {B : Nat} {w w' : World} (h : Below B w w') (n : Nat) : Below B w (w'.drewN n) := ⟨h.os, h.tape, h.output, h.size, h.block⟩
/-- What Parse leaves. -/
def ParsePost (w : World) (P : List (List ByteArray) × Nat × Int) (e : Ending) (w' : World) : Prop :=
  ∃ v, e = .returned (.tuple #[v, .int .i64 (P.2.1 : Int), .int .i64 P.2.2]) ∧ RdTT w' w'.heap.size v P.1 ∧ Below w.heap.size w w'
structure ParAt (w : World) (s : ByteArray) (X : World) (d : Value) (k : Nat) (R : List (List ByteArray)) : Prop where
  ps : PS X w.heap.size s k
  own : TTg X w.heap.size d R
  below : Below w.heap.size w X
set_option maxHeartbeats 8000000 in
theorem parse_any (s : ByteArray) (w : World) (hs : s.size ≤ 1000000) :
    Calls Tryd.prog 10 #[.string s] w (ParsePost w (parseE (bs s) ((bs s).length + 1) 0 [])) := by
  obtain ⟨P, hP⟩ : ∃ P, P = parseE (bs s) ((bs s).length + 1) 0 [] := ⟨_, rfl⟩
  rw [← hP]
  have HW := Lib.hid fun g k W hP hk => row_any g k s W hP hk hs
  have hlen := bs_length s
  have Hlen := Lib.hid hlen
  have HP := Lib.hid hP
  have h0 : Hid (ParAt w s (w.alloc (.cells #[.string s, .int .i64 0] 36)) (.slice none 0 0) 0 []) := ⟨Whole.new w _ _, TTg.nil_, (Below.refl _ _).alloc (Nat.le_refl _) _⟩
  clear hP hlen
  go_enter Tryd.func10, Tryd.ntmps10
  go_wp2_with fail
  go_loopw [2] (fun d X => ∃ (k : Nat) (R : List (List ByteArray)) (f : Nat), Hid (ParAt w s X d k R) ∧ k ≤ s.size ∧ Hid (parseE (bs s) f k R = P ∧ (bs s).length - k < f ∧ R.length ≤ k)) (fun _ X => s.size - posAt w.heap.size X)
  case atStart => exact ⟨0, [], _, h0.out, Nat.zero_le _, HP.out.symm, by omega, by simp⟩
  case round =>
    obtain ⟨k, R, f, hA, hks, hB⟩ := hrel
    have c0 : wr.cell? ⟨w.heap.size, 0, none⟩ = some (.string s) := hA.out.ps.cell 0
    have c1 : wr.cell? ⟨w.heap.size, 1, none⟩ = some (.int .i64 (k : Int)) := hA.out.ps.cell 1
    obtain ⟨f, rfl⟩ : ∃ f', f = f' + 1 := ⟨f - 1, by have := hB.out.2.1; omega⟩
    by_cases hlt : k < s.size
    · have d1 : decide ((k : Int) < (s.size : Int)) = true := decide_eq_true (by omega)
      have hki : k < (bs s).length := by have := Hlen.out; omega
      have HPos := Lib.hid hA.out.ps.pos
      have HWk := Lib.hid (HW.out w.heap.size k wr hA.out.ps hks)
      have hok := rowE_ok (bs_lt s) ((bs s).length + 1) k [] (by omega) (by omega) (by simp) (by simp)
      obtain ⟨r, k1, e, hW⟩ : ∃ r k1 e, rowE (bs s) ((bs s).length + 1) k [] = (r, k1, e) := ⟨_, _, _, rfl⟩
      rw [hW] at hok HWk
      have hk1s : k1 ≤ s.size := by have h1 : k1 ≤ (bs s).length := hok.hi; have := Hlen.out; omega
      have hmore : e = 0 → k < k1 := fun h => hok.more h hki
      have Hrl : Hid (r.length ≤ k1 + 1) := hok.len
      obtain ⟨a, c, e0, hc1, hc2, _⟩ := hA.out.own.tt.rd.at
      have hRk := hB.out.2.2
      have Hki := Lib.hid hki
      have HWe := Lib.hid hW
      have Hfu := Lib.hid hB.out.2.1
      have HRe := Lib.hid hB.out.1
      have hRb : R.length ≤ 1000000 := by omega
      have hcm : c ≤ 9223372036854775807 := hc2
      clear hok hW hki hB
      subst e0
      by_cases hmany : R.length = 65536
      · have hR : P = ([], k, 9) := by rw [← HRe.out, parseE_many Hki.out hmany]
        subst hR
        have e2 : ((R.length : Int) == 65536) = true := by rw [hmany]; rfl
        clear hmany hRk hRb hc1
        go_wp2_with fail
        go_ret3
        exact ⟨_, rfl, (TTg.nil_ (g := w.heap.size)).tt.rd, hA.out.below⟩
      · have e2 : ((R.length : Int) == 65536) = false := beq_eq_false_iff_ne.mpr (by omega)
        by_cases he : e = 0
        · subst he
          have hkk := hmore rfl
          have Hkk := Lib.hid hkk
          clear hmore
          by_cases hR0 : R = []
          · have e3 : decide ((0 : Int) < (R.length : Int)) = false := decide_eq_false (by rw [hR0]; simp)
            have e4 : decide (0 < R.length) = false := decide_eq_false (by rw [hR0]; simp)
            have HN : Hid (parseE (bs s) f k1 (R ++ [r]) = P) := by show _ = _; rw [← HRe.out, parseE_more Hki.out hmany HWe.out (by rw [hR0]; simp)]
            clear hR0 hmany
            have HZlt : Hid (∀ b, Value.ownBlock (.slice a R.length c) = some b → b < wr.heap.size) := fun b e => by obtain ⟨ys, y1, _⟩ := hA.out.own; exact (World.ownsRow.lt y1 b e).2
            go_wp2_with fail
            refine HWk.out.mono ?_
            rintro e' Z ⟨v, rfl, hPS, hOw, hOn⟩
            have HZ : Hid (ParAt w s Z (.slice a R.length c) k1 R) := ⟨hPS, hA.out.own.far hOn, hA.out.below.trans (hOn.below (fun b hb e => by omega) hA.out.below.size)⟩
            have HOw := Lib.hid hOw
            have HOn := Lib.hid hOn
            have HSz : Hid (w.heap.size + 1 ≤ Z.heap.size) := by have h1 := HZ.out.ps.lt; show _ ≤ _; omega
            obtain ⟨av, cv, rfl, hv1, hv2, hv3⟩ := hOw.rd
            obtain ⟨a0, c0', E0, z1, z2, hat⟩ := HZ.out.own.tt.rd.at
            obtain ⟨rfl, _, rfl⟩ : a = a0 ∧ True ∧ c = c0' := by injection E0 with h1 h2 h3; exact ⟨h1, trivial, h3⟩
            clear hat z1 z2 E0 hPS hOw hOn hv1 hv2 hv3
            obtain ⟨xs, hx1, hx2⟩ := HZ.out.own
            have hxl : xs.length = R.length := by simpa using hx1.1
            obtain ⟨i0, hi0, hz0, hz1, hz2⟩ := info_parts ttinfo
            have Hx1 := Lib.hid hx1
            have Hx2 := Lib.hid hx2
            have Hxl := Lib.hid hxl
            have Hl1 : Hid (R.length + 1 ≤ maxLen) := by unfold Hid maxLen; omega
            have Hl2 : Hid ((R.length + 1) * 24 ≤ 140737488355328) := by unfold Hid; omega
            clear hx1 hx2 hxl
            go_wp2_with (at_builtin; refine app_one rfl (.tmp 55) (.tmp 57) 22 rfl (w.heap.size + 1) 31 i0 _ 24 Tryd.underlying22 hi0 hz0 hz1 hz2 rfl _ R.length xs rfl (by exact Hx1.out) (.slice av r.length cv) 1 rfl rfl Hl1.out Hl2.out HSz.out ?_)
            intro v5 w5 h2 h3 h5
            have hb5 := HZ.out.below.grown h3 HZ.out.below.size (fun k hk => by have := (World.ownsRow.lt Hx1.out k hk).1; omega)
            have HS6 : Hid (ParAt w s w5 v5 k1 (R ++ [r])) := by
              refine ⟨?_, TTg.grow (X := Z) HZ.out.own Hx2.out Hxl.out (RdTN.of_rd HOw.out.rd (fun b e e2 => by have q1 := (HOw.out.lt b e).1; have q2 := (World.ownsRow.lt Hx1.out b e2).2; have q3 := HZlt.out b e2; omega)) (fun b e => by have q1 := (HOw.out.lt b e).1; have := hA.out.ps.lt; omega) h2 h3 h5, hb5⟩
              exact Whole.only HZ.out.ps (Only.of_grown (S := fun b => b ≠ w.heap.size) h3 (fun b e e2 => by have := (World.ownsRow.lt Hx1.out b e).1; omega)) (fun e => e rfl)
            clear h2 h3 h5 hb5
            go_wp2_with fail
            go_roundw
            case rel => exact ⟨k1, R ++ [r], f, HS6.out, hk1s, HN.out, by have := Hfu.out; have := Hlen.out; have := Hkk.out; omega, by have := Hkk.out; rw [List.length_append]; simp; omega⟩
            case measure => rw [HPos.out, HS6.out.ps.pos]; have := Hkk.out; omega
          · have hRp : 0 < R.length := List.length_pos_iff.2 hR0
            have e3 : decide ((0 : Int) < (R.length : Int)) = true := decide_eq_true (by omega)
            have e4 : decide (0 < R.length) = true := decide_eq_true hRp
            obtain ⟨L0, hL0⟩ : ∃ L0, L0 = (R.getD 0 []).length := ⟨_, rfl⟩
            have HL0 := Lib.hid hL0
            by_cases hne : r.length = L0
            · have e5 : ((r.length : Int) != (L0 : Int)) = false := by rw [hne]; exact bne_self_eq_false _
              have HN : Hid (parseE (bs s) f k1 (R ++ [r]) = P) := by show _ = _; rw [← HRe.out, parseE_more Hki.out hmany HWe.out (by rw [← hL0]; omega)]
              clear hR0 hmany hL0 hne
              have HZlt : Hid (∀ b, Value.ownBlock (.slice a R.length c) = some b → b < wr.heap.size) := fun b e => by obtain ⟨ys, y1, _⟩ := hA.out.own; exact (World.ownsRow.lt y1 b e).2
              go_wp2_with fail
              refine HWk.out.mono ?_
              rintro e' Z ⟨v, rfl, hPS, hOw, hOn⟩
              have HZ : Hid (ParAt w s Z (.slice a R.length c) k1 R) := ⟨hPS, hA.out.own.far hOn, hA.out.below.trans (hOn.below (fun b hb e => by omega) hA.out.below.size)⟩
              have HOw := Lib.hid hOw
              have HOn := Lib.hid hOn
              have HSz : Hid (w.heap.size + 1 ≤ Z.heap.size) := by have h1 := HZ.out.ps.lt; show _ ≤ _; omega
              obtain ⟨av, cv, rfl, hv1, hv2, hv3⟩ := hOw.rd
              obtain ⟨a0, c0', E0, z1, z2, hat⟩ := HZ.out.own.tt.rd.at
              obtain ⟨rfl, _, rfl⟩ : a = a0 ∧ True ∧ c = c0' := by injection E0 with h1 h2 h3; exact ⟨h1, trivial, h3⟩
              obtain ⟨b0, o0, u0, rfl, hb0, hcu, ⟨a5, c5, rfl, q1, q2, q3⟩⟩ := hat 0 hRp
              have hL5 : R[0].length = L0 := by rw [HL0.out]; simp [List.getD, List.getElem?_eq_getElem hRp]
              rw [hL5] at hcu
              rw [Nat.add_zero] at hcu
              have hRi : (0 : Int) < (R.length : Int) := by omega
              clear hat q1 q2 q3 z1 z2 E0 hPS hOw hOn hv1 hv2 hv3 hL5
              obtain ⟨xs, hx1, hx2⟩ := HZ.out.own
              have hxl : xs.length = R.length := by simpa using hx1.1
              obtain ⟨i0, hi0, hz0, hz1, hz2⟩ := info_parts ttinfo
              have Hx1 := Lib.hid hx1
              have Hx2 := Lib.hid hx2
              have Hxl := Lib.hid hxl
              have Hl1 : Hid (R.length + 1 ≤ maxLen) := by unfold Hid maxLen; omega
              have Hl2 : Hid ((R.length + 1) * 24 ≤ 140737488355328) := by unfold Hid; omega
              clear hx1 hx2 hxl
              go_wp2_with (at_builtin; refine app_one rfl (.tmp 55) (.tmp 57) 22 rfl (w.heap.size + 1) 31 i0 _ 24 Tryd.underlying22 hi0 hz0 hz1 hz2 rfl _ R.length xs rfl (by exact Hx1.out) (.slice av r.length cv) 1 rfl rfl Hl1.out Hl2.out HSz.out ?_)
              intro v5 w5 h2 h3 h5
              have hb5 := HZ.out.below.grown h3 HZ.out.below.size (fun k hk => by have := (World.ownsRow.lt Hx1.out k hk).1; omega)
              have HS6 : Hid (ParAt w s w5 v5 k1 (R ++ [r])) := by
                refine ⟨?_, TTg.grow (X := Z) HZ.out.own Hx2.out Hxl.out (RdTN.of_rd HOw.out.rd (fun b e e2 => by have q1 := (HOw.out.lt b e).1; have q2 := (World.ownsRow.lt Hx1.out b e2).2; have q3 := HZlt.out b e2; omega)) (fun b e => by have q1 := (HOw.out.lt b e).1; have := hA.out.ps.lt; omega) h2 h3 h5, hb5⟩
                exact Whole.only HZ.out.ps (Only.of_grown (S := fun b => b ≠ w.heap.size) h3 (fun b e e2 => by have := (World.ownsRow.lt Hx1.out b e).1; omega)) (fun e => e rfl)
              clear h2 h3 h5 hb5
              go_wp2_with fail
              go_roundw
              case rel => exact ⟨k1, R ++ [r], f, HS6.out, hk1s, HN.out, by have := Hfu.out; have := Hlen.out; have := Hkk.out; omega, by have := Hkk.out; rw [List.length_append]; simp; omega⟩
              case measure => rw [HPos.out, HS6.out.ps.pos]; have := Hkk.out; omega
            · have e5 : ((r.length : Int) != (L0 : Int)) = true := bne_iff_ne.mpr (by omega)
              have hR : P = ([], k, 3) := by rw [← HRe.out, parseE_form Hki.out hmany HWe.out ⟨hRp, by rw [← hL0]; exact hne⟩]
              subst hR
              clear hR0 hmany hL0 hne
              go_wp2_with fail
              refine HWk.out.mono ?_
              rintro e' Z ⟨v, rfl, hPS, hOw, hOn⟩
              have HZ : Hid (ParAt w s Z (.slice a R.length c) k1 R) := ⟨hPS, hA.out.own.far hOn, hA.out.below.trans (hOn.below (fun b hb e => by omega) hA.out.below.size)⟩
              have HOw := Lib.hid hOw
              have HOn := Lib.hid hOn
              obtain ⟨av, cv, rfl, hv1, hv2, hv3⟩ := hOw.rd
              obtain ⟨a0, c0', E0, z1, z2, hat⟩ := HZ.out.own.tt.rd.at
              obtain ⟨rfl, _, rfl⟩ : a = a0 ∧ True ∧ c = c0' := by injection E0 with h1 h2 h3; exact ⟨h1, trivial, h3⟩
              obtain ⟨b0, o0, u0, rfl, hb0, hcu, ⟨a5, c5, rfl, q1, q2, q3⟩⟩ := hat 0 hRp
              have hL5 : R[0].length = L0 := by rw [HL0.out]; simp [List.getD, List.getElem?_eq_getElem hRp]
              rw [hL5] at hcu
              rw [Nat.add_zero] at hcu
              have hRi : (0 : Int) < (R.length : Int) := by omega
              clear hat q1 q2 q3 z1 z2 E0 hPS hOw hOn hv1 hv2 hv3 hL5
              go_wp2_with fail
              go_ret3
              exact ⟨_, rfl, (TTg.nil_ (g := w.heap.size)).tt.rd, HZ.out.below⟩
        · have hR : P = ([], k1, e) := by rw [← HRe.out, parseE_err Hki.out hmany HWe.out he]
          subst hR
          have e5 : (e != 0) = true := by simpa using he
          clear hmany he hmore
          go_wp2_with fail
          refine HWk.out.mono ?_
          rintro e' Z ⟨v, rfl, hPS, hOw, hOn⟩
          have HZ : Hid (ParAt w s Z (.slice a R.length c) k1 R) := ⟨hPS, hA.out.own.far hOn, hA.out.below.trans (hOn.below (fun b hb e => by omega) hA.out.below.size)⟩
          have HOw := Lib.hid hOw
          have HOn := Lib.hid hOn
          have c2 : Z.cell? ⟨w.heap.size, 1, none⟩ = some (.int .i64 (k1 : Int)) := HZ.out.ps.cell 1
          clear hPS hOw hOn
          go_wp2_with fail
          go_quiet (fail)
          go_wp2_with fail
          go_ret3
          exact ⟨_, rfl, (TTg.nil_ (g := w.heap.size)).tt.rd, below_drawnT HZ.out.below _⟩
    · obtain rfl : k = s.size := by omega
      have d1 : decide ((s.size : Int) < (s.size : Int)) = false := decide_eq_false (by omega)
      have hR : P = (R, s.size, 0) := by rw [← hB.out.1, parseE_end (by have := Hlen.out; omega), Hlen.out]
      subst hR
      clear hB
      go_wp2_with fail
      go_ret3
      exact ⟨_, rfl, hA.out.own.tt.rd, hA.out.below⟩
end Go.Proofs.YtceegpkgifflcaaDoor
