/- The statement BitioWrites: the law's walk. -/
import Derived.Test.YtgglhpoofldkpaaBitWr
import Derived.Test.YtgglhpoofldkpaaBitRef
import Derived.Deep.RegionHeld3
import Derived.Deep.DeepCutAuto
namespace Go.Proofs.Ytgglhpoofldkpaa
open Go.RowKit Bit
set_option linter.unusedVariables false
set_option maxRecDepth 100000

/-- The writer at g holds n bits of N; vb reads LB; both are the call's own and lie apart. -/
structure Hs (w W : World) (g : Nat) (v vb : Value) (N n : Nat) (LB : List Bool) : Prop where
  wr : Wr W g v N n
  row : W.ownsRow w.heap.size 4 1 vb LB.length (bools LB)
  own : ∀ b, v.ownBlock = some b → w.heap.size ≤ b
  apart : vb.ownBlock ≠ some g
  apart2 : ∀ b, vb.ownBlock = some b → v.ownBlock ≠ some b
  gle : w.heap.size ≤ g
  bel : Below w.heap.size w W

section
variable {w W X : World} {g : Nat} {v vb : Value} {N n : Nat} {LB : List Bool}
theorem Wr.only {S : Nat → Prop} (h : Wr W g v N n) (ho : Only S W X) (hg : ¬ S g) (hv : ∀ b, v.ownBlock = some b → ¬ S b) : Wr X g v N n :=
  ⟨h.1.only ho hg, own_only h.2.1 ho hv, h.2.2.1, h.2.2.2⟩
theorem Hs.below (h : Hs w W g v vb N n LB) (hb : Below W.heap.size W X) : Hs w X g v vb N n LB := by
  have ho : Only (fun _ => False) W X := Only.of_below hb _
  exact ⟨h.wr.only ho (fun h => h) (fun _ _ h => h), own_only h.row ho (fun _ _ h => h), h.own, h.apart, h.apart2, h.gle, keepBelow hb h.bel⟩
theorem Hs.alloc (h : Hs w W g v vb N n LB) (o : Obj) : Hs w (W.alloc o) g v vb N n LB := h.below ((Below.refl _ _).alloc (Nat.le_refl _) o)
theorem Hs.grew {N' n' : Nat} (h : Hs w W g v vb N n LB) (hg : Grew W g v N' n' X) : ∃ v', Hs w X g v' vb N' n' LB := by
  obtain ⟨v', hw', ho, hat⟩ := hg
  refine ⟨v', hw', own_only h.row ho ?_, own_le h.own hat h.bel.size, h.apart, ?_, h.gle, ho.belowOf h.bel (touch_le h.gle h.own) h.bel.size⟩
  · rintro b hb (rfl | e)
    · exact h.apart hb
    · exact h.apart2 b hb e
  · intro b hb e
    have hlt := (h.row.lt b hb).2
    rcases hat with e2 | ⟨k, e2, hk⟩
    · exact h.apart2 b hb (by rw [← e2]; exact e)
    · rw [e2] at e; injection e with e; omega
theorem Hs.onlyg {n' : Nat} (h : Hs w W g v vb N n LB) (hw : Wr X g v N n') (ho : Only (fun k => k = g) W X) : Hs w X g v vb N n' LB :=
  ⟨hw, own_only h.row ho (fun b hb e => h.apart (by rw [hb, e])), h.own, h.apart, h.apart2, h.gle, ho.belowOf h.bel (fun b e => by rw [e]; exact h.gle) h.bel.size⟩
theorem Hs.row' {vb' : Value} {LB' : List Bool} (h : Hs w W g v vb N n LB) (hr : X.ownsRow w.heap.size 4 1 vb' LB'.length (bools LB')) (hg : W.grownBy X vb.ownBlock) (hat : vb'.ownBlock = vb.ownBlock ∨ vb'.ownBlock = some W.heap.size) : Hs w X g v vb' N n LB' := by
  have ho : Only (fun k => vb.ownBlock = some k) W X := Only.of_grown hg (fun _ e => e)
  have hgl : g < W.heap.size := h.wr.1.lt
  refine ⟨h.wr.only ho h.apart (fun b hb e => h.apart2 b e hb), hr, h.own, ?_, ?_, h.gle, ho.belowOf h.bel (fun b e => (h.row.lt b e).1) h.bel.size⟩
  · rcases hat with e | e
    · rw [e]; exact h.apart
    · rw [e]; intro e2; injection e2 with e2; omega
  · intro b hb e
    rcases hat with e2 | e2
    · exact h.apart2 b (by rw [← e2]; exact hb) e
    · rw [e2] at hb
      injection hb with hb
      have := (h.wr.2.1.lt b e).2
      omega
end

/-- The same, and a copy of the call at block bx. -/
structure Hb (w W : World) (g bx : Nat) (cs : Array Value) (v vb : Value) (N n : Nat) (LB : List Bool) : Prop where
  hs : Hs w W g v vb N n LB
  box : Whole W bx 31 cs
  b1 : bx ≠ g
  b2 : v.ownBlock ≠ some bx
  b3 : vb.ownBlock ≠ some bx
section
variable {w W X : World} {g bx : Nat} {cs : Array Value} {v vb : Value} {N n : Nat} {LB : List Bool}
theorem Hb.start (h : Hs w W g v vb N n LB) (cs : Array Value) : Hb w (W.alloc (.cells cs 31)) g W.heap.size cs v vb N n LB :=
  ⟨h.alloc _, Whole.new _ _ _, fun e => by have := h.wr.1.lt; omega, fun e => by have := (h.wr.2.1.lt _ e).2; omega, fun e => by have := (h.row.lt _ e).2; omega⟩
theorem Hb.below (h : Hb w W g bx cs v vb N n LB) (hb : Below W.heap.size W X) : Hb w X g bx cs v vb N n LB := ⟨h.hs.below hb, h.box.below hb h.box.lt, h.b1, h.b2, h.b3⟩
theorem Hb.grew {N' n' : Nat} (h : Hb w W g bx cs v vb N n LB) (hg : Grew W g v N' n' X) : ∃ v', Hb w X g bx cs v' vb N' n' LB := by
  obtain ⟨v', hw', ho, hat⟩ := hg
  have hlt := h.box.lt
  have hbox : Whole X bx 31 cs := h.box.only ho (by
    rintro (e | e)
    · exact h.b1 e
    · exact h.b2 e)
  have hne : v'.ownBlock ≠ some bx := by
    intro e
    rcases hat with e2 | ⟨k, e2, hk⟩
    · exact h.b2 (by rw [← e2]; exact e)
    · rw [e2] at e; injection e with e; omega
  have hs : Hs w X g v' vb N' n' LB := by
    refine ⟨hw', own_only h.hs.row ho ?_, own_le h.hs.own hat h.hs.bel.size, h.hs.apart, ?_, h.hs.gle, ho.belowOf h.hs.bel (touch_le h.hs.gle h.hs.own) h.hs.bel.size⟩
    · rintro b hb (rfl | e)
      · exact h.hs.apart hb
      · exact h.hs.apart2 b hb e
    · intro b hb e
      have hlt := (h.hs.row.lt b hb).2
      rcases hat with e2 | ⟨k, e2, hk⟩
      · exact h.hs.apart2 b hb (by rw [← e2]; exact e)
      · rw [e2] at e; injection e with e; omega
  exact ⟨v', hs, hbox, h.b1, hne, h.b3⟩
end
theorem bools_append (l r : List Bool) : bools (l ++ r) = bools l ++ bools r := by simp [bools]
theorem num_lowA (LB : List Bool) (V m : Nat) : num (LB ++ lowL V m) = num LB + V % 2 ^ m * 2 ^ LB.length := by rw [num_append, num_low]
theorem num_turnA (LB : List Bool) (V m : Nat) : num (LB ++ (lowL V m).reverse) = num LB + turned V m m * 2 ^ LB.length := by rw [turn_low, num_append, num_turn]
theorem num_zeros (k : Nat) : num (List.replicate k false) = 0 := by
  induction k with
  | zero => rfl
  | succ k ih => simp [List.replicate_succ, num, ih]
theorem num_zerosA (LB : List Bool) (k : Nat) : num (LB ++ List.replicate k false) = num LB := by rw [num_append, num_zeros]; simp

theorem slice_of_row {W : World} {base : Nat} {t : TypeId} {v : Value} {n : Nat} {xs : List Value} (h : W.ownsRow base t 1 v n xs) : ∃ a c, v = .slice a n c ∧ Vals W W.heap.size 1 a n xs := by
  obtain ⟨a, c, e, _, _, hV⟩ := Vals.of_own h
  exact ⟨a, c, e, hV⟩

set_option maxHeartbeats 200000000 in
theorem bitioWrites_walk (a : Option Addr) (L c : Nat) (f : Nat → Int × Nat × Int) (w : World) (hA : Acts w w.heap.size a L f) (hLc : L ≤ c) (hL : L ≤ 200) :
    Calls Try.prog 4 #[.slice a L c] w fun e w' => e = .returned (.bool true) ∧ Below w.heap.size w w' := by
  have HA := Lib.hid hA
  have hconv : Hid (∀ (W : World) (A : Option Addr) (C : Nat) (l : List Nat), Nums .u8 W W.heap.size A l → (∀ x ∈ l, x < 256) → (convert 22 9 (.slice A l.length C)).run Try.prog W = .ok (.string (strOf l)) W) :=
    fun W A C l h hl => str_of_nums (P := Try.prog) W W.heap.size 22 9 5 A C l Try.underlying22 Try.underlying5 Try.underlying9 h hl
  obtain ⟨i0, hi0, hz0, hz1, hz2⟩ := info_parts boolinfo
  clear hA
  go_enter Try.func4, Try.ntmps4
  go_wp2_with fail
  refine (newWriter_any _).mono ?_
  rintro e w1 ⟨rfl, hW0, hb0⟩
  obtain ⟨g, hg⟩ : ∃ g, g = w.heap.size := ⟨_, rfl⟩
  have Hh : Hid (Hs w w1 g (.slice none 0 0) (.slice none 0 0) (num []) ([] : List Bool).length []) := by
    subst hg
    exact ⟨hW0, ⟨rfl, .inl ⟨rfl, rfl⟩⟩, (fun b e => by cases e), (fun e => by cases e), (fun b e => by cases e), Nat.le_refl _, hb0⟩
  rw [← hg]
  clear hW0 hb0 hg
  go_wp2_with fail
  go_loopw [4, 5] (fun bs i W => ∃ (k : Nat) (v : Value) (LB : List Bool), k ≤ L ∧ i = .int .i64 (k : Int) ∧ LB.length ≤ 40 * k ∧ Hid (Hs w W g v bs (num LB) LB.length LB)) (fun _ i _ => L - (intOf i).toNat)
  case atStart => exact ⟨0, _, [], Nat.zero_le _, rfl, Nat.le_refl _, Hh.out⟩
  case round =>
    obtain ⟨k, v, LB, hk, rfl, hlen, hh⟩ := hrel
    clear Hh
    by_cases hlt : k < L
    · obtain ⟨b, off, rfl, hbl, c0, c1, c2, hV, hc1, hc2⟩ := HA.out k hlt
      replace c0 := (hh.out.bel.cell (p := ⟨b, off + k * 3, none⟩) hbl).trans c0
      replace c1 := (hh.out.bel.cell (p := ⟨b, off + k * 3 + 1, none⟩) hbl).trans c1
      replace c2 := (hh.out.bel.cell (p := ⟨b, off + k * 3 + 2, none⟩) hbl).trans c2
      have hk0 : (0 : Int) ≤ (k : Int) := by omega
      have hk1 : (k : Int) < (L : Int) := by omega
      generalize (f k).1 = dd at *
      generalize (f k).2.2 = cc at *
      generalize (f k).2.1 = V at *
      obtain ⟨wb, hwb⟩ : ∃ wb, wb = wr.alloc (.cells #[.int .i64 dd, .int .u32 (V : Int), .int .i64 cc] 31) := ⟨_, rfl⟩
      obtain ⟨bx, hbx⟩ : ∃ bx, bx = wr.heap.size := ⟨_, rfl⟩
      have HB : Hid (Hb w wb g bx #[.int .i64 dd, .int .u32 (V : Int), .int .i64 cc] v u4 (num LB) LB.length LB) := by rw [hwb, hbx]; exact Hb.start hh.out _
      clear hbl hh
      by_cases h2 : dd = 2
      · subst h2
        obtain ⟨q, hq⟩ : ∃ q, q = (8 - LB.length % 8) % 8 := ⟨_, rfl⟩
        have hq8 : q < 8 := by omega
        have hqi : ((8 : Int) - (LB.length : Int) % 8) % 8 = (q : Int) := by omega
        have hqi2 : -((LB.length : Int) % 8) % 8 = (q : Int) := by omega
        have Hq := Lib.hid hq
        have hcase : (cc < 0 ∧ cc < 0 ∧ cc < 0 ∧ cc < 0) ∨ (0 ≤ cc ∧ ¬ cc ≤ 32 ∧ decide (cc ≤ 32) = false ∧ decide ((0 : Int) ≤ cc) = true) ∨ (0 ≤ cc ∧ cc ≤ 32 ∧ decide (cc ≤ 32) = true ∧ decide ((0 : Int) ≤ cc) = true) := by
          rcases Int.lt_or_le cc 0 with h | h
          · exact .inl ⟨h, h, h, h⟩
          · by_cases h32 : cc ≤ 32
            · exact .inr (.inr ⟨h, h32, by simpa using h32, by simpa using h⟩)
            · exact .inr (.inl ⟨h, h32, by simpa using h32, by simpa using h⟩)
        clear hq
        have HD : Hid (Hs w wb.drew g v u4 (num LB) LB.length LB) := HB.out.hs.below (Below.refl _ _).drew
        have hrow0 : (wr.alloc (.cells #[.int .i64 2, .int .u32 (V : Int), .int .i64 cc] 31)).drew.ownsRow w.heap.size 4 1 u4 LB.length (bools LB) := by rw [← hwb]; exact HD.out.row
        have hsz0 : w.heap.size ≤ (wr.alloc (.cells #[.int .i64 2, .int .u32 (V : Int), .int .i64 cc] 31)).drew.heap.size := by rw [← hwb]; exact HD.out.bel.size
        obtain ⟨ab0, cb0, hvb0, _⟩ := slice_of_row hrow0
        subst hvb0
        have Hrow0 := Lib.hid hrow0
        have Hsz0 := Lib.hid hsz0
        clear hrow0 hsz0
        rcases hcase with ⟨hc3, _, _, _⟩ | ⟨hc3, hc4, hc5, hc6⟩ | ⟨hc3, hc4, hc5, hc6⟩
        all_goals
          go_wp2_with (at_builtin; refine app_zeros _ rfl (.tmp 64) (.tmp 65) 27 3 rfl w.heap.size 4 i0 (.bool false) Try.underlying27 Try.underlying3 hi0 hz0 hz1 hz2 rfl rfl (.slice ab0 LB.length cb0) LB.length (bools LB) (by rfl) Hrow0.out q (by first | rfl | (show Value.int _ _ = _; go_num)) (by omega) (by omega) Hsz0.out ?_)
          intro v' X3 h2 h3 h5
          replace h3 : wb.drew.grownBy X3 (Value.slice ab0 LB.length cb0).ownBlock := by rw [hwb]; exact ⟨h3.os, h3.tape, h3.output, h3.size, h3.block⟩
          have hs5 : wb.drew.heap.size = wr.heap.size + 1 := by rw [hwb]; simp
          rw [← hs5] at h5
          clear hs5
          obtain ⟨LB2, hLB2⟩ : ∃ LB2, LB2 = LB ++ List.replicate q false := ⟨_, rfl⟩
          have hl2 : LB2.length = LB.length + q := by rw [hLB2]; simp
          have hr2 : X3.ownsRow w.heap.size 4 1 v' LB2.length (bools LB2) := by rw [hl2, hLB2, bools_append]; simpa [bools] using h2
          have H3 := HD.out.row' hr2 h3 h5
          have hwa := Lib.hid (walign_any g (num LB) LB.length q v X3 H3.wr (by omega) Hq.out)
          have HH3 := Lib.hid H3
          have hr3 := Lib.hid hr2
          clear h2 h3 h5 hr2 H3 hwb hbx c0 c1 c2 hc1 hc2
          go_wp2_with fail
          refine hwa.out.mono ?_
          rintro e X4 ⟨rfl, hw4, ho4⟩
          have HX : Hid (Hs w X4 g v v' (num LB2) LB2.length LB2) := by
            have := HH3.out.onlyg hw4 ho4
            rw [← num_zerosA LB q, ← hLB2, ← hl2] at this
            exact this
          have hlen2 : LB2.length ≤ 40 * (k + 1) := by omega
          clear hw4 ho4 hLB2 hl2 hwa
          have hrow := HX.out.row
          obtain ⟨ab, cb, hvb, hVb⟩ := slice_of_row hrow
          have hle := fun W => wlen_any g v ((LB2.length : Nat) : Int) W
          have Hlenb := Lib.hid (hle X4.drew HX.out.wr.1)
          have Hby := Lib.hid (wbytes2_any g (num LB2) LB2.length v X4.drew HX.out.wr (by omega))
          have HVb := Lib.hid hVb
          have hl8 : LB2.length ≤ 8040 := by omega
          have Hl2 := Lib.hid hlen2
          subst hvb
          clear hrow hVb hle hlen2
          go_upto_region 26 with (fail)
          go_region_with (first
              | (go_at_call 13; refine (code_any _ _).mono ?_; rintro e w' ⟨rfl, rfl⟩)
              | (go_at_call 22; ((with_reducible refine Hlenb.out.mono ?_)); rintro e w' ⟨rfl, rfl⟩)
              | (go_at_call 23; ((with_reducible refine Hby.out.mono ?_)); rintro e Y1 ⟨a5, c5, rfl, hn5, hz5, hb5⟩; (have hs1 := hconv.out Y1 a5 c5 _ hn5 (bytesTo_lt _ _)); (have Hn5 := Lib.hid hn5); (have Hb5 := Lib.hid hb5); (have HR := Lib.hid (refBytes_any LB2 ab cb Y1 ((HVb.out.keep (fun p hp => (keepBelow hb5 (Below.refl _ _).drew).cell hp)).more hb5.size) (by omega))); clear hn5 hz5 hb5)
              | (go_at_call 24; ((with_reducible refine HR.out.mono ?_)); rintro e Y2 ⟨vr, rfl, hr5, hb6⟩; obtain ⟨a6, c6, hvr, hV6⟩ := slice_of_row hr5; subst hvr; (have hs3 := hconv.out Y2 a5 c5 _ ((Hn5.out.below hb6).more hb6.size) (bytesTo_lt _ _)); (have hs2 := hconv.out Y2 a6 c6 _ (Vals.to_nums hV6) (bytesTo_lt _ _)); (have Hb6 := Lib.hid hb6); clear hr5 hV6 hb6))
          all_goals
            have HXf := Lib.hid ((HX.out.below (Below.refl _ _).drew).below (keepBelow Hb6.out Hb5.out))
            go_wp2_with fail
            go_roundw
            case rel => exact ⟨k + 1, v, LB2, hlt, by go_num, Hl2.out, HXf.out⟩
            case measure => simp [intOf] <;> omega
      · have hd2 : (dd == 2) = false := by simpa using h2
        clear h2
        by_cases h1 : dd = 1
        · subst h1
          by_cases hneg : cc < 0
          · have hbb := Lib.hid (wturned_bad g V cc wb (.inl hneg))
            obtain ⟨LB2, rfl⟩ : ∃ LB2, LB2 = LB := ⟨_, rfl⟩
            have HX : Hid (Hs w wb g v u4 (num LB2) LB2.length LB2) := HB.out.hs
            have hlen2 : LB2.length ≤ 40 * (k + 1) := by omega
            go_wp2_with fail
            rw [← hwb]
            refine hbb.out.mono ?_
            rintro e X1 ⟨rfl, rfl⟩
            clear hwb hbx c0 c1 c2 hc1 hc2 HB

            have hrow := HX.out.row
            obtain ⟨ab, cb, hvb, hVb⟩ := slice_of_row hrow
            have hle := fun W => wlen_any g v ((LB2.length : Nat) : Int) W
            have Hlenb := Lib.hid (hle wb.drew HX.out.wr.1)
            have Hby := Lib.hid (wbytes2_any g (num LB2) LB2.length v wb.drew HX.out.wr (by omega))
            have HVb := Lib.hid hVb
            have hl8 : LB2.length ≤ 8040 := by omega
            have Hl2 := Lib.hid hlen2
            subst hvb
            clear hrow hVb hle hlen2
            go_upto_region 26 with (fail)
            go_region_with (first
                | (go_at_call 13; refine (code_any _ _).mono ?_; rintro e w' ⟨rfl, rfl⟩)
                | (go_at_call 22; ((with_reducible refine Hlenb.out.mono ?_)); rintro e w' ⟨rfl, rfl⟩)
                | (go_at_call 23; ((with_reducible refine Hby.out.mono ?_)); rintro e Y1 ⟨a5, c5, rfl, hn5, hz5, hb5⟩; (have hs1 := hconv.out Y1 a5 c5 _ hn5 (bytesTo_lt _ _)); (have Hn5 := Lib.hid hn5); (have Hb5 := Lib.hid hb5); (have HR := Lib.hid (refBytes_any LB2 ab cb Y1 ((HVb.out.keep (fun p hp => (keepBelow hb5 (Below.refl _ _).drew).cell hp)).more hb5.size) (by omega))); clear hn5 hz5 hb5)
                | (go_at_call 24; ((with_reducible refine HR.out.mono ?_)); rintro e Y2 ⟨vr, rfl, hr5, hb6⟩; obtain ⟨a6, c6, hvr, hV6⟩ := slice_of_row hr5; subst hvr; (have hs3 := hconv.out Y2 a5 c5 _ ((Hn5.out.below hb6).more hb6.size) (bytesTo_lt _ _)); (have hs2 := hconv.out Y2 a6 c6 _ (Vals.to_nums hV6) (bytesTo_lt _ _)); (have Hb6 := Lib.hid hb6); clear hr5 hV6 hb6))
            all_goals
              have HXf := Lib.hid ((HX.out.below (Below.refl _ _).drew).below (keepBelow Hb6.out Hb5.out))
              go_wp2_with fail
              go_roundw
              case rel => exact ⟨k + 1, v, LB2, hlt, by go_num, Hl2.out, HXf.out⟩
              case measure => simp [intOf] <;> omega
          · by_cases hbig : 32 < cc
            · have hbb := Lib.hid (wturned_bad g V cc wb (.inr hbig))
              have h0 : (0 : Int) ≤ cc := by omega
              have h32 : ¬ cc ≤ 32 := by omega
              have h32d : decide (cc ≤ 32) = false := by simpa using h32
              have h0d : decide ((0 : Int) ≤ cc) = true := by simpa using h0
              obtain ⟨LB2, rfl⟩ : ∃ LB2, LB2 = LB := ⟨_, rfl⟩
              have HX : Hid (Hs w wb g v u4 (num LB2) LB2.length LB2) := HB.out.hs
              have hlen2 : LB2.length ≤ 40 * (k + 1) := by omega
              go_wp2_with fail
              rw [← hwb]
              refine hbb.out.mono ?_
              rintro e X1 ⟨rfl, rfl⟩
              clear hwb hbx c0 c1 c2 hc1 hc2 HB

              have hrow := HX.out.row
              obtain ⟨ab, cb, hvb, hVb⟩ := slice_of_row hrow
              have hle := fun W => wlen_any g v ((LB2.length : Nat) : Int) W
              have Hlenb := Lib.hid (hle wb.drew HX.out.wr.1)
              have Hby := Lib.hid (wbytes2_any g (num LB2) LB2.length v wb.drew HX.out.wr (by omega))
              have HVb := Lib.hid hVb
              have hl8 : LB2.length ≤ 8040 := by omega
              have Hl2 := Lib.hid hlen2
              subst hvb
              clear hrow hVb hle hlen2
              go_upto_region 26 with (fail)
              go_region_with (first
                  | (go_at_call 13; refine (code_any _ _).mono ?_; rintro e w' ⟨rfl, rfl⟩)
                  | (go_at_call 22; ((with_reducible refine Hlenb.out.mono ?_)); rintro e w' ⟨rfl, rfl⟩)
                  | (go_at_call 23; ((with_reducible refine Hby.out.mono ?_)); rintro e Y1 ⟨a5, c5, rfl, hn5, hz5, hb5⟩; (have hs1 := hconv.out Y1 a5 c5 _ hn5 (bytesTo_lt _ _)); (have Hn5 := Lib.hid hn5); (have Hb5 := Lib.hid hb5); (have HR := Lib.hid (refBytes_any LB2 ab cb Y1 ((HVb.out.keep (fun p hp => (keepBelow hb5 (Below.refl _ _).drew).cell hp)).more hb5.size) (by omega))); clear hn5 hz5 hb5)
                  | (go_at_call 24; ((with_reducible refine HR.out.mono ?_)); rintro e Y2 ⟨vr, rfl, hr5, hb6⟩; obtain ⟨a6, c6, hvr, hV6⟩ := slice_of_row hr5; subst hvr; (have hs3 := hconv.out Y2 a5 c5 _ ((Hn5.out.below hb6).more hb6.size) (bytesTo_lt _ _)); (have hs2 := hconv.out Y2 a6 c6 _ (Vals.to_nums hV6) (bytesTo_lt _ _)); (have Hb6 := Lib.hid hb6); clear hr5 hV6 hb6))
              all_goals
                have HXf := Lib.hid ((HX.out.below (Below.refl _ _).drew).below (keepBelow Hb6.out Hb5.out))
                go_wp2_with fail
                go_roundw
                case rel => exact ⟨k + 1, v, LB2, hlt, by go_num, Hl2.out, HXf.out⟩
                case measure => simp [intOf] <;> omega
            · obtain ⟨m, hm⟩ : ∃ m : Nat, cc = (m : Int) := ⟨cc.toNat, by omega⟩
              subst hm
              have hm32 : m ≤ 32 := by omega
              have hwo := Lib.hid (wturned_ok g (num LB) LB.length V m v wb HB.out.hs.wr (by omega) hV hm32)
              have hlo := Lib.hid fun X => low_any V m X hV hm32
              have hmi : (m : Int) ≤ 32 := by omega
              have hm0 : (0 : Int) ≤ (m : Int) := by omega
              clear hneg hbig hc1 hc2
              go_wp2_with fail
              rw [← hwb]
              refine hwo.out.mono ?_
              rintro e X1 ⟨rfl, hgr⟩
              obtain ⟨v1, hx1⟩ := HB.out.grew hgr
              have H1 := Lib.hid hx1
              rw [← hbx]
              have e1 := hx1.box.cell 1
              have e2 := hx1.box.cell 2
              simp only [List.getElem?_toArray, List.getElem?_cons_zero, List.getElem?_cons_succ] at e1 e2
              clear hgr hx1 hwb hbx c0 c1 c2
              go_wp2_with fail
              refine (hlo.out _).mono ?_
              rintro e X2 ⟨vl, rfl, hrl, hbl⟩
              obtain ⟨al, cl, hvl, hVl⟩ := slice_of_row hrl
              subst hvl
              have H2 := Lib.hid (H1.out.below hbl)
              have htn := turn_any (lowL V m) al cl X2 (by rw [lowL_length]; exact hVl) (by rw [lowL_length]; omega)
              rw [lowL_length] at htn
              have Htn := Lib.hid htn
              clear hrl hbl hVl htn e1 e2
              go_wp2_with fail
              refine Htn.out.mono ?_
              rintro e X2b ⟨vt, rfl, hrt, hbt⟩
              obtain ⟨at_, ct, hvt, hVt⟩ := slice_of_row hrt
              subst hvt
              have H2b := Lib.hid (H2.out.below hbt)
              have hone : Hid (∀ u ∈ bools (lowL V m).reverse, u.oneCell' = true) := fun u hu => by
                simp only [bools, List.mem_map] at hu
                obtain ⟨q, _, rfl⟩ := hu
                rfl
              have HVt := Lib.hid hVt
              have Hq1 : Hid (LB.length + m ≤ maxLen) := by unfold Hid maxLen; omega
              have Hq2 : Hid ((LB.length + m) * 1 ≤ 140737488355328) := by unfold Hid; omega
              clear hrt hbt hVt
              go_wp2_with (at_builtin; refine app_vals rfl (.tmp 80) (.tmp 86) 27 rfl w.heap.size 4 i0 _ 1 1 Try.underlying27 hi0 hz0 hz1 hz2 rfl (by omega) u4 LB.length (bools LB) rfl H2b.out.hs.row X2b.heap.size at_ m ct (bools (lowL V m).reverse) rfl HVt.out hone.out Hq1.out Hq2.out H2b.out.hs.bel.size ?_)
              intro v' X3 h2 h3 h5
              obtain ⟨LB2, hLB2⟩ : ∃ LB2, LB2 = LB ++ (lowL V m).reverse := ⟨_, rfl⟩
              have hl2 : LB2.length = LB.length + m := by rw [hLB2]; simp [lowL_length]
              have HX : Hid (Hs w X3 g v1 v' (num LB2) LB2.length LB2) := by
                rw [← bools_append, ← hLB2, ← hl2] at h2
                have := H2b.out.hs.row' h2 h3 h5
                rw [← num_turnA, ← hLB2, ← hl2] at this
                exact this
              have hlen2 : LB2.length ≤ 40 * (k + 1) := by omega
              clear h2 h3 h5 hLB2 hl2
              have hrow := HX.out.row
              obtain ⟨ab, cb, hvb, hVb⟩ := slice_of_row hrow
              have hle := fun W => wlen_any g v1 ((LB2.length : Nat) : Int) W
              have Hlenb := Lib.hid (hle X3.drew HX.out.wr.1)
              have Hby := Lib.hid (wbytes2_any g (num LB2) LB2.length v1 X3.drew HX.out.wr (by omega))
              have HVb := Lib.hid hVb
              have hl8 : LB2.length ≤ 8040 := by omega
              have Hl2 := Lib.hid hlen2
              subst hvb
              clear hrow hVb hle hlen2
              go_upto_region 26 with (fail)
              go_region_with (first
                  | (go_at_call 13; refine (code_any _ _).mono ?_; rintro e w' ⟨rfl, rfl⟩)
                  | (go_at_call 22; ((with_reducible refine Hlenb.out.mono ?_)); rintro e w' ⟨rfl, rfl⟩)
                  | (go_at_call 23; ((with_reducible refine Hby.out.mono ?_)); rintro e Y1 ⟨a5, c5, rfl, hn5, hz5, hb5⟩; (have hs1 := hconv.out Y1 a5 c5 _ hn5 (bytesTo_lt _ _)); (have Hn5 := Lib.hid hn5); (have Hb5 := Lib.hid hb5); (have HR := Lib.hid (refBytes_any LB2 ab cb Y1 ((HVb.out.keep (fun p hp => (keepBelow hb5 (Below.refl _ _).drew).cell hp)).more hb5.size) (by omega))); clear hn5 hz5 hb5)
                  | (go_at_call 24; ((with_reducible refine HR.out.mono ?_)); rintro e Y2 ⟨vr, rfl, hr5, hb6⟩; obtain ⟨a6, c6, hvr, hV6⟩ := slice_of_row hr5; subst hvr; (have hs3 := hconv.out Y2 a5 c5 _ ((Hn5.out.below hb6).more hb6.size) (bytesTo_lt _ _)); (have hs2 := hconv.out Y2 a6 c6 _ (Vals.to_nums hV6) (bytesTo_lt _ _)); (have Hb6 := Lib.hid hb6); clear hr5 hV6 hb6))
              all_goals
                have HXf := Lib.hid ((HX.out.below (Below.refl _ _).drew).below (keepBelow Hb6.out Hb5.out))
                go_wp2_with fail
                go_roundw
                case rel => exact ⟨k + 1, v1, LB2, hlt, by go_num, Hl2.out, HXf.out⟩
                case measure => simp [intOf] <;> omega
        · have hd1 : (dd == 1) = false := by simpa using h1
          clear h1
          by_cases hbad : cc < 0 ∨ 32 < cc
          · have hbb := Lib.hid (wbits_bad g V cc wb hbad)
            by_cases hneg : cc < 0
            · clear hbad
              obtain ⟨LB2, rfl⟩ : ∃ LB2, LB2 = LB := ⟨_, rfl⟩
              have HX : Hid (Hs w wb g v u4 (num LB2) LB2.length LB2) := HB.out.hs
              have hlen2 : LB2.length ≤ 40 * (k + 1) := by omega
              go_wp2_with fail
              rw [← hwb]
              refine hbb.out.mono ?_
              rintro e X1 ⟨rfl, rfl⟩
              clear hwb hbx c0 c1 c2 hc1 hc2 HB

              have hrow := HX.out.row
              obtain ⟨ab, cb, hvb, hVb⟩ := slice_of_row hrow
              have hle := fun W => wlen_any g v ((LB2.length : Nat) : Int) W
              have Hlenb := Lib.hid (hle wb.drew HX.out.wr.1)
              have Hby := Lib.hid (wbytes2_any g (num LB2) LB2.length v wb.drew HX.out.wr (by omega))
              have HVb := Lib.hid hVb
              have hl8 : LB2.length ≤ 8040 := by omega
              have Hl2 := Lib.hid hlen2
              subst hvb
              clear hrow hVb hle hlen2
              go_upto_region 26 with (fail)
              go_region_with (first
                  | (go_at_call 13; refine (code_any _ _).mono ?_; rintro e w' ⟨rfl, rfl⟩)
                  | (go_at_call 22; ((with_reducible refine Hlenb.out.mono ?_)); rintro e w' ⟨rfl, rfl⟩)
                  | (go_at_call 23; ((with_reducible refine Hby.out.mono ?_)); rintro e Y1 ⟨a5, c5, rfl, hn5, hz5, hb5⟩; (have hs1 := hconv.out Y1 a5 c5 _ hn5 (bytesTo_lt _ _)); (have Hn5 := Lib.hid hn5); (have Hb5 := Lib.hid hb5); (have HR := Lib.hid (refBytes_any LB2 ab cb Y1 ((HVb.out.keep (fun p hp => (keepBelow hb5 (Below.refl _ _).drew).cell hp)).more hb5.size) (by omega))); clear hn5 hz5 hb5)
                  | (go_at_call 24; ((with_reducible refine HR.out.mono ?_)); rintro e Y2 ⟨vr, rfl, hr5, hb6⟩; obtain ⟨a6, c6, hvr, hV6⟩ := slice_of_row hr5; subst hvr; (have hs3 := hconv.out Y2 a5 c5 _ ((Hn5.out.below hb6).more hb6.size) (bytesTo_lt _ _)); (have hs2 := hconv.out Y2 a6 c6 _ (Vals.to_nums hV6) (bytesTo_lt _ _)); (have Hb6 := Lib.hid hb6); clear hr5 hV6 hb6))
              all_goals
                have HXf := Lib.hid ((HX.out.below (Below.refl _ _).drew).below (keepBelow Hb6.out Hb5.out))
                go_wp2_with fail
                go_roundw
                case rel => exact ⟨k + 1, v, LB2, hlt, by go_num, Hl2.out, HXf.out⟩
                case measure => simp [intOf] <;> omega
            · have hbig : 32 < cc := by omega
              clear hbad
              have h0 : (0 : Int) ≤ cc := by omega
              have h32 : ¬ cc ≤ 32 := by omega
              have h32d : decide (cc ≤ 32) = false := by simpa using h32
              have h0d : decide ((0 : Int) ≤ cc) = true := by simpa using h0
              obtain ⟨LB2, rfl⟩ : ∃ LB2, LB2 = LB := ⟨_, rfl⟩
              have HX : Hid (Hs w wb g v u4 (num LB2) LB2.length LB2) := HB.out.hs
              have hlen2 : LB2.length ≤ 40 * (k + 1) := by omega
              go_wp2_with fail
              rw [← hwb]
              refine hbb.out.mono ?_
              rintro e X1 ⟨rfl, rfl⟩
              clear hwb hbx c0 c1 c2 hc1 hc2 HB

              have hrow := HX.out.row
              obtain ⟨ab, cb, hvb, hVb⟩ := slice_of_row hrow
              have hle := fun W => wlen_any g v ((LB2.length : Nat) : Int) W
              have Hlenb := Lib.hid (hle wb.drew HX.out.wr.1)
              have Hby := Lib.hid (wbytes2_any g (num LB2) LB2.length v wb.drew HX.out.wr (by omega))
              have HVb := Lib.hid hVb
              have hl8 : LB2.length ≤ 8040 := by omega
              have Hl2 := Lib.hid hlen2
              subst hvb
              clear hrow hVb hle hlen2
              go_upto_region 26 with (fail)
              go_region_with (first
                  | (go_at_call 13; refine (code_any _ _).mono ?_; rintro e w' ⟨rfl, rfl⟩)
                  | (go_at_call 22; ((with_reducible refine Hlenb.out.mono ?_)); rintro e w' ⟨rfl, rfl⟩)
                  | (go_at_call 23; ((with_reducible refine Hby.out.mono ?_)); rintro e Y1 ⟨a5, c5, rfl, hn5, hz5, hb5⟩; (have hs1 := hconv.out Y1 a5 c5 _ hn5 (bytesTo_lt _ _)); (have Hn5 := Lib.hid hn5); (have Hb5 := Lib.hid hb5); (have HR := Lib.hid (refBytes_any LB2 ab cb Y1 ((HVb.out.keep (fun p hp => (keepBelow hb5 (Below.refl _ _).drew).cell hp)).more hb5.size) (by omega))); clear hn5 hz5 hb5)
                  | (go_at_call 24; ((with_reducible refine HR.out.mono ?_)); rintro e Y2 ⟨vr, rfl, hr5, hb6⟩; obtain ⟨a6, c6, hvr, hV6⟩ := slice_of_row hr5; subst hvr; (have hs3 := hconv.out Y2 a5 c5 _ ((Hn5.out.below hb6).more hb6.size) (bytesTo_lt _ _)); (have hs2 := hconv.out Y2 a6 c6 _ (Vals.to_nums hV6) (bytesTo_lt _ _)); (have Hb6 := Lib.hid hb6); clear hr5 hV6 hb6))
              all_goals
                have HXf := Lib.hid ((HX.out.below (Below.refl _ _).drew).below (keepBelow Hb6.out Hb5.out))
                go_wp2_with fail
                go_roundw
                case rel => exact ⟨k + 1, v, LB2, hlt, by go_num, Hl2.out, HXf.out⟩
                case measure => simp [intOf] <;> omega
          · obtain ⟨m, hm⟩ : ∃ m : Nat, cc = (m : Int) := ⟨cc.toNat, by omega⟩
            subst hm
            have hm32 : m ≤ 32 := by omega
            have hwo := Lib.hid (wbits_ok g (num LB) LB.length V m v wb HB.out.hs.wr (by omega) hV hm32)
            have hlo := Lib.hid fun X => low_any V m X hV hm32
            have hmi : (m : Int) ≤ 32 := by omega
            have hm0 : (0 : Int) ≤ (m : Int) := by omega
            clear hbad hc1 hc2
            go_wp2_with fail
            rw [← hwb]
            refine hwo.out.mono ?_
            rintro e X1 ⟨rfl, hgr⟩
            obtain ⟨v1, hx1⟩ := HB.out.grew hgr
            have H1 := Lib.hid hx1
            rw [← hbx]
            have e1 := hx1.box.cell 1
            have e2 := hx1.box.cell 2
            simp only [List.getElem?_toArray, List.getElem?_cons_zero, List.getElem?_cons_succ] at e1 e2
            clear hgr hx1 hwb hbx c0 c1 c2
            go_wp2_with fail
            refine (hlo.out _).mono ?_
            rintro e X2 ⟨vl, rfl, hrl, hbl⟩
            obtain ⟨al, cl, hvl, hVl⟩ := slice_of_row hrl
            subst hvl
            have H2 := Lib.hid (H1.out.below hbl)
            have hone : Hid (∀ u ∈ bools (lowL V m), u.oneCell' = true) := fun u hu => by
              simp only [bools, List.mem_map] at hu
              obtain ⟨q, _, rfl⟩ := hu
              rfl
            have HVl := Lib.hid hVl
            have Hq1 : Hid (LB.length + m ≤ maxLen) := by unfold Hid maxLen; omega
            have Hq2 : Hid ((LB.length + m) * 1 ≤ 140737488355328) := by unfold Hid; omega
            clear hrl hbl hVl
            go_wp2_with (at_builtin; refine app_vals rfl (.tmp 50) (.tmp 55) 27 rfl w.heap.size 4 i0 _ 1 1 Try.underlying27 hi0 hz0 hz1 hz2 rfl (by omega) u4 LB.length (bools LB) rfl H2.out.hs.row X2.heap.size al m cl (bools (lowL V m)) rfl HVl.out hone.out Hq1.out Hq2.out H2.out.hs.bel.size ?_)
            intro v' X3 h2 h3 h5
            obtain ⟨LB2, hLB2⟩ : ∃ LB2, LB2 = LB ++ lowL V m := ⟨_, rfl⟩
            have hl2 : LB2.length = LB.length + m := by rw [hLB2]; simp [lowL_length]
            have HX : Hid (Hs w X3 g v1 v' (num LB2) LB2.length LB2) := by
              rw [← bools_append, ← hLB2, ← hl2] at h2
              have := H2.out.hs.row' h2 h3 h5
              rw [← num_lowA, ← hLB2, ← hl2] at this
              exact this
            have hlen2 : LB2.length ≤ 40 * (k + 1) := by omega
            clear h2 h3 h5 hLB2 hl2 e1 e2
            have hrow := HX.out.row
            obtain ⟨ab, cb, hvb, hVb⟩ := slice_of_row hrow
            have hle := fun W => wlen_any g v1 ((LB2.length : Nat) : Int) W
            have Hlenb := Lib.hid (hle X3.drew HX.out.wr.1)
            have Hby := Lib.hid (wbytes2_any g (num LB2) LB2.length v1 X3.drew HX.out.wr (by omega))
            have HVb := Lib.hid hVb
            have hl8 : LB2.length ≤ 8040 := by omega
            have Hl2 := Lib.hid hlen2
            subst hvb
            clear hrow hVb hle hlen2
            go_upto_region 26 with (fail)
            go_region_with (first
                | (go_at_call 13; refine (code_any _ _).mono ?_; rintro e w' ⟨rfl, rfl⟩)
                | (go_at_call 22; ((with_reducible refine Hlenb.out.mono ?_)); rintro e w' ⟨rfl, rfl⟩)
                | (go_at_call 23; ((with_reducible refine Hby.out.mono ?_)); rintro e Y1 ⟨a5, c5, rfl, hn5, hz5, hb5⟩; (have hs1 := hconv.out Y1 a5 c5 _ hn5 (bytesTo_lt _ _)); (have Hn5 := Lib.hid hn5); (have Hb5 := Lib.hid hb5); (have HR := Lib.hid (refBytes_any LB2 ab cb Y1 ((HVb.out.keep (fun p hp => (keepBelow hb5 (Below.refl _ _).drew).cell hp)).more hb5.size) (by omega))); clear hn5 hz5 hb5)
                | (go_at_call 24; ((with_reducible refine HR.out.mono ?_)); rintro e Y2 ⟨vr, rfl, hr5, hb6⟩; obtain ⟨a6, c6, hvr, hV6⟩ := slice_of_row hr5; subst hvr; (have hs3 := hconv.out Y2 a5 c5 _ ((Hn5.out.below hb6).more hb6.size) (bytesTo_lt _ _)); (have hs2 := hconv.out Y2 a6 c6 _ (Vals.to_nums hV6) (bytesTo_lt _ _)); (have Hb6 := Lib.hid hb6); clear hr5 hV6 hb6))
            all_goals
              have HXf := Lib.hid ((HX.out.below (Below.refl _ _).drew).below (keepBelow Hb6.out Hb5.out))
              go_wp2_with fail
              go_roundw
              case rel => exact ⟨k + 1, v1, LB2, hlt, by go_num, Hl2.out, HXf.out⟩
              case measure => simp [intOf] <;> omega
    · obtain rfl : k = L := by omega
      have HBw := Lib.hid hh.out.bel
      clear hh
      go_wp2_with fail
      refine (live_any _).mono ?_
      rintro e Z ⟨rfl, hbz⟩
      go_wp2_with fail
      go_ret
      exact ⟨rfl, keepBelow hbz HBw.out⟩

theorem bitioWrites_row (u : Value) (w : World) (h : ∃ (a : Option Addr) (L c : Nat) (f : Nat → Int × Nat × Int), u = .slice a L c ∧ L ≤ c ∧ c ≤ maxLen ∧ (a = none → c = 0) ∧ Acts w w.heap.size a L f) :
    Calls Try.prog 4 #[u] w fun e w' => e = .returned (.bool true) ∧ Below w.heap.size w w' := by
  obtain ⟨a, L, c, f, rfl, hLc, hcm, _, hA⟩ := h
  by_cases hL : L ≤ 200
  · exact bitioWrites_walk a L c f w hA hLc hL
  · unfold maxLen at hcm
    have Hc := Lib.hid hcm
    have hl : decide (200 < (L : Int)) = true := by simp; omega
    have hl2 : 200 < L := by omega
    clear hcm hA hL hLc
    go_enter Try.func4, Try.ntmps4
    go_wp2_with fail
    refine (live_any _).mono ?_
    rintro e Z ⟨rfl, hbz⟩
    go_wp2_with fail
    go_ret
    exact ⟨rfl, hbz⟩
end Go.Proofs.Ytgglhpoofldkpaa
