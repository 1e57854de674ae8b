/- The reference's big numbers: made, Neg, Sign. -/
import Derived.Test.YtcfkhgpcamfecaaBig
import Derived.Outline
namespace Go.Proofs.Ytcfkhgpcamfecaa
open Go.RowKit Big
set_option linter.unusedVariables false
set_option maxRecDepth 100000

theorem sv_take (l r : List Nat) (neg : Bool) (h : val r = val l) : sv neg r = sv neg l := by unfold sv; rw [h]
theorem sv_nil (neg : Bool) (l : List Nat) (h : val l = 0) : sv neg l = 0 := by unfold sv; rw [h]; simp

def BigPost (w : World) (z : Int) (k : Nat) (e : Ending) (w' : World) : Prop := ∃ v, e = .returned v ∧ IsBig w' w'.heap.size v z k ∧ Below w.heap.size w w'

theorem made_is {w : World} {a : Option Addr} {c n k : Nat} {l : List Nat} (neg : Bool) (h : Wd w w.heap.size a c l) (hn : n ≤ l.length) (hk : l.length ≤ k) (hN : Norm (l.take n)) (hv : val (l.take n) = val l) (b : Bool) (hb : b = (neg && decide (0 < n))) :
    IsBig w w.heap.size (.agg #[.bool b, .slice a n c]) (sv neg l) k := by
  have hl : (l.take n).length = n := by simp; omega
  refine ⟨b, a, c, l.take n, by rw [hl], ⟨h.1.take n, hN.1, by rw [hl]; exact Nat.le_trans hn h.2.2.1, by rw [hl]; have := h.2.2.2.1; omega, h.2.2.2.2⟩, hN, by rw [hl]; omega, ?_, ?_⟩
  · subst hb
    rw [← sv_take _ _ _ hv]
    by_cases h0 : n = 0
    · subst h0; simp [sv, val]
    · have : decide (0 < n) = true := by simp; omega
      rw [this]; simp
  · intro e
    subst hb
    simp at e
    intro e2
    have := congrArg List.length e2
    rw [hl] at this
    simp at this
    omega

set_option maxHeartbeats 1000000 in
theorem made_any (neg : Bool) (a : Option Addr) (c k : Nat) (l : List Nat) (w : World) (h : Wd w w.heap.size a c l) (hk : l.length ≤ k) :
    Calls Try.prog 44 #[.bool neg, .slice a l.length c] w (BigPost w (sv neg l) k) := by
  obtain ⟨w1, hw1⟩ : ∃ w1, w1 = w.alloc (.cells #[.bool false, .slice none 0 0] 29) := ⟨_, rfl⟩
  have hb : Below w.heap.size w (w.alloc (.cells #[.bool false, .slice none 0 0] 29)) := (Below.refl _ _).alloc (Nat.le_refl _) _
  have hcut := Lib.hid (cut_any w.heap.size a c l _ (h.keep hb))
  have H := Lib.hid h
  have Hk := Lib.hid hk
  have Hb := Lib.hid hb
  clear h hk hb hw1
  have K : ∀ (b : Bool) (n : Nat), n ≤ l.length → Norm (l.take n) → val (l.take n) = val l → b = (neg && decide (0 < n)) →
      BigPost w (sv neg l) k (.returned (.agg #[.bool b, .slice a n c])) (w.alloc (.cells #[.bool b, .slice a n c] 29)) := fun b n h1 h2 h3 h4 => by
    have hb : Below w.heap.size w (w.alloc (.cells #[.bool b, .slice a n c] 29)) := (Below.refl _ _).alloc (Nat.le_refl _) _
    exact ⟨_, rfl, (made_is neg ((H.out.keep hb).more hb.size) h1 Hk.out h2 h3 b h4).more (Nat.le_refl _) (Nat.le_refl _), hb⟩
  have HK := Lib.hid K
  clear K
  cases neg with
  | false =>
    go_enter Try.func44, Try.ntmps44
    go_wp2_with (go_at_call 64; refine hcut.out.mono ?_; rintro e w' ⟨n, hn, rfl, hN, hv, rfl⟩; (have HN := Lib.hid hN); (have Hv := Lib.hid hv); (have Hn := Lib.hid hn); clear hN hv hn)
    exact bodyPost_ret (v := .agg #[.bool false, .slice a n c]) (by simp [results, Try.results44, go_sem]) rfl (HK.out false n Hn.out HN.out Hv.out rfl)
  | true =>
    go_enter Try.func44, Try.ntmps44
    go_wp2_with (go_at_call 64; refine hcut.out.mono ?_; rintro e w' ⟨n, hn, rfl, hN, hv, rfl⟩; (have HN := Lib.hid hN); (have Hv := Lib.hid hv); (have Hn := Lib.hid hn); clear hN hv hn)
    exact bodyPost_ret (v := .agg #[.bool (decide (0 < n)), .slice a n c]) (by simp [results, Try.results44, go_sem]) rfl (HK.out _ n Hn.out HN.out Hv.out rfl)

theorem alloc2_below (w : World) (o o' : Obj) : Below w.heap.size w ((w.alloc o).alloc o') := ((Below.refl _ _).alloc (Nat.le_refl _) _).alloc (by simp) _
theorem BigPost.lift {w w0 : World} {z : Int} {k : Nat} {e : Ending} {w' : World} (hb : Below w.heap.size w w0) (h : BigPost w0 z k e w') : BigPost w z k e w' := by
  obtain ⟨v, rfl, h1, h2⟩ := h
  exact ⟨v, rfl, h1, hb.trans (h2.mono hb.size)⟩
theorem BigPost.put {w w0 w1 w2 : World} {z : Int} {k : Nat} {v : Value} (h : IsBig w1 w1.heap.size v z k) (hb : Below w.heap.size w w1) (h2 : Below w1.heap.size w1 w2) : BigPost w z k (.returned v) w2 :=
  ⟨v, rfl, (h.keep h2).more h2.size (Nat.le_refl _), hb.trans (h2.mono hb.size)⟩
/-- A store into a block that holds no numbers turns no number. -/
theorem Nums.put {k : IntKind} {w : World} {B g : Nat} {t : TypeId} {cs : Array Value} {a : Option Addr} {l : List Nat} (h : Nums k w B a l) (hW : Whole w g t cs) (hni : ∀ (i : Nat) (n : Int), cs[i]? ≠ some (.int k n)) (i : Nat) (u : Value) :
    Nums k (w.setCell ⟨g, i, none⟩ u) B a l := fun hl => by
  obtain ⟨b, off, rfl, hb, hc⟩ := h hl
  refine ⟨b, off, rfl, hb, fun j hj => ?_⟩
  have hj' := hc j hj
  have hne : b ≠ g := by
    rintro rfl
    rw [hW.cell] at hj'
    exact hni _ _ hj'
  rw [← hj']
  exact World.cell?_of_block (w := w) (Below.heap_setCell w _ u b hne)
theorem two_noInt (k : IntKind) (b : Bool) (a : Option Addr) (n c : Nat) : ∀ (i : Nat) (m : Int), (#[Value.bool b, .slice a n c])[i]? ≠ some (.int k m) := by
  intro i m
  rcases i with _ | _ | i <;> simp
/-- The result's cell takes a number. -/
theorem big_put {w : World} {g n0 c0 n c k : Nat} {b0 b : Bool} {a0 a : Option Addr} {z : Int} {t : TypeId} (hW : Whole w g t #[.bool b0, .slice a0 n0 c0]) (h : IsBig w w.heap.size (.agg #[.bool b, .slice a n c]) z k) :
    IsBig ((w.setCell ⟨g, 0, none⟩ (.bool b)).setCell ⟨g, 1, none⟩ (.slice a n c)) ((w.setCell ⟨g, 0, none⟩ (.bool b)).setCell ⟨g, 1, none⟩ (.slice a n c)).heap.size (.agg #[.bool b, .slice a n c]) z k ∧
    Whole ((w.setCell ⟨g, 0, none⟩ (.bool b)).setCell ⟨g, 1, none⟩ (.slice a n c)) g t #[.bool b, .slice a n c] := by
  have h1 := hW.set 0 (.bool b)
  have h1' : Whole (w.setCell ⟨g, 0, none⟩ (.bool b)) g t #[.bool b, .slice a0 n0 c0] := h1
  have h2 := h1'.set 1 (.slice a n c)
  refine ⟨?_, h2⟩
  obtain ⟨neg, a', c', l, e, hWd, r⟩ := h
  refine ⟨neg, a', c', l, e, ⟨?_, hWd.2⟩, r⟩
  have h3 := ((hWd.1.put hW (two_noInt _ _ _ _ _) 0 (.bool b)).put h1' (two_noInt _ _ _ _ _) 1 (.slice a n c))
  exact h3.more (by simp [World.setCell])
theorem sv_not (neg : Bool) (l : List Nat) : sv (!neg) l = -sv neg l := by unfold sv; cases neg <;> simp

set_option maxHeartbeats 1000000 in
theorem neg_any (v : Value) (z : Int) (k : Nat) (w : World) (h : IsBig w w.heap.size v z k) :
    Calls Try.prog 24 #[v] w (BigPost w (-z) k) := by
  obtain ⟨neg, a, c, l, rfl, hW, hN, hk, hz, _⟩ := h
  have hb : ∀ o : Obj, Below w.heap.size w ((w.alloc (.cells #[.bool neg, .slice a l.length c] 29)).alloc o) := fun o => alloc2_below w _ o
  have hm := fun o : Obj => made_any (!neg) a c k l _ ((hW.keep (hb o)).more (hb o).size) hk
  rw [sv_not, ← hz] at hm
  have Hm := Lib.hid hm
  have Hb := Lib.hid hb
  clear hm hb hW hN hk hz
  have k0 := (Whole.new w 29 #[.bool neg, .slice a l.length c]).alloc (.cells #[.bool false, .slice none 0 0] 29)
  have c0 : ((w.alloc (.cells #[.bool neg, .slice a l.length c] 29)).alloc (.cells #[.bool false, .slice none 0 0] 29)).cell? ⟨w.heap.size, 0, none⟩ = some (.bool neg) := k0.cell 0
  have c1 : ((w.alloc (.cells #[.bool neg, .slice a l.length c] 29)).alloc (.cells #[.bool false, .slice none 0 0] 29)).cell? ⟨w.heap.size, 1, none⟩ = some (.slice a l.length c) := k0.cell 1
  clear k0
  go_enter Try.func24, Try.ntmps24
  go_wp2_with fail
  refine (Hm.out _).mono ?_
  rintro e w1 ⟨v, rfl, ⟨neg', a', c', l', rfl, hrest⟩, h2⟩
  have hI : IsBig w1 w1.heap.size (.agg #[.bool neg', .slice a' l'.length c']) (-z) k := ⟨neg', a', c', l', rfl, hrest⟩
  obtain ⟨hA, hB, hb, hlt⟩ := two_kept h2
  have HI := Lib.hid hI
  clear hrest h2 hI c0 c1
  have b0 : w1.cell? ⟨w.heap.size + 1, 0, none⟩ = some (.bool false) := hB.cell 0
  have b1 : w1.cell? ⟨w.heap.size + 1, 1, none⟩ = some (.slice none 0 0) := hB.cell 1
  have f0 := hB.frozen 0
  have f1 := hB.frozen 1
  go_wp2_with fail
  obtain ⟨k1, k2⟩ := big_put hB HI.out
  exact bodyPost_ret (results_cell_row rfl _ _ (w.heap.size + 1) 29 _ (0, 0) _ rfl k2 Try.underlying29 rfl (by kernel_rfl)) rfl ⟨_, rfl, k1, (hb.setCell (by simp) _).setCell (by simp) _⟩

def signI (z : Int) : Int := if z = 0 then 0 else if z < 0 then -1 else 1

set_option maxHeartbeats 1000000 in
theorem sign_any (v : Value) (z : Int) (k : Nat) (w : World) (h : IsBig w w.heap.size v z k) :
    Calls Try.prog 20 #[v] w fun e w' => e = .returned (.int .i64 (signI z)) ∧ Below w.heap.size w w' := by
  obtain ⟨neg, a, c, l, rfl, hW, hN, hk, hz, hnn⟩ := h
  have hb : Below w.heap.size w (w.alloc (.cells #[.bool neg, .slice a l.length c] 29)) := (Below.refl _ _).alloc (Nat.le_refl _) _
  have Hb := Lib.hid hb
  have h0 := norm_zero hN
  have hs : signI z = if l.length = 0 then 0 else if neg then -1 else 1 := by
    subst hz
    by_cases hl : l = []
    · subst hl; simp [signI, sv, val]
    · have hp : val l ≠ 0 := fun e => hl (h0.1 e)
      have hl' : l.length ≠ 0 := fun e => hl (List.eq_nil_of_length_eq_zero e)
      rw [if_neg hl']
      unfold signI sv
      cases neg
      · simp [hp]
      · simp [hp]
  rw [hs]
  generalize l.length = n
  clear hb hW hN hk hz hnn h0 hs
  by_cases hn : n = 0
  · subst hn
    go_enter Try.func20, Try.ntmps20
    go_wp2_with fail
    go_ret
    exact ⟨rfl, (Below.refl _ _).alloc (Nat.le_refl _) _⟩
  · have h1 : ((n : Int) == 0) = false := by simp; omega
    rw [if_neg hn]
    clear hn
    cases neg
    all_goals
      go_enter Try.func20, Try.ntmps20
      go_wp2_with fail
      go_ret
      exact ⟨rfl, (Below.refl _ _).alloc (Nat.le_refl _) _⟩
end Go.Proofs.Ytcfkhgpcamfecaa
