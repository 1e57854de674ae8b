/- Walks over layer 26: what stays. -/
import Derived.Test.YtgfioofloaeecaaPts
namespace Go.Proofs.Ytgfioofloaeecaa
open Go.RowKit
set_option linter.unusedVariables false
set_option maxRecDepth 100000

/-- Does a point stay behind those? -/
def stay (out : List P2) (p : P2) : Bool := match out.getLast? with
  | none => true
  | some q => !(decide (q = p))
def smp : List P2 → List P2 → List P2
  | out, [] => out
  | out, p :: l => smp (if stay out p = true then out ++ [p] else out) l
theorem stay_nil (p : P2) : stay [] p = true := rfl
theorem stay_get (out : List P2) (p : P2) (i : Nat) (hi : i + 1 = out.length) : stay out p = !(decide (out[i]'(by omega) = p)) := by
  unfold stay
  rw [List.getLast?_eq_getElem?, show out.length - 1 = i by omega, List.getElem?_eq_getElem (by omega)]

set_option maxHeartbeats 4000000 in
theorem stays_any (v : Value) (l : List P2) (x y : Int) (w : World) (h : RdP w w.heap.size v l) (hl : l.length ≤ 1000000) :
    Calls Try.prog 24 #[v, .agg #[.int .i64 x, .int .i64 y]] w fun e w' => e = .returned (.bool (stay l (x, y))) ∧ Below w.heap.size w w' := by
  obtain ⟨a, c, rfl, _, _, ha⟩ := h
  rcases Nat.eq_zero_or_pos l.length with h0 | h0
  · have e0 : l = [] := List.eq_nil_of_length_eq_zero h0
    subst e0
    rw [stay_nil]
    clear ha
    go_enter Try.func24, Try.ntmps24
    go_wp2_with fail
    go_quiet (fail)
    go_wp2_with fail
    go_ret
    exact ⟨rfl, below_drawnP ((Below.refl _ _).alloc (Nat.le_refl _) _) _⟩
  · obtain ⟨i, hi⟩ : ∃ i, i + 1 = l.length := ⟨l.length - 1, by omega⟩
    obtain ⟨b1, o1, rfl, h1, p0, p1⟩ := (ha.below ((Below.refl _ _).alloc (Nat.le_refl _) (.cells #[.int .i64 x, .int .i64 y] 27))).at i (by omega)
    have hs := stay_get l (x, y) i hi
    rw [← hi]
    generalize l[i]'(by omega) = q at *
    obtain ⟨x', y'⟩ := q
    simp only at p0 p1
    have Hs := Lib.hid hs
    have n1 : (((i + 1 : Nat) : Int) == 0) = false := beq_eq_false_iff_ne.mpr (by omega)
    have n2 : IntKind.i64.wrap (((i + 1 : Nat) : Int) - 1) = (i : Int) := by rw [IntWalk.i64_in _ ⟨by omega, by omega⟩]; omega
    obtain ⟨L, hL⟩ : ∃ L : Nat, i + 1 = L := ⟨_, rfl⟩
    rw [hL] at n1 n2 ⊢
    have n3 : (i : Int) < (L : Int) := by omega
    have n4 : (0 : Int) ≤ (i : Int) := by omega
    clear hs ha hL hi h0
    by_cases e : x' = x ∧ y' = y
    · obtain ⟨rfl, rfl⟩ := e
      go_enter Try.func24, Try.ntmps24
      go_wp2_with fail
      go_quiet (fail)
      go_wp2_with fail
      go_ret
      exact ⟨by rw [Hs.out]; simp, below_drawnP ((Below.refl _ _).alloc (Nat.le_refl _) _) _⟩
    · by_cases ex : x' = x
      · have ey : ¬ y' = y := fun h => e ⟨ex, h⟩
        subst ex
        have m1 : ((y' : Int) == y) = false := beq_eq_false_iff_ne.mpr ey
        have m2 : ((y' : Int) != y) = true := by simpa using ey
        have Hy := Lib.hid ey
        clear e ey
        go_enter Try.func24, Try.ntmps24
        go_wp2_with fail
        go_quiet (fail)
        go_wp2_with fail
        go_ret
        exact ⟨by rw [Hs.out]; simp [Hy.out], below_drawnP ((Below.refl _ _).alloc (Nat.le_refl _) _) _⟩
      · have m1 : ((x' : Int) == x) = false := beq_eq_false_iff_ne.mpr ex
        have m2 : ((x' : Int) != x) = true := by simpa using ex
        have Hx := Lib.hid ex
        clear e ex
        go_enter Try.func24, Try.ntmps24
        go_wp2_with fail
        go_quiet (fail)
        go_wp2_with fail
        go_ret
        exact ⟨by rw [Hs.out]; simp [Hx.out], below_drawnP ((Below.refl _ _).alloc (Nat.le_refl _) _) _⟩

set_option maxHeartbeats 4000000 in
theorem keptS_any (v : Value) (l : List P2) (w : World) (h : RdP w w.heap.size v l) (hl : l.length ≤ 1000) (R : List P2) (hR : smp [] l = R) :
    Calls Try.prog 23 #[v, .func (.func 24) #[] #[]] w (PPost w R) := by
  obtain ⟨i0, hi0, hz0, hz1, hz2⟩ := info_parts ptinfo
  obtain ⟨a, c, rfl, _, _, ha⟩ := h
  have Hs := Lib.hid stays_any
  obtain ⟨L, hL⟩ : ∃ L, L = l.length := ⟨_, rfl⟩
  have HA := Lib.hid ha
  have HL := Lib.hid hL
  have HR := Lib.hid hR
  rw [← hL] at hl ⊢
  clear hL ha hR
  go_enter Try.func23, Try.ntmps23
  go_wp2_with fail
  go_loopw [10, 5] (fun i u W => ∃ (k : Nat) (m : List P2) (v : Value), k ≤ L ∧ i = .int .i64 (k : Int) ∧ v = u ∧ Hid (OwnP W w.heap.size v m) ∧ m.length ≤ k ∧ Hid (Below w.heap.size w W) ∧ Hid (smp m (l.drop k) = R)) (fun i _ _ => L - (intOf i).toNat)
  case atStart => exact ⟨0, [], _, Nat.zero_le _, rfl, rfl, OwnP.nil_ _ _, Nat.le_refl _, Below.refl _ _, HR.out⟩
  case round =>
    obtain ⟨k, m, v, hk, rfl, rfl, hO, hm, hbw, hs⟩ := hrel
    by_cases hlt : k < L
    · have hkl : k < l.length := by have := HL.out; omega
      have hdr : l.drop k = l[k] :: l.drop (k + 1) := List.drop_eq_getElem_cons hkl
      obtain ⟨b1, o1, rfl, h1, p0, p1⟩ := (HA.out.below hbw.out).at k hkl
      rw [hdr] at hs
      generalize l[k]'hkl = q at *
      obtain ⟨x, y⟩ := q
      simp only at p0 p1
      have hk0 : (0 : Int) ≤ (k : Int) := by omega
      have hk1 : (k : Int) < (L : Int) := by omega
      have Hm := Lib.hid hm
      have hA1 : Below wr.heap.size wr (wr.alloc (.cells #[.int .i64 x, .int .i64 y] 27)) := (Below.refl _ _).alloc (Nat.le_refl _) _
      have hcall := Hs.out v m x y (wr.alloc (.cells #[.int .i64 x, .int .i64 y] 27)) ((hO.out.alloc _).rd) (by omega)
      have Hcall := Lib.hid hcall
      have HA1 := Lib.hid hA1
      clear hcall hA1 hm hdr
      go_wp2_with fail
      refine Hcall.out.mono ?_
      rintro e X ⟨rfl, hX⟩
      have hOX : OwnP X w.heap.size v m := (hO.out.alloc _).below hX
      have HOX := Lib.hid hOX
      have c0 : X.cell? ⟨wr.heap.size, 0, none⟩ = some (.int .i64 x) := (hX.cell (by simp)).trans ((Whole.new wr 27 #[.int .i64 x, .int .i64 y]).cell 0)
      have c1 : X.cell? ⟨wr.heap.size, 1, none⟩ = some (.int .i64 y) := (hX.cell (by simp)).trans ((Whole.new wr 27 #[.int .i64 x, .int .i64 y]).cell 1)
      have HBX := Lib.hid (hbw.out.trans ((HA1.out.trans (hX.mono HA1.out.size)).mono hbw.out.size))
      have hown : X.ownsRow w.heap.size 27 2 v m.length (pts m) := hOX
      clear hX Hcall HA1 hO
      have hs2 := hs.out
      unfold smp at hs2
      cases hst : stay m (x, y)
      · rw [hst, if_neg (by decide)] at hs2
        have Hs2 := Lib.hid hs2
        clear hs2 hst hs hown
        go_wp2_with fail
        go_roundw
        case rel => exact ⟨k + 1, m, v, hlt, by go_num, rfl, HOX, by have := Hm.out; omega, HBX, Hs2⟩
        case measure => simp [intOf]; omega
      · rw [hst, if_pos rfl] at hs2
        have Hs2 := Lib.hid hs2
        clear hs2 hst hs
        go_wp2_with (at_builtin; refine app_rec rfl (.tmp 18) (.tmp 20) 23 rfl w.heap.size 27 i0 _ 2 16 Try.underlying23 hi0 hz0 hz1 hz2 rfl (by decide) v _ _ rfl hown [.int .i64 x, .int .i64 y] rfl 1 rfl (pts_one [(x, y)]) (by have := Hm.out; unfold maxLen; omega) (by have := Hm.out; omega) HBX.out.size ?_)
        intro v3 w3 h2 h3 h5
        have hG : GoneP X w.heap.size v (m ++ [(x, y)]) v3 w3 := GoneP.grown h2 (by simp) (by rw [pts_append]; rfl) h3 h5
        have HG := Lib.hid hG
        clear h2 h3 h5 hG hown
        go_wp2_with fail
        go_roundw
        case rel => exact ⟨k + 1, m ++ [(x, y)], v3, hlt, by go_num, rfl, HG.out.own, by have := Hm.out; simp; omega, HBX.out.trans (HG.out.below HOX.out HBX.out.size), Hs2⟩
        case measure => simp [intOf]; omega
    · obtain rfl : k = L := by omega
      rw [List.drop_of_length_le (by have := HL.out; omega)] at hs
      have e : m = R := hs.out
      subst e
      have H1 := Lib.hid hO.out.rd
      have HF := Lib.hid fun b e => (hO.out.lt b e).1
      clear hO
      go_wp2_with fail
      go_ret
      exact ⟨_, rfl, H1.out, hbw.out, HF.out⟩
end Go.Proofs.Ytgfioofloaeecaa
