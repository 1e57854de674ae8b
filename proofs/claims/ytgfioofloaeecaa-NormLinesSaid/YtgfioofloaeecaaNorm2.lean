/- Walks over layer 26: points without those that stand twice. -/
import Derived.Test.YtgfioofloaeecaaNorm1
namespace Go.Proofs.Ytgfioofloaeecaa
open Go.RowKit
set_option linter.unusedVariables false
set_option maxRecDepth 100000

/-- A ring without its last points, where they are equal to the first. -/
def trim : Nat → List P2 → List P2
  | 0, m => m
  | f + 1, m => if 1 < m.length ∧ m.head? = m.getLast? then trim f m.dropLast else m
theorem trim_yes (f : Nat) (m : List P2) (i : Nat) (hi : i + 1 = m.length) (h : 1 < m.length) (he : m[0]'(by omega) = m[i]'(by omega)) : trim (f + 1) m = trim f m.dropLast := by
  have e : trim (f + 1) m = if 1 < m.length ∧ m.head? = m.getLast? then trim f m.dropLast else m := rfl
  rw [e, if_pos ⟨h, by rw [List.head?_eq_getElem?, List.getLast?_eq_getElem?, show m.length - 1 = i by omega, List.getElem?_eq_getElem (by omega), List.getElem?_eq_getElem (by omega), he]⟩]
theorem trim_no (f : Nat) (m : List P2) (i : Nat) (hi : i + 1 = m.length) (he : ¬ m[0]'(by omega) = m[i]'(by omega)) : trim (f + 1) m = m := by
  unfold trim
  rw [if_neg fun h => he (by
    have h2 := h.2
    rw [List.head?_eq_getElem?, List.getLast?_eq_getElem?, show m.length - 1 = i by omega, List.getElem?_eq_getElem (by omega), List.getElem?_eq_getElem (by omega)] at h2
    injection h2)]
theorem trim_short (f : Nat) (m : List P2) (h : ¬ 1 < m.length) : trim f m = m := by
  cases f with
  | zero => rfl
  | succ f => unfold trim; rw [if_neg fun h2 => h h2.1]
theorem PAt.init {w : World} {B : Nat} {a : Option Addr} {m : List P2} (h : PAt w B a m) : PAt w B a m.dropLast := by
  rcases List.eq_nil_or_concat m with rfl | ⟨l, p, rfl⟩
  · exact h
  · have hd : (l.concat p).dropLast = l := by simp
    rw [hd]
    have hl := h.1
    refine ⟨pts_length l, fun hp => ?_⟩
    rw [List.concat_eq_append] at h
    have h1 : (pts (l ++ [p])).length = (pts l).length + 2 := by rw [pts_length, pts_length]; simp; omega
    obtain ⟨b, off, e, hb, hc⟩ := h.2 (by omega)
    refine ⟨b, off, e, hb, fun i hi => ?_⟩
    rw [hc i (by omega), pts_append, List.getElem?_append_left hi]
def sliceLen : Value → Nat
  | .slice _ n _ => n
  | _ => 0
/-- What Simple answers. -/
def simpleE (l : List P2) (t : Bool) : List P2 := if t = true then trim (smp [] l).length (smp [] l) else smp [] l
theorem stay_len (m : List P2) (p : P2) : (if stay m p = true then m ++ [p] else m).length ≤ m.length + 1 := by split <;> simp
theorem smp_len : ∀ (l m : List P2), (smp m l).length ≤ m.length + l.length
  | [], m => by simp [smp]
  | p :: l, m => by
    have h1 := smp_len l (if stay m p = true then m ++ [p] else m)
    have h2 := stay_len m p
    simp only [smp, List.length_cons]
    omega

set_option maxHeartbeats 8000000 in
theorem simple_any (v : Value) (l : List P2) (t : Bool) (w : World) (h : RdP w w.heap.size v l) (hl : l.length ≤ 1000) (R : List P2) (hR : simpleE l t = R) :
    Calls Try.prog 11 #[v, .bool t] w (PPost w R) := by
  have hlen : (smp [] l).length ≤ 1000 := by have := smp_len l []; simp at this; omega
  have Hk := Lib.hid (keptS_any v l w h hl _ rfl)
  have hT : (if t = true then trim (smp [] l).length (smp [] l) else smp [] l) = R := hR
  generalize smp [] l = M at *
  clear hR h hl
  cases t
  · rw [if_neg (by decide)] at hT
    subst hT
    go_enter Try.func11, Try.ntmps11
    go_wp2_with fail
    refine Hk.out.mono ?_
    rintro e W ⟨u, rfl, ⟨a, c, rfl, hc1, hc2, hP⟩, hB, hF⟩
    have HP := Lib.hid hP
    have HBW := Lib.hid hB
    have HF := Lib.hid hF
    clear hF
    clear hP hB
    go_wp2_with fail
    refine wp_loop_rounds 1 ?_
    rw [rounds_succ]
    go_wp2_with fail
    go_quiet (fail)
    go_wp2_with fail
    go_ret
    exact ⟨_, rfl, ⟨_, _, rfl, hc1, hc2, HP.out⟩, below_drawnP HBW.out _, HF.out⟩
  · rw [if_pos rfl] at hT
    have HT := Lib.hid hT
    clear hT
    go_enter Try.func11, Try.ntmps11
    go_wp2_with fail
    refine Hk.out.mono ?_
    rintro e W ⟨u, rfl, ⟨a, c, rfl, hc1, hc2, hP⟩, hB, hF⟩
    have HP := Lib.hid hP
    have HBW := Lib.hid hB
    have HF := Lib.hid hF
    clear hF
    clear hP hB Hk
    go_wp2_with fail
    go_loopw [5] (fun u X => ∃ (m : List P2) (a : Option Addr) (c f : Nat), u = .slice a m.length c ∧ m.length ≤ c ∧ c ≤ maxLen ∧ Hid (PAt W W.heap.size a m) ∧ Hid (trim f m = R) ∧ m.length ≤ f ∧ f ≤ 1000 ∧ Hid (Below W.heap.size W X) ∧ Hid (∀ b, (Value.slice a m.length c).ownBlock = some b → w.heap.size ≤ b)) (fun u _ => sliceLen u)
    case atStart => exact ⟨_, _, _, _, rfl, hc1, hc2, HP, HT, Nat.le_refl _, hlen, Below.refl _ _, HF⟩
    case round =>
      obtain ⟨m, a, c, f, rfl, h1, h2, hP, hT, hf, hf2, hbw, hfr⟩ := hrel
      by_cases hlt : 1 < m.length
      · obtain ⟨i, hi⟩ : ∃ i, i + 1 = m.length := ⟨m.length - 1, by omega⟩
        obtain ⟨f, rfl⟩ : ∃ g, f = g + 1 := ⟨f - 1, by omega⟩
        obtain ⟨b1, o1, rfl, e1, p0, p1⟩ := (hP.out.below hbw.out).at i (by omega)
        obtain ⟨b2, o2, e3, e2, q0, q1⟩ := (hP.out.below hbw.out).at 0 (by omega)
        injection e3 with e3
        injection e3 with e4 e5
        subst e4 e5
        simp only [Nat.zero_mul, Nat.add_zero] at q0 q1
        have ty := trim_yes f m i hi hlt
        have tn := trim_no f m i hi
        have hP2 := Lib.hid hP.out.init
        have hP0 := hP
        have hdl : m.dropLast.length = i := by simp; omega
        have hsl : sliceLen (.slice (some ⟨b1, o1, none⟩) m.length c) = i + 1 := hi.symm
        generalize m[i]'(by omega) = q at *
        generalize m[0]'(by omega) = p at *
        obtain ⟨x, y⟩ := q
        obtain ⟨x', y'⟩ := p
        simp only at p0 p1 q0 q1
        have Hty := Lib.hid ty
        have Htn := Lib.hid tn
        have Hdl := Lib.hid hdl
        obtain ⟨L, hL⟩ : ∃ L : Nat, m.length = L := ⟨_, rfl⟩
        have Hlen2 := Lib.hid hL
        rw [hL] at hi h1 hf hlt ⊢
        have n1 : decide ((1 : Int) < (L : Int)) = true := decide_eq_true (by omega)
        have n2 : IntKind.i64.wrap ((L : Int) - 1) = (i : Int) := by rw [IntWalk.i64_in _ ⟨by omega, by omega⟩]; omega
        have n3 : (i : Int) < (L : Int) := by omega
        have n4 : (0 : Int) ≤ (i : Int) := by omega
        have n5 : (0 : Int) < (L : Int) := by omega
        have n6 : i ≤ c := by omega
        have n7 : (i : Int) ≤ (c : Int) := by omega
        have Hi := Lib.hid hi
        have Hf := Lib.hid hf
        clear hi ty tn hdl hf hL hP
        by_cases e : x' = x ∧ y' = y
        · obtain ⟨rfl, rfl⟩ := e
          have Hty2 : Hid (trim f m.dropLast = R) := by
            show _ = _
            rw [← Hty.out rfl]; exact hT.out
          clear Hty Htn
          go_wp2_with fail
          go_quiet (fail)
          go_wp2_with fail
          go_roundw
          case rel => exact ⟨m.dropLast, _, c, f, by rw [Hdl.out], by rw [Hdl.out]; omega, h2, hP2, Hty2, by rw [Hdl.out]; have := Hf.out; have := Hi.out; omega, by omega, below_drawnP hbw.out _, hfr⟩
          case measure => have := Hi.out; simp [sliceLen]; omega
        · have Hans : Hid (m = R) := by
            show _ = _
            rw [← Htn.out (fun h => e (by injection h with a b; exact ⟨a, b⟩))]; exact hT.out
          have m0 : ∀ (P : Prop), (x' = x → y' = y → P) → True := fun _ _ => trivial
          by_cases ex : x' = x
          · have ey : ¬ y' = y := fun h => e ⟨ex, h⟩
            subst ex
            have m1 : ((y' : Int) == y) = false := beq_eq_false_iff_ne.mpr ey
            have m2 : ((y : Int) == y') = false := beq_eq_false_iff_ne.mpr (fun h => ey h.symm)
            clear e ey
            go_wp2_with fail
            go_quiet (fail)
            go_wp2_with fail
            go_ret
            exact ⟨_, rfl, ⟨some ⟨b1, o1, none⟩, c, by rw [← Hans.out, Hlen2.out]; rfl, by rw [← Hans.out, Hlen2.out]; omega, h2, by rw [← Hans.out]; exact (hP0.out.below (below_drawnP hbw.out _)).more (below_drawnP hbw.out _).size⟩, HBW.out.trans ((below_drawnP hbw.out _).mono HBW.out.size), hfr.out⟩
          · have m1 : ((x' : Int) == x) = false := beq_eq_false_iff_ne.mpr ex
            have m2 : ((x : Int) == x') = false := beq_eq_false_iff_ne.mpr (fun h => ex h.symm)
            clear e ex
            go_wp2_with fail
            go_quiet (fail)
            go_wp2_with fail
            go_ret
            exact ⟨_, rfl, ⟨some ⟨b1, o1, none⟩, c, by rw [← Hans.out, Hlen2.out]; rfl, by rw [← Hans.out, Hlen2.out]; omega, h2, by rw [← Hans.out]; exact (hP0.out.below (below_drawnP hbw.out _)).more (below_drawnP hbw.out _).size⟩, HBW.out.trans ((below_drawnP hbw.out _).mono HBW.out.size), hfr.out⟩
      · have e := hT.out
        rw [trim_short f m hlt] at e
        subst e
        have n1 : decide ((1 : Int) < (m.length : Int)) = false := decide_eq_false (by omega)
        go_wp2_with fail
        go_quiet (fail)
        go_wp2_with fail
        go_ret
        exact ⟨_, rfl, ⟨_, _, rfl, h1, h2, (hP.out.below (below_drawnP hbw.out _)).more (below_drawnP hbw.out _).size⟩, HBW.out.trans ((below_drawnP hbw.out _).mono HBW.out.size), hfr.out⟩

theorem own_row {w : World} {base : Nat} {v : Value} {l : List P2} (h : OwnP w base v l) : w.ownsRow base 27 2 v l.length (pts l) := h
theorem own_drawn {w : World} {base : Nat} {v : Value} {l : List P2} (h : OwnP w base v l) (n : Nat) : OwnP (w.drewN n) base v l := h
set_option maxHeartbeats 8000000 in
theorem refSimple_any (v : Value) (l : List P2) (t : Bool) (w : World) (h : RdP w w.heap.size v l) (hl : l.length ≤ 1000) (R : List P2) (hR : simpleE l t = R) :
    Calls Try.prog 12 #[v, .bool t] w (PPost w R) := by
  obtain ⟨i0, hi0, hz0, hz1, hz2⟩ := info_parts ptinfo
  obtain ⟨a0, c0, rfl, _, _, ha⟩ := h
  have hlen : (smp [] l).length ≤ 1000 := by have := smp_len l []; simp at this; omega
  have hT : (if t = true then trim (smp [] l).length (smp [] l) else smp [] l) = R := hR
  obtain ⟨M, hM⟩ : ∃ M, smp [] l = M := ⟨_, rfl⟩
  rw [hM] at hlen hT
  have HM := Lib.hid hM
  obtain ⟨L0, hL0⟩ : ∃ L, L = l.length := ⟨_, rfl⟩
  have HA := Lib.hid ha
  have HL := Lib.hid hL0
  rw [← hL0] at hl ⊢
  have HT0 := Lib.hid hT
  clear hL0 ha hM hR hT
  go_enter Try.func12, Try.ntmps12
  go_wp2_with fail
  go_loopw [6, 5] (fun i u W => ∃ (k : Nat) (m : List P2) (v : Value), k ≤ L0 ∧ i = .int .i64 (k : Int) ∧ v = u ∧ Hid (OwnP W w.heap.size v m) ∧ m.length ≤ k ∧ Hid (Below w.heap.size w W) ∧ Hid (smp m (l.drop k) = M)) (fun i _ _ => L0 - (intOf i).toNat)
  case atStart => exact ⟨0, [], _, Nat.zero_le _, rfl, rfl, OwnP.nil_ _ _, Nat.le_refl _, Below.refl _ _, HM.out⟩
  case round =>
    obtain ⟨k, m, v, hk, rfl, rfl, HO, hm, HBW, hs⟩ := hrel
    by_cases hlt : k < L0
    · have hkl : k < l.length := by have := HL.out; omega
      have hdr : l.drop k = l[k] :: l.drop (k + 1) := List.drop_eq_getElem_cons hkl
      obtain ⟨b1, o1, rfl, h1, p0, p1⟩ := (HA.out.below HBW.out).at k hkl
      rw [hdr] at hs
      generalize l[k]'hkl = q at *
      obtain ⟨x, y⟩ := q
      simp only at p0 p1
      have hk0 : (0 : Int) ≤ (k : Int) := by omega
      have hk1 : (k : Int) < (L0 : Int) := by omega
      have hs2 := hs.out
      unfold smp at hs2
      have Hyes : Hid (stay m (x, y) = true → smp (m ++ [(x, y)]) (l.drop (k + 1)) = M) := fun h => by rw [h, if_pos rfl] at hs2; exact hs2
      have Hno : Hid (stay m (x, y) = false → smp m (l.drop (k + 1)) = M) := fun h => by rw [h, if_neg (by decide)] at hs2; exact hs2
      clear hs hs2 hdr
      rcases Nat.eq_zero_or_pos m.length with h0 | h0
      · have e0 : m = [] := List.eq_nil_of_length_eq_zero h0
        subst e0
        have Hyes := Lib.hid (Hyes.out (stay_nil _))
        have Hm := Lib.hid hm
        obtain ⟨a2, c2, hv, hc2, hc3, hP⟩ := HO.out.rd
        subst hv
        rw [List.length_nil] at HO ⊢
        clear Hno h0 hm hP hc2 hc3
        go_wp2_with fail
        have tst := fun n => own_row (own_drawn HO.out n)
        go_quiet (fail)
        go_wp2_with (at_builtin; refine app_rec rfl (.tmp 29) (.tmp 34) 23 rfl w.heap.size 27 i0 _ 2 16 Try.underlying23 hi0 hz0 hz1 hz2 rfl (by decide) _ _ _ rfl (tst _) [.int .i64 x, .int .i64 y] rfl 1 rfl (pts_one [(x, y)]) (by have := Hm.out; unfold maxLen; omega) (by have := Hm.out; omega) HBW.out.size ?_)
        intro v3 w3 h2 h3 h5
        have hG : GoneP _ w.heap.size _ (([] : List P2) ++ [(x, y)]) v3 w3 := GoneP.grown h2 (by simp) (by rw [pts_append]; rfl) h3 h5
        have HG := Lib.hid hG
        clear h2 h3 h5 hG
        go_wp2_with fail
        go_roundw
        case rel => exact ⟨k + 1, ([] : List P2) ++ [(x, y)], v3, hlt, by go_num, rfl, HG.out.own, by have := Hm.out; first | (simp; done) | (simp; omega), (below_drawnP HBW.out _).trans (HG.out.below (own_drawn HO.out _) (below_drawnP HBW.out _).size), Hyes.out⟩
        case measure => simp [intOf]; omega
      · obtain ⟨i, hi⟩ : ∃ i, i + 1 = m.length := ⟨m.length - 1, by omega⟩
        obtain ⟨a2, c2, hv, hc2, hc3, hP⟩ := HO.out.rd
        subst hv
        obtain ⟨b2, o2, rfl, h2, q0, q1⟩ := hP.at i (by omega)
        have hsg := stay_get m (x, y) i hi
        generalize m[i]'(by omega) = q at *
        obtain ⟨x', y'⟩ := q
        simp only at q0 q1
        have Hm := Lib.hid hm
        obtain ⟨L, hL⟩ : ∃ L : Nat, m.length = L := ⟨_, rfl⟩
        have Hlen2 := Lib.hid hL
        have Hsg := Lib.hid hsg
        rw [hL] at hi h0 ⊢ HO
        have n1 : ((L : Int) == 0) = false := beq_eq_false_iff_ne.mpr (by omega)
        have n2 : IntKind.i64.wrap ((L : Int) - 1) = (i : Int) := by have := Hm.out; rw [IntWalk.i64_in _ ⟨by omega, by omega⟩]; omega
        have n3 : (i : Int) < (L : Int) := by omega
        have n4 : (0 : Int) ≤ (i : Int) := by omega
        clear hi hL hsg hm hP
        by_cases e : x' = x ∧ y' = y
        · obtain ⟨rfl, rfl⟩ := e
          have Hno := Lib.hid (Hno.out (by rw [Hsg.out]; simp))
          clear Hyes
          go_wp2_with fail
          go_quiet (fail)
          go_wp2_with fail
          go_roundw
          case rel => exact ⟨k + 1, m, _, hlt, by go_num, rfl, own_drawn HO.out _, by have := Hm.out; omega, below_drawnP HBW.out _, Hno.out⟩
          case measure => simp [intOf]; omega
        · have Hyes := Lib.hid (Hyes.out (by rw [Hsg.out]; simp; omega))
          clear Hno
          by_cases ex : x' = x
          · have ey : ¬ y' = y := fun h => e ⟨ex, h⟩
            have ex2 := ex.symm
            subst ex2
            have m1 : ((y' : Int) == y) = false := beq_eq_false_iff_ne.mpr ey
            have m2 : ((y' : Int) != y) = true := by simpa using ey
            clear e ey
            go_wp2_with fail
            have tst := fun n => own_row (own_drawn HO.out n)
            go_quiet (fail)
            go_wp2_with (at_builtin; refine app_rec rfl (.tmp 29) (.tmp 34) 23 rfl w.heap.size 27 i0 _ 2 16 Try.underlying23 hi0 hz0 hz1 hz2 rfl (by decide) _ _ _ rfl (tst _) [.int .i64 x, .int .i64 y] rfl 1 rfl (pts_one [(x, y)]) (by have := Hm.out; unfold maxLen; omega) (by have := Hm.out; omega) HBW.out.size ?_)
            intro v3 w3 h2 h3 h5
            have hG : GoneP _ w.heap.size _ (m ++ [(x, y)]) v3 w3 := GoneP.grown h2 (by simp) (by rw [pts_append]; rfl) h3 h5
            have HG := Lib.hid hG
            clear h2 h3 h5 hG
            go_wp2_with fail
            go_roundw
            case rel => exact ⟨k + 1, m ++ [(x, y)], v3, hlt, by go_num, rfl, HG.out.own, by have := Hm.out; first | (simp; done) | (simp; omega), (below_drawnP HBW.out _).trans (HG.out.below (own_drawn HO.out _) (below_drawnP HBW.out _).size), Hyes.out⟩
            case measure => simp [intOf]; omega
          · have m1 : ((x' : Int) == x) = false := beq_eq_false_iff_ne.mpr ex
            have m2 : ((x' : Int) != x) = true := by simpa using ex
            clear e ex
            go_wp2_with fail
            have tst := fun n => own_row (own_drawn HO.out n)
            go_quiet (fail)
            go_wp2_with (at_builtin; refine app_rec rfl (.tmp 29) (.tmp 34) 23 rfl w.heap.size 27 i0 _ 2 16 Try.underlying23 hi0 hz0 hz1 hz2 rfl (by decide) _ _ _ rfl (tst _) [.int .i64 x, .int .i64 y] rfl 1 rfl (pts_one [(x, y)]) (by have := Hm.out; unfold maxLen; omega) (by have := Hm.out; omega) HBW.out.size ?_)
            intro v3 w3 h2 h3 h5
            have hG : GoneP _ w.heap.size _ (m ++ [(x, y)]) v3 w3 := GoneP.grown h2 (by simp) (by rw [pts_append]; rfl) h3 h5
            have HG := Lib.hid hG
            clear h2 h3 h5 hG
            go_wp2_with fail
            go_roundw
            case rel => exact ⟨k + 1, m ++ [(x, y)], v3, hlt, by go_num, rfl, HG.out.own, by have := Hm.out; first | (simp; done) | (simp; omega), (below_drawnP HBW.out _).trans (HG.out.below (own_drawn HO.out _) (below_drawnP HBW.out _).size), Hyes.out⟩
            case measure => simp [intOf]; omega
    · obtain rfl : k = L0 := by omega
      rw [List.drop_of_length_le (by have := HL.out; omega)] at hs
      have e : m = M := hs.out
      subst e
      obtain ⟨a, c, hv, hc1, hc2, hP⟩ := HO.out.rd
      subst hv
      have HP := Lib.hid hP
      have HF := Lib.hid fun b e => (HO.out.lt b e).1
      have HT := HT0.out
      clear hs HM HO hP hm
      cases t
      · rw [if_neg (by decide)] at HT
        subst HT
        go_wp2_with fail
        refine wp_loop_rounds 1 ?_
        rw [rounds_succ]
        go_wp2_with fail
        go_quiet (fail)
        go_wp2_with fail
        go_ret
        exact ⟨_, rfl, ⟨_, _, rfl, hc1, hc2, HP.out⟩, below_drawnP HBW.out _, HF.out⟩
      · rw [if_pos rfl] at HT
        have HT := Lib.hid HT
        obtain ⟨W, hW⟩ : ∃ W, W = wr := ⟨_, rfl⟩
        rw [← hW] at HP HBW ⊢
        clear hW
        go_wp2_with fail
        go_loopw [5] (fun u X => ∃ (m : List P2) (a : Option Addr) (c f : Nat), u = .slice a m.length c ∧ m.length ≤ c ∧ c ≤ maxLen ∧ Hid (PAt W W.heap.size a m) ∧ Hid (trim f m = R) ∧ m.length ≤ f ∧ f ≤ 1000 ∧ Hid (Below W.heap.size W X) ∧ Hid (∀ b, (Value.slice a m.length c).ownBlock = some b → w.heap.size ≤ b)) (fun u _ => sliceLen u)
        case atStart => exact ⟨_, _, _, _, rfl, hc1, hc2, HP, HT, Nat.le_refl _, hlen, Below.refl _ _, HF⟩
        case round =>
          obtain ⟨m, a, c, f, rfl, h1, h2, hP, hT, hf, hf2, hbw, hfr⟩ := hrel
          by_cases hlt : 1 < m.length
          · obtain ⟨i, hi⟩ : ∃ i, i + 1 = m.length := ⟨m.length - 1, by omega⟩
            obtain ⟨f, rfl⟩ : ∃ g, f = g + 1 := ⟨f - 1, by omega⟩
            obtain ⟨b1, o1, rfl, e1, p0, p1⟩ := (hP.out.below hbw.out).at i (by omega)
            obtain ⟨b2, o2, e3, e2, q0, q1⟩ := (hP.out.below hbw.out).at 0 (by omega)
            injection e3 with e3
            injection e3 with e4 e5
            subst e4 e5
            simp only [Nat.zero_mul, Nat.add_zero] at q0 q1
            have ty := trim_yes f m i hi hlt
            have tn := trim_no f m i hi
            have hP2 := Lib.hid hP.out.init
            have hP0 := hP
            have hdl : m.dropLast.length = i := by simp; omega
            have hsl : sliceLen (.slice (some ⟨b1, o1, none⟩) m.length c) = i + 1 := hi.symm
            generalize m[i]'(by omega) = q at *
            generalize m[0]'(by omega) = p at *
            obtain ⟨x, y⟩ := q
            obtain ⟨x', y'⟩ := p
            simp only at p0 p1 q0 q1
            have Hty := Lib.hid ty
            have Htn := Lib.hid tn
            have Hdl := Lib.hid hdl
            obtain ⟨L, hL⟩ : ∃ L : Nat, m.length = L := ⟨_, rfl⟩
            have Hlen2 := Lib.hid hL
            rw [hL] at hi h1 hf hlt ⊢
            have n1 : decide ((1 : Int) < (L : Int)) = true := decide_eq_true (by omega)
            have n2 : IntKind.i64.wrap ((L : Int) - 1) = (i : Int) := by rw [IntWalk.i64_in _ ⟨by omega, by omega⟩]; omega
            have n3 : (i : Int) < (L : Int) := by omega
            have n4 : (0 : Int) ≤ (i : Int) := by omega
            have n5 : (0 : Int) < (L : Int) := by omega
            have n6 : i ≤ c := by omega
            have n7 : (i : Int) ≤ (c : Int) := by omega
            have Hi := Lib.hid hi
            have Hf := Lib.hid hf
            clear hi ty tn hdl hf hL hP
            by_cases e : x' = x ∧ y' = y
            · obtain ⟨rfl, rfl⟩ := e
              have Hty2 : Hid (trim f m.dropLast = R) := by
                show _ = _
                rw [← Hty.out rfl]; exact hT.out
              clear Hty Htn
              go_wp2_with fail
              go_quiet (fail)
              go_wp2_with fail
              go_roundw
              case rel => exact ⟨m.dropLast, _, c, f, by rw [Hdl.out], by rw [Hdl.out]; omega, h2, hP2, Hty2, by rw [Hdl.out]; have := Hf.out; have := Hi.out; omega, by omega, below_drawnP hbw.out _, hfr⟩
              case measure => have := Hi.out; simp [sliceLen]; omega
            · have Hans : Hid (m = R) := by
                show _ = _
                rw [← Htn.out (fun h => e (by injection h with a b; exact ⟨a, b⟩))]; exact hT.out
              have m0 : ∀ (P : Prop), (x' = x → y' = y → P) → True := fun _ _ => trivial
              by_cases ex : x' = x
              · have ey : ¬ y' = y := fun h => e ⟨ex, h⟩
                subst ex
                have m1 : ((y' : Int) == y) = false := beq_eq_false_iff_ne.mpr ey
                have m2 : ((y : Int) == y') = false := beq_eq_false_iff_ne.mpr (fun h => ey h.symm)
                clear e ey
                go_wp2_with fail
                go_quiet (fail)
                go_wp2_with fail
                go_ret
                exact ⟨_, rfl, ⟨some ⟨b1, o1, none⟩, c, by rw [← Hans.out, Hlen2.out]; rfl, by rw [← Hans.out, Hlen2.out]; omega, h2, by rw [← Hans.out]; exact (hP0.out.below (below_drawnP hbw.out _)).more (below_drawnP hbw.out _).size⟩, HBW.out.trans ((below_drawnP hbw.out _).mono HBW.out.size), hfr.out⟩
              · have m1 : ((x' : Int) == x) = false := beq_eq_false_iff_ne.mpr ex
                have m2 : ((x : Int) == x') = false := beq_eq_false_iff_ne.mpr (fun h => ex h.symm)
                clear e ex
                go_wp2_with fail
                go_quiet (fail)
                go_wp2_with fail
                go_ret
                exact ⟨_, rfl, ⟨some ⟨b1, o1, none⟩, c, by rw [← Hans.out, Hlen2.out]; rfl, by rw [← Hans.out, Hlen2.out]; omega, h2, by rw [← Hans.out]; exact (hP0.out.below (below_drawnP hbw.out _)).more (below_drawnP hbw.out _).size⟩, HBW.out.trans ((below_drawnP hbw.out _).mono HBW.out.size), hfr.out⟩
          · have e := hT.out
            rw [trim_short f m hlt] at e
            subst e
            have n1 : decide ((1 : Int) < (m.length : Int)) = false := decide_eq_false (by omega)
            go_wp2_with fail
            go_quiet (fail)
            go_wp2_with fail
            go_ret
            exact ⟨_, rfl, ⟨_, _, rfl, h1, h2, (hP.out.below (below_drawnP hbw.out _)).more (below_drawnP hbw.out _).size⟩, HBW.out.trans ((below_drawnP hbw.out _).mono HBW.out.size), hfr.out⟩
end Go.Proofs.Ytgfioofloaeecaa
