/- Layer 5: the reference's Parse. -/
import Derived.Test.YtmheafadahdbfaaRefFind
import Derived.Test.YtmheafadahdbfaaParMath
import Derived.Test.YtmheafadahdbfaaPts
namespace Go.Proofs.Ytmheafadahdbfaa
open Go.RowKit
set_option linter.unusedVariables false
set_option maxRecDepth 100000

theorem rfind_any (A : Option Addr) (c : Nat) (l : List Nat) (at' : Nat) (w : World) (hN : Nums .u8 w w.heap.size A l) (hl : l.length ≤ 1100000) (hat : at' ≤ l.length) :
    Calls Try.prog 16 #[.slice A l.length c, .int .i64 (at' : Int)] w (DFindPost w (findE l at')) := rfind_in A c l at' w hN hl hat
theorem rminfo : (Try.prog.info? 36).map (fun i => (i.zero, i.size, i.bytes)) = some (some (.agg #[.int .i64 0, .int .i64 0]), 2, 16) := by kernel_rfl
def p2s (l : List Mt) : List P2 := l.map fun x => ((x.1.1 : Int), (x.1.2 : Int))
theorem p2s_snoc (l : List Mt) (x : Mt) : p2s (l ++ [x]) = p2s l ++ [((x.1.1 : Int), (x.1.2 : Int))] := by simp [p2s]
theorem p2s_length (l : List Mt) : (p2s l).length = l.length := by simp [p2s]
/-- A row of matches of the call's own. -/
def OwnR (T : TypeId) (w : World) (base : Nat) (v : Value) (l : List Mt) : Prop := w.ownsRow base T 2 v l.length (pts (p2s l))
theorem OwnR.below {T : TypeId} {w w' : World} {base : Nat} {v : Value} {l : List Mt} (h : OwnR T w base v l) (hb : Below w.heap.size w w') : OwnR T w' base v l :=
  own_only h (Only.of_below hb (fun _ => False)) (fun _ _ q => q)
theorem OwnR.rd {T : TypeId} {w : World} {base : Nat} {v : Value} {l : List Mt} (h : OwnR T w base v l) : RdP w w.heap.size v (p2s l) := by
  obtain ⟨a, c, hv, h1, h2, h3⟩ := Vals.of_own (show w.ownsRow base T 2 v l.length (pts (p2s l)) from h)
  exact ⟨a, c, by rw [hv, p2s_length], by rw [p2s_length]; exact h1, h2, by unfold PAt; rw [p2s_length]; exact h3⟩
def ParsePost (w : World) (l : List Mt) (e : Ending) (w' : World) : Prop := ∃ v, e = .returned v ∧ RdP w' w'.heap.size v (p2s l) ∧ Below w.heap.size w w' ∧ ∀ b, v.ownBlock = some b → w.heap.size ≤ b
set_option maxHeartbeats 8000000 in
theorem rparse_any (A : Option Addr) (c : Nat) (l : List Nat) (w : World) (hb : Bytes255 l) (hN : Nums .u8 w w.heap.size A l) (hl : l.length ≤ 100000) :
    Calls Try.prog 14 #[.slice A l.length c] w (ParsePost w (parseE hb)) := by
  obtain ⟨i1, hi1, hy0, hy1, hy2⟩ := info_parts rminfo
  obtain ⟨L, hL⟩ : ∃ L, L = l.length := ⟨_, rfl⟩
  have HL := Lib.hid hL
  have HN := Lib.hid hN
  have HF := Lib.hid fun (at' : Nat) (X : World) (h : Below w.heap.size w X) (hat : at' ≤ l.length) => rfind_any A c l at' X ((hN.below h).more h.size) (by omega) hat
  rw [← hL] at hl HF ⊢
  clear hN hL
  go_enter Try.func14, Try.ntmps14
  go_wp2_with fail
  go_loopw [3, 4] (fun v d W => ∃ (k : Nat) (pre : List Mt), d = .int .i64 (k : Int) ∧ k ≤ L ∧ Hid (Prt hb pre k) ∧ Hid (OwnR 36 W w.heap.size v pre) ∧ Hid (Below w.heap.size w W)) (fun _ d _ => L - (intOf d).toNat)
  case atStart => exact ⟨0, [], rfl, Nat.zero_le _, Prt.start hb, ⟨rfl, .inl ⟨rfl, rfl⟩⟩, Below.refl _ _⟩
  case round =>
    obtain ⟨k, pre, rfl, hk, HP, HO, HB⟩ := hrel
    by_cases hlt : k < L
    · have d1 : decide ((k : Int) < (L : Int)) = true := decide_eq_true (by omega)
      have d1b : decide (k < L) = true := decide_eq_true hlt
      obtain ⟨⟨r1, r2⟩, hr⟩ : ∃ r, findE l k = r := ⟨_, rfl⟩
      have HFk := Lib.hid (HF.out k wr HB.out hk)
      rw [hr] at HFk
      have HRe := Lib.hid hr
      have HPn := Lib.hid (HP.out.next (by rw [← HL.out]; exact hlt))
      have hle : k + stepM (matchP l k) ≤ L := by rw [HL.out]; exact stepM_in (by rw [← HL.out]; exact hlt)
      have Hpl : Hid (pre.length ≤ k) := by obtain ⟨f, _, _, h3, _⟩ := HP.out; exact h3
      go_wp2_with fail
      refine HFk.out.mono ?_
      rintro e X ⟨rfl, hX⟩
      have HX := Lib.hid hX
      have HBX : Hid (Below w.heap.size w X) := HB.out.trans (hX.mono HB.out.size)
      have HOX : Hid (OwnR 36 X w.heap.size u3 pre) := HO.out.below hX
      clear hX
      simp only [mcs]
      have HB1 : Hid (Below w.heap.size w (X.alloc (.cells #[.int .i64 (r1 : Int), .int .i64 (r2 : Int)] 36))) := HBX.out.alloc HBX.out.size _
      have HO1 : Hid (OwnR 36 (X.alloc (.cells #[.int .i64 (r1 : Int), .int .i64 (r2 : Int)] 36)) w.heap.size u3 pre) := HOX.out.below ((Below.refl _ _).alloc (Nat.le_refl _) _)
      have HEn : Hid (∀ (W : World) (v' : Value) (q1 q2 : Int), ((matchP l k).1 : Int) = q1 → ((matchP l k).2 : Int) = q2 → W.ownsRow w.heap.size 36 2 v' (pre.length + 1) (pts (p2s pre) ++ [.int .i64 q1, .int .i64 q2]) → OwnR 36 W w.heap.size v' (pre ++ [matchAt hb k])) := by
        intro W v' q1 q2 e1 e2 h
        show W.ownsRow _ _ _ _ _ _
        rw [p2s_snoc, pts_append, List.length_append]
        have e3 : pts [(((matchAt hb k).1.1 : Int), ((matchAt hb k).1.2 : Int))] = [.int .i64 q1, .int .i64 q2] := by rw [← e1, ← e2]; rfl
        rw [e3]
        exact h
      have hne : some X.heap.size ≠ u3.ownBlock := fun q => by have := (World.ownsRow.lt (show X.ownsRow _ _ _ _ _ _ from HOX.out) _ q.symm).2; omega
      by_cases h0 : r1 = 0
      · subst h0
        obtain ⟨b, off, rfl, hbn, x0⟩ := HN.out.byte (i := k) (by rw [← HL.out]; exact hlt)
        have x0 := (HBX.out.cell (p := ⟨b, off + k, none⟩) hbn).trans x0
        obtain ⟨y, hy⟩ : ∃ y, y = l.getD k 0 := ⟨_, rfl⟩
        rw [← hy] at x0
        have hy255 : y ≤ 255 := by rw [hy]; exact hb k
        have hq : matchP l k = (0, y) := by unfold matchP; rw [HRe.out, if_pos rfl, hy]
        have hst : stepM (matchP l k) = 1 := by rw [hq]; rfl
        rw [hst] at hle HPn
        have HEn2 := Lib.hid fun W v' h => HEn.out W v' 0 (y : Int) (by rw [hq]; rfl) (by rw [hq]) h
        have hk0 : (0 : Int) ≤ (k : Int) := by omega
        have hk1 : (k : Int) < (L : Int) := by omega
        have hbX : b < X.heap.size := by have := HBX.out.size; omega
        have hbX2 : b ≠ X.heap.size := by omega
        clear hq hst hy
        have hown : (X.alloc (.cells #[.int .i64 0, .int .i64 (r2 : Int)] 36)).ownsRow w.heap.size 36 2 u3 pre.length (pts (p2s pre)) := HO1.out
        have hB1s : w.heap.size ≤ (X.alloc (.cells #[.int .i64 0, .int .i64 (r2 : Int)] 36)).heap.size := HB1.out.size
        go_wp2_with (at_builtin; go_must (refine app_rec rfl (.tmp 16) (.tmp 23) 32 rfl w.heap.size 36 i1 _ 2 16 Try.underlying32 hi1 hy0 hy1 hy2 rfl (by decide) u3 _ _ rfl hown [.int .i64 0, .int .i64 (y : Int)] rfl 1 (by simp [Act.eval]) (pts_one [(0, (y : Int))]) (by have := Hpl.out; unfold maxLen; omega) (by have := Hpl.out; omega) hB1s ?_); intro v' w' hown' hg hat; have m0 := hg.cell ((Whole.new X 36 #[.int .i64 0, .int .i64 (r2 : Int)]).cell 0) hne)
        have HO2 : Hid (OwnR 36 w' w.heap.size v' (pre ++ [matchAt hb k])) := HEn2.out w' v' hown'
        have HB2 : Hid (Below w.heap.size w w') := below_of_grown HB1.out HO1.out hg HB1.out.size
        clear hown' hg hat hown hB1s
        go_wp2_with fail
        go_roundw
        case rel => exact ⟨k + 1, _, by go_num, hle, HPn.out, HO2.out, HB2.out⟩
        case measure => simp [intOf]; omega
      · have d2 : ((r1 : Int) == 0) = false := beq_eq_false_iff_ne.mpr (by omega)
        have hq : matchP l k = (r1, r2) := by unfold matchP; rw [HRe.out, if_neg h0]
        have hst : stepM (matchP l k) = r1 := by rw [hq]; unfold stepM; rw [if_neg h0]
        rw [hst] at hle HPn
        have hr1 : 1 ≤ r1 := by omega
        have HEn2 := Lib.hid fun W v' h => HEn.out W v' (r1 : Int) (r2 : Int) (by rw [hq]) (by rw [hq]) h
        clear hq hst h0
        have hown : (X.alloc (.cells #[.int .i64 (r1 : Int), .int .i64 (r2 : Int)] 36)).ownsRow w.heap.size 36 2 u3 pre.length (pts (p2s pre)) := HO1.out
        have hB1s : w.heap.size ≤ (X.alloc (.cells #[.int .i64 (r1 : Int), .int .i64 (r2 : Int)] 36)).heap.size := HB1.out.size
        go_wp2_with (at_builtin; go_must (refine app_rec rfl (.tmp 27) (.tmp 29) 32 rfl w.heap.size 36 i1 _ 2 16 Try.underlying32 hi1 hy0 hy1 hy2 rfl (by decide) u3 _ _ rfl hown [.int .i64 (r1 : Int), .int .i64 (r2 : Int)] rfl 1 (by simp [Act.eval]) (pts_one [((r1 : Int), (r2 : Int))]) (by have := Hpl.out; unfold maxLen; omega) (by have := Hpl.out; omega) hB1s ?_); intro v' w' hown' hg hat; have m0 := hg.cell ((Whole.new X 36 #[.int .i64 (r1 : Int), .int .i64 (r2 : Int)]).cell 0) hne)
        have HO2 : Hid (OwnR 36 w' w.heap.size v' (pre ++ [matchAt hb k])) := HEn2.out w' v' hown'
        have HB2 : Hid (Below w.heap.size w w') := below_of_grown HB1.out HO1.out hg HB1.out.size
        clear hown' hg hat hown hB1s
        go_wp2_with fail
        go_roundw
        case rel => exact ⟨k + r1, _, by go_num, hle, HPn.out, HO2.out, HB2.out⟩
        case measure => simp [intOf]; omega
    · have d1 : decide ((k : Int) < (L : Int)) = false := decide_eq_false (by omega)
      have d1b : decide (k < L) = false := decide_eq_false hlt
      have hpre := HP.out.done (by rw [← HL.out]; exact hlt)
      subst hpre
      clear hlt
      go_wp2_with fail
      go_ret
      exact ⟨_, rfl, HO.out.rd, HB.out, fun b h => (World.ownsRow.lt (show wr.ownsRow _ _ _ _ _ _ from HO.out) b h).1⟩
end Go.Proofs.Ytmheafadahdbfaa
