/- Pts RefParse -/
import Derived.Test.YtngnhkghpnamoaaGc02
import Derived.Outline
import Derived.Test.YtngnhkghpnamoaaRefFind
import Derived.Test.YtngnhkghpnamoaaGc06
namespace Go.Proofs.Ytngnhkghpnamoaa
open Go.RowKit
set_option linter.unusedVariables false
set_option maxRecDepth 100000

section
variable {P : Program} {w : World}
/-- append(s, u) where one element of several cells was just laid into a block of its own. -/
theorem app_rec {ops : Array Oper} {rest : List Oper} {o : Oper} {a : Act} {Q : Exit → Act → World → Prop} (hgd : o.guard = none) (s x : Operand) (t : TypeId)
    (ho : o.op = .call { callee := .builtin .append, args := #[s, x], argTypes := #[t, t] })
    (base : Nat) (e : TypeId) (i : TypeInfo) (z : Value) (size bytes : Nat) (ht : P.underlying t = some (.slice e)) (hi : P.info? e = some i) (hz : i.zero = some z)
    (hsize : i.size = size) (hby : i.bytes = bytes) (hzs : z.cells.size = size) (hsz : 0 < size)
    (v : Value) (n : Nat) (xs : List Value) (hs : a.eval s = v) (hown : w.ownsRow base e size v n xs)
    (us : List Value) (hu : us.length = size) (c : Nat) (hx : a.eval x = .slice (some ⟨w.heap.size, 0, none⟩) 1 c) (h1 : ∀ u ∈ us, u.oneCell' = true)
    (h63 : n + 1 ≤ maxLen) (hbytes : (n + 1) * bytes ≤ 140737488355328) (hbase : base ≤ w.heap.size)
    (h : ∀ v' w', w'.ownsRow base e size v' (n + 1) (xs ++ us) → w.grownBy w' v.ownBlock → (v'.ownBlock = v.ownBlock ∨ ∃ g, v'.ownBlock = some g ∧ w.heap.size ≤ g) → wpList P ops Q rest (a.put o.dst v') w') :
    wpList P ops Q (o :: rest) a (w.alloc (.cells us.toArray e)) := by
  refine app_vals hgd s x t ho base e i z size bytes ht hi hz hsize hby hzs hsz v n xs hs (hown.alloc _) ((w.alloc (.cells us.toArray e)).heap.size) _ 1 c us hx
    (Vals.of_block (xs := us) (heap_alloc_new w _) (by omega)) h1 h63 hbytes (by simp; omega) ?_
  intro v' w' h2 h3 h5
  refine h v' w' h2 ((World.grownBy_alloc w _ _).trans h3) ?_
  rcases h5 with h5 | h5
  · exact .inl h5
  · exact .inr ⟨_, h5, by simp⟩
end

abbrev P2 := Int × Int
def pts (l : List P2) : List Value := l.flatMap fun p => [.int .i64 p.1, .int .i64 p.2]
theorem ptinfo : (Try.prog.info? 84).map (fun i => (i.zero, i.size, i.bytes)) = some (some (.agg #[.int .i64 0, .int .i64 0]), 2, 16) := by kernel_rfl
theorem pts_length (l : List P2) : (pts l).length = l.length * 2 := by
  induction l with
  | nil => rfl
  | cons p l ih => simp only [pts, List.flatMap_cons, List.length_append, List.length_cons, List.length_nil] at ih ⊢; omega
theorem pts_append (l m : List P2) : pts (l ++ m) = pts l ++ pts m := by simp [pts]
theorem pts_one (l : List P2) : ∀ u ∈ pts l, u.oneCell' = true := by
  intro u hu
  simp only [pts, List.mem_flatMap] at hu
  obtain ⟨p, _, hp⟩ := hu
  simp at hp
  rcases hp with rfl | rfl <;> rfl
theorem pts_get : ∀ (l : List P2) (i : Nat) (h : i < l.length), (pts l)[i * 2]? = some (.int .i64 l[i].1) ∧ (pts l)[i * 2 + 1]? = some (.int .i64 l[i].2)
  | [], i, h => by simp at h
  | p :: l, 0, h => by simp [pts]
  | p :: l, i + 1, h => by
    have := pts_get l i (by simpa using h)
    have e1 : pts (p :: l) = .int .i64 p.1 :: .int .i64 p.2 :: pts l := by simp [pts]
    rw [e1, show (i + 1) * 2 = i * 2 + 1 + 1 by omega, show i * 2 + 1 + 1 + 1 = (i * 2 + 1) + 1 + 1 by omega]
    simpa using this

/-- v is a row of points of the call's own, and reads as l. -/
def OwnP (w : World) (base : Nat) (v : Value) (l : List P2) : Prop := w.ownsRow base 84 2 v l.length (pts l)
theorem OwnP.nil_ (w : World) (base : Nat) : OwnP w base (.slice none 0 0) [] := ⟨rfl, .inl ⟨rfl, rfl⟩⟩
theorem OwnP.only {S : Nat → Prop} {w w' : World} {base : Nat} {v : Value} {l : List P2} (h : OwnP w base v l) (ho : Only S w w') (hn : ∀ b, v.ownBlock = some b → ¬ S b) : OwnP w' base v l := own_only h ho hn
theorem OwnP.below {w w' : World} {base : Nat} {v : Value} {l : List P2} (h : OwnP w base v l) (hb : Below w.heap.size w w') : OwnP w' base v l :=
  h.only (Only.of_below hb (fun _ => False)) (fun _ _ h => h)
theorem OwnP.alloc {w : World} {base : Nat} {v : Value} {l : List P2} (h : OwnP w base v l) (o : Obj) : OwnP (w.alloc o) base v l := World.ownsRow.alloc h o
theorem OwnP.lt {w : World} {base : Nat} {v : Value} {l : List P2} (h : OwnP w base v l) : ∀ k, v.ownBlock = some k → base ≤ k ∧ k < w.heap.size := fun k hk => World.ownsRow.lt h k hk

structure GoneP (w : World) (base : Nat) (v : Value) (l : List P2) (v' : Value) (w' : World) : Prop where
  own : OwnP w' base v' l
  only : Only (fun k => v.ownBlock = some k) w w'
  at_ : v'.ownBlock = v.ownBlock ∨ ∃ k, v'.ownBlock = some k ∧ w.heap.size ≤ k
theorem GoneP.below {w w' : World} {base : Nat} {v v' : Value} {l m : List P2} (h : GoneP w base v l v' w') (hown : OwnP w base v m) (hB : base ≤ w.heap.size) : Below base w w' :=
  h.only.below (fun b hb e => by have := (hown.lt b e).1; omega) hB
theorem GoneP.grown {w w' : World} {base : Nat} {v v' : Value} {l : List P2} {n : Nat} {xs : List Value} (h : w'.ownsRow base 84 2 v' n xs) (hn : n = l.length) (hx : xs = pts l) (hg : w.grownBy w' v.ownBlock)
    (hat : v'.ownBlock = v.ownBlock ∨ ∃ g, v'.ownBlock = some g ∧ w.heap.size ≤ g) : GoneP w base v l v' w' := by
  subst hn hx
  exact ⟨h, Only.of_grown hg (fun b e => e), hat⟩

/-- The slice that begins at a reads as the points l. -/
def PAt (w : World) (B : Nat) (a : Option Addr) (l : List P2) : Prop := Vals w B 2 a l.length (pts l)
theorem PAt.at {w : World} {B : Nat} {a : Option Addr} {l : List P2} (h : PAt w B a l) (i : Nat) (hi : i < l.length) : ∃ b off, a = some ⟨b, off, none⟩ ∧ b < B ∧ w.cell? ⟨b, off + i * 2, none⟩ = some (.int .i64 l[i].1) ∧ w.cell? ⟨b, off + i * 2 + 1, none⟩ = some (.int .i64 l[i].2) := by
  have hl := h.1
  obtain ⟨b, off, rfl, hb, hc⟩ := h.2 (by omega)
  obtain ⟨g0, g1⟩ := pts_get l i hi
  refine ⟨b, off, rfl, hb, ?_, ?_⟩
  · rw [hc (i * 2) (by omega)]; exact g0
  · rw [Nat.add_assoc, hc (i * 2 + 1) (by omega)]; exact g1
theorem PAt.below {w w' : World} {B : Nat} {a : Option Addr} {l : List P2} (h : PAt w B a l) (hb : Below B w w') : PAt w' B a l := Vals.below h hb
theorem PAt.more {w : World} {B B' : Nat} {a : Option Addr} {l : List P2} (h : PAt w B a l) (hB : B ≤ B') : PAt w B' a l := Vals.more h hB
/-- v is a slice that reads as l. -/
def RdP (w : World) (B : Nat) (v : Value) (l : List P2) : Prop := ∃ a c, v = .slice a l.length c ∧ l.length ≤ c ∧ c ≤ maxLen ∧ PAt w B a l
theorem RdP.below {w w' : World} {B : Nat} {v : Value} {l : List P2} (h : RdP w B v l) (hb : Below B w w') : RdP w' B v l := by
  obtain ⟨a, c, h1, h2, h3, h4⟩ := h
  exact ⟨a, c, h1, h2, h3, h4.below hb⟩
theorem RdP.more {w : World} {B B' : Nat} {v : Value} {l : List P2} (h : RdP w B v l) (hB : B ≤ B') : RdP w B' v l := by
  obtain ⟨a, c, h1, h2, h3, h4⟩ := h
  exact ⟨a, c, h1, h2, h3, h4.more hB⟩
theorem OwnP.rd {w : World} {base : Nat} {v : Value} {l : List P2} (h : OwnP w base v l) : RdP w w.heap.size v l := by
  obtain ⟨a, c, h1, h2, h3, h4⟩ := Vals.of_own h
  exact ⟨a, c, h1, h2, h3, h4⟩

theorem below_drawnP {B : Nat} {w w' : World} (h : Below B w w') (n : Nat) : Below B w (w'.drewN n) := ⟨h.os, h.tape, h.output, h.size, h.block⟩

/-- What a call that makes points leaves. -/
def PtPost (w : World) (l : List P2) (e : Ending) (w' : World) : Prop := ∃ v, e = .returned v ∧ RdP w' w'.heap.size v l ∧ Below w.heap.size w w' ∧ ∀ b, v.ownBlock = some b → w.heap.size ≤ b

end Go.Proofs.Ytngnhkghpnamoaa

namespace Go.Proofs.Ytngnhkghpnamoaa
open Go.RowKit
set_option linter.unusedVariables false
set_option maxRecDepth 100000

theorem rfind_any (A : Option Addr) (c : Nat) (l : List Nat) (at' : Nat) (w : World) (hN : Nums .u8 w w.heap.size A l) (hl : l.length ≤ 1100000) (hat : at' ≤ l.length) :
    Calls Try.prog 56 #[.slice A l.length c, .int .i64 (at' : Int)] w (DFindPost w (findE l at')) := rfind_in A c l at' w hN hl hat
theorem rminfo : (Try.prog.info? 65).map (fun i => (i.zero, i.size, i.bytes)) = some (some (.agg #[.int .i64 0, .int .i64 0]), 2, 16) := by kernel_rfl
def p2s (l : List Mt) : List P2 := l.map fun x => ((x.1.1 : Int), (x.1.2 : Int))
theorem p2s_snoc (l : List Mt) (x : Mt) : p2s (l ++ [x]) = p2s l ++ [((x.1.1 : Int), (x.1.2 : Int))] := by simp [p2s]
theorem p2s_length (l : List Mt) : (p2s l).length = l.length := by simp [p2s]
/-- A row of matches of the call's own. -/
def OwnR (T : TypeId) (w : World) (base : Nat) (v : Value) (l : List Mt) : Prop := w.ownsRow base T 2 v l.length (pts (p2s l))
theorem OwnR.below {T : TypeId} {w w' : World} {base : Nat} {v : Value} {l : List Mt} (h : OwnR T w base v l) (hb : Below w.heap.size w w') : OwnR T w' base v l :=
  own_only h (Only.of_below hb (fun _ => False)) (fun _ _ q => q)
theorem OwnR.rd {T : TypeId} {w : World} {base : Nat} {v : Value} {l : List Mt} (h : OwnR T w base v l) : RdP w w.heap.size v (p2s l) := by
  obtain ⟨a, c, hv, h1, h2, h3⟩ := Vals.of_own (show w.ownsRow base T 2 v l.length (pts (p2s l)) from h)
  exact ⟨a, c, by rw [hv, p2s_length], by rw [p2s_length]; exact h1, h2, by unfold PAt; rw [p2s_length]; exact h3⟩
def ParsePost (w : World) (l : List Mt) (e : Ending) (w' : World) : Prop := ∃ v, e = .returned v ∧ RdP w' w'.heap.size v (p2s l) ∧ Below w.heap.size w w' ∧ ∀ b, v.ownBlock = some b → w.heap.size ≤ b
set_option maxHeartbeats 8000000 in
theorem rparse_any (A : Option Addr) (c : Nat) (l : List Nat) (w : World) (hb : Bytes255 l) (hN : Nums .u8 w w.heap.size A l) (hl : l.length ≤ 100000) :
    Calls Try.prog 31 #[.slice A l.length c] w (ParsePost w (parseE hb)) := by
  obtain ⟨i1, hi1, hy0, hy1, hy2⟩ := info_parts rminfo
  obtain ⟨L, hL⟩ : ∃ L, L = l.length := ⟨_, rfl⟩
  have HL := Lib.hid hL
  have HN := Lib.hid hN
  have HF := Lib.hid fun (at' : Nat) (X : World) (h : Below w.heap.size w X) (hat : at' ≤ l.length) => rfind_any A c l at' X ((hN.below h).more h.size) (by omega) hat
  rw [← hL] at hl HF ⊢
  clear hN hL
  go_enter Try.func31, Try.ntmps31
  go_wp2_with fail
  go_loopw [3, 4] (fun v d W => ∃ (k : Nat) (pre : List Mt), d = .int .i64 (k : Int) ∧ k ≤ L ∧ Hid (Prt hb pre k) ∧ Hid (OwnR 65 W w.heap.size v pre) ∧ Hid (Below w.heap.size w W)) (fun _ d _ => L - (intOf d).toNat)
  case atStart => exact ⟨0, [], rfl, Nat.zero_le _, Prt.start hb, ⟨rfl, .inl ⟨rfl, rfl⟩⟩, Below.refl _ _⟩
  case round =>
    obtain ⟨k, pre, rfl, hk, HP, HO, HB⟩ := hrel
    by_cases hlt : k < L
    · have d1 : decide ((k : Int) < (L : Int)) = true := decide_eq_true (by omega)
      have d1b : decide (k < L) = true := decide_eq_true hlt
      obtain ⟨⟨r1, r2⟩, hr⟩ : ∃ r, findE l k = r := ⟨_, rfl⟩
      have HFk := Lib.hid (HF.out k wr HB.out hk)
      rw [hr] at HFk
      have HRe := Lib.hid hr
      have HPn := Lib.hid (HP.out.next (by rw [← HL.out]; exact hlt))
      have hle : k + stepM (matchP l k) ≤ L := by rw [HL.out]; exact stepM_in (by rw [← HL.out]; exact hlt)
      have Hpl : Hid (pre.length ≤ k) := by obtain ⟨f, _, _, h3, _⟩ := HP.out; exact h3
      go_wp2_with fail
      refine HFk.out.mono ?_
      rintro e X ⟨rfl, hX⟩
      have HX := Lib.hid hX
      have HBX : Hid (Below w.heap.size w X) := HB.out.trans (hX.mono HB.out.size)
      have HOX : Hid (OwnR 65 X w.heap.size u3 pre) := HO.out.below hX
      clear hX
      simp only [mcs]
      have HB1 : Hid (Below w.heap.size w (X.alloc (.cells #[.int .i64 (r1 : Int), .int .i64 (r2 : Int)] 65))) := HBX.out.alloc HBX.out.size _
      have HO1 : Hid (OwnR 65 (X.alloc (.cells #[.int .i64 (r1 : Int), .int .i64 (r2 : Int)] 65)) w.heap.size u3 pre) := HOX.out.below ((Below.refl _ _).alloc (Nat.le_refl _) _)
      have HEn : Hid (∀ (W : World) (v' : Value) (q1 q2 : Int), ((matchP l k).1 : Int) = q1 → ((matchP l k).2 : Int) = q2 → W.ownsRow w.heap.size 65 2 v' (pre.length + 1) (pts (p2s pre) ++ [.int .i64 q1, .int .i64 q2]) → OwnR 65 W w.heap.size v' (pre ++ [matchAt hb k])) := by
        intro W v' q1 q2 e1 e2 h
        show W.ownsRow _ _ _ _ _ _
        rw [p2s_snoc, pts_append, List.length_append]
        have e3 : pts [(((matchAt hb k).1.1 : Int), ((matchAt hb k).1.2 : Int))] = [.int .i64 q1, .int .i64 q2] := by rw [← e1, ← e2]; rfl
        rw [e3]
        exact h
      have hne : some X.heap.size ≠ u3.ownBlock := fun q => by have := (World.ownsRow.lt (show X.ownsRow _ _ _ _ _ _ from HOX.out) _ q.symm).2; omega
      by_cases h0 : r1 = 0
      · subst h0
        obtain ⟨b, off, rfl, hbn, x0⟩ := HN.out.byte (i := k) (by rw [← HL.out]; exact hlt)
        have x0 := (HBX.out.cell (p := ⟨b, off + k, none⟩) hbn).trans x0
        obtain ⟨y, hy⟩ : ∃ y, y = l.getD k 0 := ⟨_, rfl⟩
        rw [← hy] at x0
        have hy255 : y ≤ 255 := by rw [hy]; exact hb k
        have hq : matchP l k = (0, y) := by unfold matchP; rw [HRe.out, if_pos rfl, hy]
        have hst : stepM (matchP l k) = 1 := by rw [hq]; rfl
        rw [hst] at hle HPn
        have HEn2 := Lib.hid fun W v' h => HEn.out W v' 0 (y : Int) (by rw [hq]; rfl) (by rw [hq]) h
        have hk0 : (0 : Int) ≤ (k : Int) := by omega
        have hk1 : (k : Int) < (L : Int) := by omega
        have hbX : b < X.heap.size := by have := HBX.out.size; omega
        have hbX2 : b ≠ X.heap.size := by omega
        clear hq hst hy
        have hown : (X.alloc (.cells #[.int .i64 0, .int .i64 (r2 : Int)] 65)).ownsRow w.heap.size 65 2 u3 pre.length (pts (p2s pre)) := HO1.out
        have hB1s : w.heap.size ≤ (X.alloc (.cells #[.int .i64 0, .int .i64 (r2 : Int)] 65)).heap.size := HB1.out.size
        go_wp2_with (at_builtin; go_must (refine app_rec rfl (.tmp 16) (.tmp 23) 62 rfl w.heap.size 65 i1 _ 2 16 Try.underlying62 hi1 hy0 hy1 hy2 rfl (by decide) u3 _ _ rfl hown [.int .i64 0, .int .i64 (y : Int)] rfl 1 (by simp [Act.eval]) (pts_one [(0, (y : Int))]) (by have := Hpl.out; unfold maxLen; omega) (by have := Hpl.out; omega) hB1s ?_); intro v' w' hown' hg hat; have m0 := hg.cell ((Whole.new X 65 #[.int .i64 0, .int .i64 (r2 : Int)]).cell 0) hne)
        have HO2 : Hid (OwnR 65 w' w.heap.size v' (pre ++ [matchAt hb k])) := HEn2.out w' v' hown'
        have HB2 : Hid (Below w.heap.size w w') := below_of_grown HB1.out HO1.out hg HB1.out.size
        clear hown' hg hat hown hB1s
        go_wp2_with fail
        go_roundw
        case rel => exact ⟨k + 1, _, by go_num, hle, HPn.out, HO2.out, HB2.out⟩
        case measure => simp [intOf]; omega
      · have d2 : ((r1 : Int) == 0) = false := beq_eq_false_iff_ne.mpr (by omega)
        have hq : matchP l k = (r1, r2) := by unfold matchP; rw [HRe.out, if_neg h0]
        have hst : stepM (matchP l k) = r1 := by rw [hq]; unfold stepM; rw [if_neg h0]
        rw [hst] at hle HPn
        have hr1 : 1 ≤ r1 := by omega
        have HEn2 := Lib.hid fun W v' h => HEn.out W v' (r1 : Int) (r2 : Int) (by rw [hq]) (by rw [hq]) h
        clear hq hst h0
        have hown : (X.alloc (.cells #[.int .i64 (r1 : Int), .int .i64 (r2 : Int)] 65)).ownsRow w.heap.size 65 2 u3 pre.length (pts (p2s pre)) := HO1.out
        have hB1s : w.heap.size ≤ (X.alloc (.cells #[.int .i64 (r1 : Int), .int .i64 (r2 : Int)] 65)).heap.size := HB1.out.size
        go_wp2_with (at_builtin; go_must (refine app_rec rfl (.tmp 27) (.tmp 29) 62 rfl w.heap.size 65 i1 _ 2 16 Try.underlying62 hi1 hy0 hy1 hy2 rfl (by decide) u3 _ _ rfl hown [.int .i64 (r1 : Int), .int .i64 (r2 : Int)] rfl 1 (by simp [Act.eval]) (pts_one [((r1 : Int), (r2 : Int))]) (by have := Hpl.out; unfold maxLen; omega) (by have := Hpl.out; omega) hB1s ?_); intro v' w' hown' hg hat; have m0 := hg.cell ((Whole.new X 65 #[.int .i64 (r1 : Int), .int .i64 (r2 : Int)]).cell 0) hne)
        have HO2 : Hid (OwnR 65 w' w.heap.size v' (pre ++ [matchAt hb k])) := HEn2.out w' v' hown'
        have HB2 : Hid (Below w.heap.size w w') := below_of_grown HB1.out HO1.out hg HB1.out.size
        clear hown' hg hat hown hB1s
        go_wp2_with fail
        go_roundw
        case rel => exact ⟨k + r1, _, by go_num, hle, HPn.out, HO2.out, HB2.out⟩
        case measure => simp [intOf]; omega
    · have d1 : decide ((k : Int) < (L : Int)) = false := decide_eq_false (by omega)
      have d1b : decide (k < L) = false := decide_eq_false hlt
      have hpre := HP.out.done (by rw [← HL.out]; exact hlt)
      subst hpre
      clear hlt
      go_wp2_with fail
      go_ret
      exact ⟨_, rfl, HO.out.rd, HB.out, fun b h => (World.ownsRow.lt (show wr.ownsRow _ _ _ _ _ _ from HO.out) b h).1⟩
end Go.Proofs.Ytngnhkghpnamoaa
