/- Walks over layer 12: the reference's Get. -/
import Derived.Test.YtaafcmgkmdbefaaDirGetPost
import Derived.Test.YtaafcmgkmdbefaaU64
import Derived.BigRegion
namespace Go.Proofs.Ytaafcmgkmdbefaa
open Go.RowKit Var
set_option linter.unusedVariables false
set_option maxRecDepth 100000

section
variable {P : Program} {w : World}
/-- append(s, u) where one element of several cells was just laid into a block of its own. -/
theorem app_rec {ops : Array Oper} {rest : List Oper} {o : Oper} {a : Act} {Q : Exit → Act → World → Prop} (hgd : o.guard = none) (s x : Operand) (t : TypeId)
    (ho : o.op = .call { callee := .builtin .append, args := #[s, x], argTypes := #[t, t] })
    (base : Nat) (e : TypeId) (i : TypeInfo) (z : Value) (size bytes : Nat) (ht : P.underlying t = some (.slice e)) (hi : P.info? e = some i) (hz : i.zero = some z)
    (hsize : i.size = size) (hby : i.bytes = bytes) (hzs : z.cells.size = size) (hsz : 0 < size)
    (v : Value) (n : Nat) (xs : List Value) (hs : a.eval s = v) (hown : w.ownsRow base e size v n xs)
    (us : List Value) (hu : us.length = size) (c : Nat) (hx : a.eval x = .slice (some ⟨w.heap.size, 0, none⟩) 1 c) (h1 : ∀ u ∈ us, u.oneCell' = true)
    (h63 : n + 1 ≤ maxLen) (hbytes : (n + 1) * bytes ≤ 140737488355328) (hbase : base ≤ w.heap.size)
    (h : ∀ v' w', w'.ownsRow base e size v' (n + 1) (xs ++ us) → w.grownBy w' v.ownBlock → (v'.ownBlock = v.ownBlock ∨ ∃ g, v'.ownBlock = some g ∧ w.heap.size ≤ g) → wpList P ops Q rest (a.put o.dst v') w') :
    wpList P ops Q (o :: rest) a (w.alloc (.cells us.toArray e)) := by
  refine app_vals hgd s x t ho base e i z size bytes ht hi hz hsize hby hzs hsz v n xs hs (hown.alloc _) ((w.alloc (.cells us.toArray e)).heap.size) _ 1 c us hx
    (Vals.of_block (xs := us) (heap_alloc_new w _) (by omega)) h1 h63 hbytes (by simp; omega) ?_
  intro v' w' h2 h3 h5
  refine h v' w' h2 ((World.grownBy_alloc w _ _).trans h3) ?_
  rcases h5 with h5 | h5
  · exact .inl h5
  · exact .inr ⟨_, h5, by simp⟩
end

theorem only_drew {S : Nat → Prop} {w w' : World} (h : Only S w w') : Only S w w'.drew := ⟨h.os, h.tape, h.output, h.size, h.block⟩
theorem below_only {B : Nat} {w X Y : World} {S : Nat → Prop} (h : Below B w X) (hB : B ≤ X.heap.size) (o : Only S X Y) (hS : ∀ k, k < B → ¬ S k) : Below B w Y := h.trans (o.below (fun k hk e => hS k hk e) hB)
theorem own_blk {w : World} {base : Nat} {b o n c : Nat} {l : List En} (h : OwnE w base (.slice (some ⟨b, o, none⟩) n c) l) {k : Nat} (hk : (Value.slice (some ⟨b, o, none⟩) n c).ownBlock = some k) : k = b := by
  injection hk with hk; exact hk.symm
theorem enAt_ok {l : List Nat} {p0 n : Nat} (h : ∀ p : Nat, (vres l (p : Nat)).1 < 18446744073709551616) (j : Nat) : (enAt l p0 n j).ok := by
  have hv : ∀ t, vAt l p0 t < 18446744073709551616 := fun t => h _
  refine ⟨?_, ?_, hv _, hv _⟩
  · cases j with
    | zero => exact hv 0
    | succ j => exact Nat.mod_lt _ (by omega)
  · cases j with
    | zero => show vAt l p0 (3 * n) - 1 < _; have := hv (3 * n); omega
    | succ j =>
      show (if vAt l p0 (3 * n + (j + 1)) = 0 then (offAt l p0 n j + vAt l p0 (2 * n + j)) % 18446744073709551616 else vAt l p0 (3 * n + (j + 1)) - 1) < _
      have := hv (3 * n + (j + 1))
      split
      · exact Nat.mod_lt _ (by omega)
      · omega
theorem ents_snoc (l : List En) (a b c d : Nat) : ents (l ++ [⟨a, b, c, d⟩]) = ents l ++ [.int .u64 (a : Int), .int .u64 (b : Int), .int .u64 (c : Int), .int .u64 (d : Int)] := by rw [ents_append]; rfl
def CutR (l : List Nat) (p0 n i : Nat) (W3 : World) (gx : Nat) (al : Option Addr) (cl : Nat) (W : World) : Prop :=
  ∃ (D F v2 vr : Nat), enAt l p0 n i = ⟨D, F, v2, vr⟩ ∧ Whole W gx 39 #[.int .u64 (D : Int), .int .u64 (F : Int), .int .u64 (v2 : Int), .int .u64 (vr : Int)] ∧ Below W3.heap.size W3 W ∧ OwnE W W3.heap.size (.slice al i cl) ((List.range i).map (enAt l p0 n))
theorem vs_next (l : List Nat) (p0 i : Nat) : (List.range i).map (vAt l p0) ++ [vAt l p0 i] = (List.range (i + 1)).map (vAt l p0) := by simp [List.range_succ]
theorem es_next (l : List Nat) (p0 n i : Nat) : (List.range i).map (enAt l p0 n) ++ [enAt l p0 n i] = (List.range (i + 1)).map (enAt l p0 n) := by simp [List.range_succ]
theorem below_drew1 {B : Nat} {w w' : World} (h : Below B w w') : Below B w w'.drew := ⟨h.os, h.tape, h.output, h.size, h.block⟩
theorem idAt_next (l : List Nat) (p0 i k : Nat) (h : i = k + 1) : idAt l p0 i = (vAt l p0 i + idAt l p0 k) % 18446744073709551616 := by subst h; show (idAt l p0 k + vAt l p0 (k + 1)) % _ = _; rw [Nat.add_comm]
theorem offAt_next (l : List Nat) (p0 n i k : Nat) (h : i = k + 1) : offAt l p0 n i = if vAt l p0 (3 * n + i) = 0 then (offAt l p0 n k + vAt l p0 (2 * n + k)) % 18446744073709551616 else vAt l p0 (3 * n + i) - 1 := by subst h; rfl
theorem fst_bad {l : List Nat} {p0 n E i : Nat} (h : fstE l p0 n (4 * n - i) i = E) (hi : i < 4 * n) (hb : badE l p0 n i ≠ 0) : badE l p0 n i = E := by
  obtain ⟨c, hc⟩ : ∃ c, 4 * n - i = c + 1 := ⟨4 * n - i - 1, by omega⟩
  rw [hc] at h
  have h2 : (if badE l p0 n i ≠ 0 then badE l p0 n i else fstE l p0 n c (i + 1)) = E := h
  rwa [if_pos hb] at h2
theorem fst_good {l : List Nat} {p0 n E i : Nat} (h : fstE l p0 n (4 * n - i) i = E) (hi : i < 4 * n) (hb : badE l p0 n i = 0) : fstE l p0 n (4 * n - (i + 1)) (i + 1) = E := by
  obtain ⟨c, hc⟩ : ∃ c, 4 * n - i = c + 1 := ⟨4 * n - i - 1, by omega⟩
  rw [hc] at h
  have h2 : (if badE l p0 n i ≠ 0 then badE l p0 n i else fstE l p0 n c (i + 1)) = E := h
  rw [if_neg (by simp [hb])] at h2
  rwa [show 4 * n - (i + 1) = c by omega]

theorem fst_all0 (l : List Nat) (p0 n : Nat) : ∀ c t, fstE l p0 n c t = 0 → ∀ s, t ≤ s → s < t + c → badE l p0 n s = 0
  | 0, _, _, _, _, _ => by omega
  | c + 1, t, h, s, h1, h2 => by
    have h0 : (if badE l p0 n t ≠ 0 then badE l p0 n t else fstE l p0 n c (t + 1)) = 0 := h
    by_cases hb : badE l p0 n t = 0
    · rw [if_neg (by simp [hb])] at h0
      by_cases hs : s = t
      · rw [hs]; exact hb
      · exact fst_all0 l p0 n c (t + 1) h0 s (by omega) (by omega)
    · rw [if_pos hb] at h0; exact absurd h0 hb

set_option maxHeartbeats 16000000 in
theorem refGet_any (A : Option Addr) (c : Nat) (l : List Nat) (w : World) (hN : Nums .u8 w w.heap.size A l) (hb : ∀ x ∈ l, x < 256) (hl : l.length ≤ 100000) (R : List En × Nat) (hR : getE l = R) :
    Calls Try.prog 15 #[.slice A l.length c] w (GetPost w R) := by
  obtain ⟨i0, hi0, hz0, hz1, hz2⟩ := info_parts u64info
  obtain ⟨i1, hi1, hy0, hy1, hy2⟩ := info_parts eninfo
  obtain ⟨L, hL⟩ : ∃ L, L = l.length := ⟨_, rfl⟩
  have HV : Hid (∀ (W : World) (p : Nat), Below w.heap.size w W → Calls Try.prog 24 #[.slice A L c, .int .i64 (p : Int)] W (Three (vres l (p : Nat)).1 (vres l (p : Nat)).2.1 (vres l (p : Nat)).2.2 W)) := fun W p h => by
    rw [hL]
    exact refVarint_any A l c p W (cells8 ((hN.below h).more h.size) hb) (by omega)
  have Hlt : Hid (∀ p : Nat, (vres l (p : Nat)).1 < 18446744073709551616) := fun p => vres_lt l p hb
  have HR := Lib.hid hR
  have HL := Lib.hid hL
  rw [← hL] at hl ⊢
  clear hN hb hR hL
  have HV0 := Lib.hid (HV.out w 0 (Below.refl _ _))
  have hn64 := Hlt.out 0
  have hn0 := vres_zero l (0 : Nat)
  have hRe := HR.out
  unfold getE at hRe
  rw [show (0 : Int) = ((0 : Nat) : Int) from rfl] at hRe
  generalize vres l (0 : Nat) = r at *
  obtain ⟨n, p0, e0⟩ := r
  simp only at HV0 hn64 hn0 hRe
  go_enter Try.func15, Try.ntmps15
  by_cases he0 : e0 = 0
  · subst he0
    have z1 : ((0 : Int) != 0) = false := rfl
    by_cases hbig : 65536 < n
    · have d1 : decide ((65536 : Int) < (n : Int)) = true := decide_eq_true (by omega)
      rw [if_neg (by simp), if_pos hbig] at hRe
      subst hRe
      clear hbig hn0 hn64
      go_wp2_with fail
      refine HV0.out.mono ?_
      rintro e X ⟨rfl, rfl⟩
      go_wp2_with fail
      go_ret2
      exact ⟨_, rfl, rde_nil _ _, Below.refl _ _⟩
    · have d1 : decide ((65536 : Int) < (n : Int)) = false := decide_eq_false (by omega)
      have w0 : IntKind.i64.wrap (n : Int) = (n : Int) := IntWalk.i64_in _ ⟨by omega, by omega⟩
      have hn6 : n ≤ 65536 := by omega
      have Hn : Hid (n ≤ 65536) := hn6
      obtain ⟨E, hE⟩ : ∃ E, fstE l p0 n (4 * n) 0 = E := ⟨_, rfl⟩
      have HI0 : Hid (fstE l p0 n (4 * n - 0) 0 = E) := hE
      have HRe : Hid ((if E ≠ 0 then ([], E) else if pAt l p0 (4 * n) < l.length ∨ rightE (outE l p0 n) = false then ([], 3) else (outE l p0 n, 0)) = R) := by
        show _ = _
        rw [if_neg (by simp), if_neg hbig, hE] at hRe
        exact hRe
      have Hfst : Hid (E = 0 → ∀ i, i = 0 → 0 < n → ∀ v, vAt l p0 (3 * n + i) = v → v ≠ 0) := fun h i hi h0 v hv h1 => by
        subst hi
        have h2 := fst_all0 l p0 n (4 * n) 0 (hE.trans h) (3 * n) (by omega) (by omega)
        unfold badE at h2
        have h3 : vAt l p0 (3 * n) = v := hv
        by_cases h4 : eAt l p0 (3 * n) = 0
        · rw [if_neg (by simp [h4]), if_pos ⟨rfl, by omega⟩] at h2; omega
        · rw [if_pos h4] at h2; exact h4 h2
      clear hRe hE hbig hn0 hn64
      go_wp2_with fail
      refine HV0.out.mono ?_
      rintro e X ⟨rfl, rfl⟩
      clear HV0
      go_wp2_with fail
      go_loopw [8, 5, 7] (fun x p v W => ∃ (i : Nat) (u : Value), i ≤ 4 * n ∧ x = .int .i64 (i : Int) ∧ p = .int .i64 ((pAt l p0 i : Nat) : Int) ∧ u = v ∧ Hid (OwnQ W w.heap.size u ((List.range i).map (vAt l p0))) ∧ Hid (Below w.heap.size w W) ∧ Hid (fstE l p0 n (4 * n - i) i = E)) (fun x _ _ _ => 4 * n - (intOf x).toNat)
      case atStart => exact ⟨0, _, Nat.zero_le _, rfl, rfl, rfl, OwnQ.nil_ _ _, Below.refl _ _, HI0⟩
      case round =>
        obtain ⟨i, u, hi, rfl, rfl, rfl, HO, HB, HI⟩ := hrel
        by_cases hlt : i < 4 * n
        · have Hv := Lib.hid (HV.out wr (pAt l p0 i) HB.out)
          have hvl : vAt l p0 i < 18446744073709551616 := Hlt.out _
          have Hv2 : Hid (Calls Try.prog 24 #[.slice A L c, .int .i64 ((pAt l p0 i : Nat) : Int)] wr (Three (vAt l p0 i) (pAt l p0 (i + 1)) (eAt l p0 i) wr)) := Hv.out
          have hvs := vs_next l p0 i
          have hbad := fun h => fst_bad HI.out hlt h
          have hgood := fun h => fst_good HI.out hlt h
          unfold badE at hbad hgood
          have hpe : pAt l p0 (i + 1) = pAt l p0 (i + 1) := rfl
          generalize vAt l p0 i = v at *
          generalize eAt l p0 i = e1 at *
          generalize hP2 : pAt l p0 (i + 1) = p2 at *
          clear Hv hpe
          by_cases he1 : e1 = 0
          · subst he1
            have hmul : IntKind.i64.wrap (3 * (n : Int)) = 3 * (n : Int) := IntWalk.i64_in _ ⟨by omega, by omega⟩
            by_cases hz : i = 3 * n ∧ v = 0
            · have z2 : ((i : Int) == 3 * (n : Int)) = true := by simp; omega
              have z3 : ((v : Int) == 0) = true := by simp; omega
              have hE3 : (if (0 : Nat) ≠ 0 then 0 else if i = 3 * n ∧ v = 0 then 3 else 0) = E := hbad (by rw [if_neg (by simp), if_pos hz]; omega)
              rw [if_neg (by simp), if_pos hz] at hE3
              have hRR := HRe.out
              rw [if_pos (by omega)] at hRR
              subst hRR hE3
              clear hbad hgood hvs hz
              go_wp2_with fail
              refine Hv2.out.mono ?_
              rintro e X ⟨rfl, rfl⟩
              go_wp2_with fail
              go_ret2
              exact ⟨_, rfl, rde_nil _ _, HB.out⟩
            · have HI2 : Hid (fstE l p0 n (4 * n - (i + 1)) (i + 1) = E) := hgood (by rw [if_neg (by simp), if_neg hz])
              have hown : wr.ownsRow w.heap.size 37 1 u ((List.range i).map (vAt l p0)).length (u64s ((List.range i).map (vAt l p0))) := HO.out
              have hbs : w.heap.size ≤ wr.heap.size := HB.out.size
              have Hl1 : Hid (((List.range i).map (vAt l p0)).length + 1 ≤ maxLen) := by unfold Hid maxLen; simp; omega
              have Hl2 : Hid ((((List.range i).map (vAt l p0)).length + 1) * 8 ≤ 140737488355328) := by unfold Hid; simp; omega
              have Hvs := Lib.hid hvs
              have HP2 := Lib.hid hP2
              have Hi4 : Hid (i < 4 * n) := hlt
              have Hzz : Hid (¬ (i = 3 * n ∧ v = 0)) := hz
              clear hbad hgood hvs hP2 HI
              by_cases hz2 : i = 3 * n
              · have z2 : ((i : Int) == 3 * (n : Int)) = true := by simp; omega
                have z3 : ((v : Int) == 0) = false := beq_eq_false_iff_ne.mpr (by omega)
                clear hz hz2
                go_wp2_with fail
                refine Hv2.out.mono ?_
                rintro e X ⟨rfl, rfl⟩
                go_wp2_with (at_builtin; refine app_one rfl (.tmp 52) (.tmp 54) 54 rfl w.heap.size 37 i0 _ 8 Try.underlying54 hi0 hz0 hz1 hz2 rfl _ _ _ rfl hown _ 1 rfl rfl Hl1.out Hl2.out hbs ?_)
                intro v1 w1 g2 g3 g5
                have hg2 : GoneQ wr w.heap.size u ((List.range i).map (vAt l p0) ++ [v]) v1 w1 := GoneQ.grown g2 (by simp) (by rw [u64s_append]; simp [u64s]) g3 g5
                rw [Hvs.out] at hg2
                have Hg2 := Lib.hid hg2
                have HB2 := Lib.hid (HB.out.trans (hg2.below HO.out HB.out.size))
                clear g2 g3 g5 hg2 hown
                go_wp2
                go_roundw
                case rel => exact ⟨i + 1, _, by have := Hi4.out; omega, by go_num, by rw [HP2.out], rfl, Hg2.out.own, HB2, HI2⟩
                case measure => have := Hi4.out; simp [intOf]; omega
              · have z2 : ((i : Int) == 3 * (n : Int)) = false := beq_eq_false_iff_ne.mpr (by omega)
                clear hz hz2
                go_wp2_with fail
                refine Hv2.out.mono ?_
                rintro e X ⟨rfl, rfl⟩
                go_wp2_with (at_builtin; refine app_one rfl (.tmp 52) (.tmp 54) 54 rfl w.heap.size 37 i0 _ 8 Try.underlying54 hi0 hz0 hz1 hz2 rfl _ _ _ rfl hown _ 1 rfl rfl Hl1.out Hl2.out hbs ?_)
                intro v1 w1 g2 g3 g5
                have hg2 : GoneQ wr w.heap.size u ((List.range i).map (vAt l p0) ++ [v]) v1 w1 := GoneQ.grown g2 (by simp) (by rw [u64s_append]; simp [u64s]) g3 g5
                rw [Hvs.out] at hg2
                have Hg2 := Lib.hid hg2
                have HB2 := Lib.hid (HB.out.trans (hg2.below HO.out HB.out.size))
                clear g2 g3 g5 hg2 hown
                go_wp2
                go_roundw
                case rel => exact ⟨i + 1, _, by have := Hi4.out; omega, by go_num, by rw [HP2.out], rfl, Hg2.out.own, HB2, HI2⟩
                case measure => have := Hi4.out; simp [intOf]; omega
          · have z1 : ((e1 : Int) != 0) = true := by simp [bne]; omega
            have hE3 := hbad (by rw [if_pos he1]; exact he1)
            rw [if_pos he1] at hE3
            have hRR := HRe.out
            rw [if_pos (by omega)] at hRR
            subst hRR hE3
            clear hbad hgood hvs he1
            go_wp2_with fail
            refine Hv2.out.mono ?_
            rintro e X ⟨rfl, rfl⟩
            go_wp2_with fail
            go_ret2
            exact ⟨_, rfl, rde_nil _ _, HB.out⟩
        · -- HALF
          obtain rfl : i = 4 * n := by omega
          have hE0 : (0 : Nat) = E := by have := HI.out; rwa [Nat.sub_self] at this
          subst hE0
          have hRR := HRe.out
          rw [if_neg (by simp)] at hRR
          obtain ⟨P, hP⟩ : ∃ P, pAt l p0 (4 * n) = P := ⟨_, rfl⟩
          obtain ⟨N4, hN4⟩ : ∃ N, N = 4 * n := ⟨_, rfl⟩
          have hlen : ((List.range (4 * n)).map (vAt l p0)).length = N4 := by simp [hN4]
          obtain ⟨a, cc, rfl, hac, hcm, _, hNm⟩ := OwnQ.nums HO.out
          obtain ⟨W3, hW3⟩ : ∃ W, W = wr := ⟨_, rfl⟩
          subst hW3
          have HD : Hid (0 < n → ∃ b off, a = some ⟨b, off, none⟩ ∧ b < W3.heap.size ∧ ∀ W, Below W3.heap.size W3 W → ∀ t, t < N4 → W.cell? ⟨b, off + t, none⟩ = some (.int .u64 ((vAt l p0 t : Nat) : Int))) := fun h0 => by
            obtain ⟨b, off, e, hbl, hc⟩ := hNm (by rw [hlen]; omega)
            have hb2 : b < W3.heap.size := hbl
            refine ⟨b, off, e, hb2, fun W hW t ht => ?_⟩
            have := hc t (by rw [hlen]; omega)
            rw [(hW.cell (p := ⟨b, off + t, none⟩) hb2), this]
            have ht4 : t < 4 * n := by omega
            simp [ht4]
          rw [hlen] at hac
          rw [hlen, hP]
          have HN4 := Lib.hid hN4
          have HRR := Lib.hid hRR
          have HP := Lib.hid hP
          have HBw := HB
          clear hRR HRe hP hN4 hlen hNm HO HI HI0 hlt hi HB hac hcm
          go_wp2_with fail
          go_loopw [13, 12] (fun x v W => ∃ (i : Nat) (u : Value), i ≤ n ∧ x = .int .i64 (i : Int) ∧ u = v ∧ Hid (OwnE W W3.heap.size u ((List.range i).map (enAt l p0 n))) ∧ Hid (Below W3.heap.size W3 W)) (fun x _ _ => n - (intOf x).toNat)
          case atStart => exact ⟨0, _, Nat.zero_le _, rfl, rfl, OwnE.nil_ _ _, Below.refl _ _⟩
          case round =>
            obtain ⟨i, u, hi, rfl, rfl, HO, HB⟩ := hrel
            by_cases hlt : i < n
            · obtain ⟨b, off, rfl, hb3, hD⟩ := HD.out (by omega)
              iterate 14 (try (rename_i hh; try clear hh))
              have hbw : b < wr.heap.size := Nat.lt_of_lt_of_le hb3 HB.out.size
              have hbw2 : b ≠ wr.heap.size := by omega
              have hn4 := HN4.out
              have HDD := Lib.hid hD
              have q0 := hD wr HB.out i (by omega)
              have q1 := hD wr HB.out (n + i) (by omega)
              have q2 := hD wr HB.out (2 * n + i) (by omega)
              have q3 := hD wr HB.out (3 * n + i) (by omega)
              have hid0 : i = 0 → idAt l p0 i = vAt l p0 i := fun h => by subst h; rfl
              have hof0 : i = 0 → offAt l p0 n i = vAt l p0 (3 * n + i) - 1 := fun h => by subst h; rfl
              obtain ⟨v0, hv0⟩ : ∃ v, vAt l p0 i = v := ⟨_, rfl⟩
              obtain ⟨vr, hv1⟩ : ∃ v, vAt l p0 (n + i) = v := ⟨_, rfl⟩
              obtain ⟨v2, hv2⟩ : ∃ v, vAt l p0 (2 * n + i) = v := ⟨_, rfl⟩
              obtain ⟨v3, hv3⟩ : ∃ v, vAt l p0 (3 * n + i) = v := ⟨_, rfl⟩
              have l0 : v0 < 18446744073709551616 := by rw [← hv0]; exact Hlt.out _
              have l3 : v3 < 18446744073709551616 := by rw [← hv3]; exact Hlt.out _
              rw [hv0] at q0 hid0
              rw [hv1] at q1
              rw [hv2] at q2
              rw [hv3] at q3 hof0
              obtain ⟨J1, hJ1⟩ : ∃ J, J = n + i := ⟨_, rfl⟩
              obtain ⟨J2, hJ2⟩ : ∃ J, J = 2 * n + i := ⟨_, rfl⟩
              obtain ⟨J3, hJ3⟩ : ∃ J, J = 3 * n + i := ⟨_, rfl⟩
              rw [← hJ1] at q1
              rw [← hJ2] at q2
              rw [← hJ3] at q3
              have m1 : IntKind.i64.wrap ((n : Int) + (i : Int)) = (J1 : Int) := by rw [IntWalk.i64_in _ ⟨by omega, by omega⟩]; omega
              have m2 : IntKind.i64.wrap (2 * (n : Int)) = 2 * (n : Int) := IntWalk.i64_in _ ⟨by omega, by omega⟩
              have m2' : IntKind.i64.wrap (2 * (n : Int) + (i : Int)) = (J2 : Int) := by rw [IntWalk.i64_in _ ⟨by omega, by omega⟩]; omega
              have m3 : IntKind.i64.wrap (3 * (n : Int)) = 3 * (n : Int) := IntWalk.i64_in _ ⟨by omega, by omega⟩
              have m3' : IntKind.i64.wrap (3 * (n : Int) + (i : Int)) = (J3 : Int) := by rw [IntWalk.i64_in _ ⟨by omega, by omega⟩]; omega
              have m1b : (n : Int) + (i : Int) = (J1 : Int) := by omega
              have m2b : 2 * (n : Int) + (i : Int) = (J2 : Int) := by omega
              have m3b : 3 * (n : Int) + (i : Int) = (J3 : Int) := by omega
              have y0 : (i : Int) < (N4 : Int) := by omega
              have y1 : (J1 : Int) < (N4 : Int) := by omega
              have y2 : (J2 : Int) < (N4 : Int) := by omega
              have y3 : (J3 : Int) < (N4 : Int) := by omega
              have x0 : (0 : Int) ≤ (i : Int) := by omega
              have x1 : (0 : Int) ≤ (J1 : Int) := by omega
              have x2 : (0 : Int) ≤ (J2 : Int) := by omega
              have x3 : (0 : Int) ≤ (J3 : Int) := by omega
              have wO := u64_less l3
              obtain ⟨O, hO⟩ : ∃ O, (v3 + 18446744073709551615) % 18446744073709551616 = O := ⟨_, rfl⟩
              rw [hO] at wO
              have hO1 : v3 ≠ 0 → O = v3 - 1 := fun h => by omega
              have hent : Hid (enAt l p0 n i = ⟨idAt l p0 i, offAt l p0 n i, v2, vr⟩) := by show _ = _; unfold enAt; rw [hv2, hv1]
              have hfirst : Hid (i = 0 → v3 ≠ 0) := fun h => Hfst.out (by trivial) i h (by omega) v3 hv3
              have Hin : Hid (i < n) := hlt
              have HJ1 := Lib.hid hJ1
              have HJ2 := Lib.hid hJ2
              have HJ3 := Lib.hid hJ3
              have Hid0 := Lib.hid hid0
              have Hof0 := Lib.hid hof0
              have HO1 := Lib.hid hO1
              have HOe := Lib.hid hO
              have Hv0 := Lib.hid hv0
              have Hv3 := Lib.hid hv3
              clear hv0 hv1 hv2 hv3 hJ1 hJ2 hJ3 hn4 hD hid0 hof0 hO1 hO
              obtain ⟨al, cl, rfl, hla, hlc, hVl⟩ := Vals.of_own (show wr.ownsRow W3.heap.size 39 4 u _ _ from HO.out)
              have hll : ((List.range i).map (enAt l p0 n)).length = i := by simp
              rw [hll] at hla hVl HO ⊢
              have HVl := Lib.hid hVl
              have hown0 : Hid (OwnE wr W3.heap.size (.slice al i cl) ((List.range i).map (enAt l p0 n))) := HO.out
              clear hVl hll hla hlc HO
              go_upto_region 21 with (fail)
              go_region
              obtain ⟨gx, hgx⟩ : ∃ k, k = wr.heap.size := ⟨_, rfl⟩
              obtain ⟨X1, hX1⟩ : ∃ X, X = (wr.alloc (.cells #[.int .u64 (v0 : Int), .int .u64 (O : Int), .int .u64 (v2 : Int), .int .u64 (vr : Int)] 39)).drew := ⟨_, rfl⟩
              have HWx : Hid (Whole X1 gx 39 #[.int .u64 (v0 : Int), .int .u64 (O : Int), .int .u64 (v2 : Int), .int .u64 (vr : Int)]) := by rw [hX1, hgx]; exact (Whole.new wr _ _).drew
              have HBw1 : Hid (Below wr.heap.size wr X1) := by rw [hX1]; exact below_drew1 ((Below.refl _ _).alloc (Nat.le_refl _) _)
              have HBX1 : Hid (Below W3.heap.size W3 X1) := below_then HB.out HBw1.out HB.out.size
              have HBX1o : Hid (OwnE X1 W3.heap.size (.slice al i cl) ((List.range i).map (enAt l p0 n))) := hown0.out.below HBw1.out
              clear m1 m2 m2' m3 m3' m1b m2b y0 y1 y2 x1 x2 q0 q1 q2 wO
              have Hgx : Hid (W3.heap.size ≤ gx) := by show _ ≤ _; rw [hgx]; exact HB.out.size
              by_cases hi0 : i = 0
              · have d1 : decide ((0 : Int) < (i : Int)) = false := decide_eq_false (by omega)
                have d2 : decide (0 < i) = false := decide_eq_false (by omega)
                have HEn : Hid (enAt l p0 n i = ⟨v0, O, v2, vr⟩) := by
                  show _ = _
                  rw [hent.out, Hid0.out hi0, Hof0.out hi0, HO1.out (hfirst.out hi0)]
                go_upto_region 26 with (fail)
                rw [← hX1, ← hgx]
                have c0 := HWx.out.cell 0
                have c1 := HWx.out.cell 1
                have c2 := HWx.out.cell 2
                have c3 := HWx.out.cell 3
                simp only [List.getElem?_toArray, List.getElem?_cons_zero, List.getElem?_cons_succ] at c0 c1 c2 c3
                clear hX1 hgx l0 l3 q3 hi0 d1 d2 m3b y3 x3 hbw hbw2 hb3
                as_aux_lemma =>
                  have hown : X1.ownsRow W3.heap.size 39 4 (.slice al i cl) ((List.range i).map (enAt l p0 n)).length (ents ((List.range i).map (enAt l p0 n))) := HBX1o.out
                  have Hl1 : Hid (((List.range i).map (enAt l p0 n)).length + 1 ≤ maxLen) := by have := Hn.out; have := Hin.out; unfold Hid maxLen; simp; omega
                  have Hl2 : Hid ((((List.range i).map (enAt l p0 n)).length + 1) * 32 ≤ 140737488355328) := by have := Hn.out; have := Hin.out; unfold Hid; simp; omega
                  have hbs : W3.heap.size ≤ X1.heap.size := HBX1.out.size
                  have Hen : Hid ((List.range i).map (enAt l p0 n) ++ [⟨v0, O, v2, vr⟩] = (List.range (i + 1)).map (enAt l p0 n)) := by
                    show _ = _
                    rw [← es_next, HEn.out]
                  go_wp2_with (at_builtin; refine app_rec rfl (.tmp 127) (.tmp 129) 22 rfl W3.heap.size 39 i1 _ 4 32 Try.underlying22 hi1 hy0 hy1 hy2 rfl (by decide) _ _ _ rfl hown [.int .u64 (v0 : Int), .int .u64 (O : Int), .int .u64 (v2 : Int), .int .u64 (vr : Int)] rfl 1 rfl (ents_one [⟨v0, O, v2, vr⟩]) Hl1.out Hl2.out hbs ?_)
                  intro v1 w1 g2 g3 g5
                  have hl2 : ents ((List.range i).map (enAt l p0 n)) ++ [.int .u64 (v0 : Int), .int .u64 (O : Int), .int .u64 (v2 : Int), .int .u64 (vr : Int)] = ents ((List.range (i + 1)).map (enAt l p0 n)) := by rw [← Hen.out]; exact (ents_snoc _ _ _ _ _).symm
                  rw [hl2] at g2
                  have HO2 : Hid (OwnE w1 W3.heap.size v1 ((List.range (i + 1)).map (enAt l p0 n))) := by
                    show World.ownsRow _ _ _ _ _ _ _
                    rw [show ((List.range (i + 1)).map (enAt l p0 n)).length = i + 1 by rw [List.length_map, List.length_range]]
                    exact g2
                  have HB2 := Lib.hid (HBX1.out.grown g3 (by exact HBX1.out.size) (fun k hk => ((show OwnE X1 W3.heap.size _ _ from HBX1o.out).lt k hk).1))
                  clear g2 g3 g5 hown hl2 c0 c1 c2 c3 hbs
                  go_upto_region 20 with (fail)
                  try clear hi hn6 w0 z1 hl
                  have hi1 : i + 1 ≤ 65536 := by have := Hin.out; have := Hn.out; omega
                  have hiw : IntKind.i64.wrap ((i : Int) + 1) = (i : Int) + 1 := IntWalk.i64_in _ ⟨by omega, by omega⟩
                  go_wp2
                  go_roundw
                  case rel => exact ⟨i + 1, _, by have := Hin.out; omega, by go_num, rfl, HO2, HB2⟩
                  case measure => have := Hin.out; simp [intOf]; omega
              · have d1 : decide ((0 : Int) < (i : Int)) = true := decide_eq_true (by omega)
                have d2 : decide (0 < i) = true := decide_eq_true (by omega)
                obtain ⟨k, hk⟩ : ∃ k, i = k + 1 := ⟨i - 1, by omega⟩
                have hEA : EAt wr wr.heap.size al ((List.range i).map (enAt l p0 n)) := by show Vals _ _ _ _ _ _; rw [show ((List.range i).map (enAt l p0 n)).length = i by simp]; exact HVl.out
                obtain ⟨bl, ol, rfl, hbl, s0, s1, s2, s3⟩ := hEA.at k (by simp; omega)
                simp only [List.getElem_map, List.getElem_range] at s0 s1 s2 s3
                have t0 := (HBw1.out.cell (p := ⟨bl, ol + k * 4, none⟩) hbl).trans s0
                have t1 := (HBw1.out.cell (p := ⟨bl, ol + k * 4 + 1, none⟩) hbl).trans s1
                have t2 := (HBw1.out.cell (p := ⟨bl, ol + k * 4 + 2, none⟩) hbl).trans s2
                have hbx : bl ≠ gx := by omega
                have hbx2 : gx ≠ bl := by omega
                have t3 : X1.cell? ⟨b, off + J3, none⟩ = some (.int .u64 (v3 : Int)) := (HBw1.out.cell (p := ⟨b, off + J3, none⟩) hbw).trans q3
                have hbx3 : b ≠ gx := by omega
                have hbx4 : gx ≠ b := by omega
                have hik := idAt_next l p0 i k hk
                have hok := offAt_next l p0 n i k hk
                have e0 : (enAt l p0 n k).id = idAt l p0 k := rfl
                have e1 : (enAt l p0 n k).off = offAt l p0 n k := rfl
                have e2 : (enAt l p0 n k).len = vAt l p0 (2 * n + k) := rfl
                rw [e0] at t0
                rw [e1] at t1
                rw [e2] at t2
                rw [Hv0.out] at hik
                rw [Hv3.out] at hok
                obtain ⟨ik, hike⟩ : ∃ r, idAt l p0 k = r := ⟨_, rfl⟩
                obtain ⟨fk, hfke⟩ : ∃ r, offAt l p0 n k = r := ⟨_, rfl⟩
                obtain ⟨nk, hnke⟩ : ∃ r, vAt l p0 (2 * n + k) = r := ⟨_, rfl⟩
                rw [hike] at t0 hik
                rw [hfke] at t1 hok
                rw [hnke] at t2 hok
                have wk : IntKind.i64.wrap ((i : Int) - 1) = (k : Int) := by rw [IntWalk.i64_in _ ⟨by omega, by omega⟩]; omega
                have wk2 : IntKind.i64.wrap (k : Int) = (k : Int) := IntWalk.i64_in _ ⟨by omega, by omega⟩
                have k0 : (0 : Int) ≤ (k : Int) := by omega
                have k1 : (k : Int) < (i : Int) := by omega
                have wD : IntKind.u64.wrap ((v0 : Int) + (ik : Int)) = (((v0 + ik) % 18446744073709551616 : Nat) : Int) := by rw [← Int.natCast_add]; exact u64_mod _
                have wF : IntKind.u64.wrap ((fk : Int) + (nk : Int)) = (((fk + nk) % 18446744073709551616 : Nat) : Int) := by rw [← Int.natCast_add]; exact u64_mod _
                obtain ⟨D, hD⟩ : ∃ D, (v0 + ik) % 18446744073709551616 = D := ⟨_, rfl⟩
                obtain ⟨F, hF⟩ : ∃ D, (fk + nk) % 18446744073709551616 = D := ⟨_, rfl⟩
                rw [hD] at wD hik
                rw [hF] at wF hok
                have Hik := Lib.hid hik
                have Hok := Lib.hid hok
                have c0 := HWx.out.cell 0
                have c1 := HWx.out.cell 1
                have c2 := HWx.out.cell 2
                have c3 := HWx.out.cell 3
                have f0 := HWx.out.frozen 0
                have f1 := HWx.out.frozen 1
                simp only [List.getElem?_toArray, List.getElem?_cons_zero, List.getElem?_cons_succ] at c0 c1 c2 c3
                go_upto_region 23 with (fail)
                rw [← hX1, ← hgx]
                clear hX1 hgx l0 l3 s0 s1 s2 s3 q3 hik hok hike hfke hnke hD hF e0 e1 e2 hi0 hk hEA
                go_region
                obtain ⟨X2, hX2⟩ : ∃ X, X = (X1.setCell ⟨gx, 0, none⟩ (.int .u64 (D : Int))).drew := ⟨_, rfl⟩
                have o1 : Only (fun k => k = gx) X1 X2 := by rw [hX2]; exact only_drew (Only.setCell (S := fun k => k = gx) (Only.refl _ _) (p := ⟨gx, 0, none⟩) (fun _ => rfl) _)
                have HW2 : Hid (Whole X2 gx 39 #[.int .u64 (D : Int), .int .u64 (O : Int), .int .u64 (v2 : Int), .int .u64 (vr : Int)]) := by
                  have := (HWx.out.set 0 (.int .u64 (D : Int))).drew
                  rw [hX2]; show Whole _ _ _ _; simpa using this
                have HBX2 : Hid (Below W3.heap.size W3 X2) := below_only HBX1.out HBX1.out.size o1 (fun k hk e => by subst e; have := Hgx.out; omega)
                have HBX2o : Hid (OwnE X2 W3.heap.size (.slice (some ⟨bl, ol, none⟩) i cl) ((List.range i).map (enAt l p0 n))) := HBX1o.out.only o1 (fun k hk e => hbx ((own_blk HBX1o.out hk).symm.trans e))
                have t1' := (o1.cell (p := ⟨bl, ol + k * 4 + 1, none⟩) (Nat.lt_of_lt_of_le hbl HBw1.out.size) hbx).trans t1
                have t2' := (o1.cell (p := ⟨bl, ol + k * 4 + 2, none⟩) (Nat.lt_of_lt_of_le hbl HBw1.out.size) hbx).trans t2
                have t3' := (o1.cell (p := ⟨b, off + J3, none⟩) (Nat.lt_of_lt_of_le hbw HBw1.out.size) hbx3).trans t3
                rw [← hX2]
                clear hX2 o1 t0 t1 t2 t3 c0 c1 c2 c3 f0 f1
                have f1 := HW2.out.frozen 1
                by_cases hv30 : v3 = 0
                · have z3 : ((v3 : Int) == 0) = true := by rw [hv30]; rfl
                  have HEn : Hid (enAt l p0 n i = ⟨D, F, v2, vr⟩) := by
                    show _ = _
                    have h1 := Hik.out
                    have h2 := Hok.out
                    rw [if_pos hv30] at h2
                    rw [hent.out, h1, h2]
                  have c1 := HW2.out.cell 1
                  simp only [List.getElem?_toArray, List.getElem?_cons_zero, List.getElem?_cons_succ] at c1
                  clear hv30
                  go_upto_region 25 with (fail)
                  go_region
                  obtain ⟨X3, hX3⟩ : ∃ X, X = (X2.setCell ⟨gx, 1, none⟩ (.int .u64 (F : Int))).drew := ⟨_, rfl⟩
                  have o2 : Only (fun k => k = gx) X2 X3 := by rw [hX3]; exact only_drew (Only.setCell (S := fun k => k = gx) (Only.refl _ _) (p := ⟨gx, 1, none⟩) (fun _ => rfl) _)
                  have HW3' : Hid (Whole X3 gx 39 #[.int .u64 (D : Int), .int .u64 (F : Int), .int .u64 (v2 : Int), .int .u64 (vr : Int)]) := by
                    have := (HW2.out.set 1 (.int .u64 (F : Int))).drew
                    rw [hX3]; show Whole _ _ _ _; simpa using this
                  have HBX3 : Hid (Below W3.heap.size W3 X3) := below_only HBX2.out HBX2.out.size o2 (fun k hk e => by subst e; have := Hgx.out; omega)
                  have HBX3o : Hid (OwnE X3 W3.heap.size (.slice (some ⟨bl, ol, none⟩) i cl) ((List.range i).map (enAt l p0 n))) := HBX2o.out.only o2 (fun k hk e => hbx ((own_blk HBX2o.out hk).symm.trans e))
                  rw [← hX3]
                  clear hX3 o2 t1' t2' t3' c1 f1 wk wk2 wD wF
                  have c0 := HW3'.out.cell 0
                  have c1 := HW3'.out.cell 1
                  have c2 := HW3'.out.cell 2
                  have c3 := HW3'.out.cell 3
                  simp only [List.getElem?_toArray, List.getElem?_cons_zero, List.getElem?_cons_succ] at c0 c1 c2 c3
                  go_upto_region 26 with (fail)
                  clear k0 k1 hbl hbx hbx2 hbx3 hbx4 d1 d2 z3 m3b y3 x3 hbw hbw2 hb3
                  as_aux_lemma =>
                    have hown : X3.ownsRow W3.heap.size 39 4 (.slice (some ⟨bl, ol, none⟩) i cl) ((List.range i).map (enAt l p0 n)).length (ents ((List.range i).map (enAt l p0 n))) := HBX3o.out
                    have Hl1 : Hid (((List.range i).map (enAt l p0 n)).length + 1 ≤ maxLen) := by have := Hn.out; have := Hin.out; unfold Hid maxLen; simp; omega
                    have Hl2 : Hid ((((List.range i).map (enAt l p0 n)).length + 1) * 32 ≤ 140737488355328) := by have := Hn.out; have := Hin.out; unfold Hid; simp; omega
                    have hbs : W3.heap.size ≤ X3.heap.size := HBX3.out.size
                    have Hen : Hid ((List.range i).map (enAt l p0 n) ++ [⟨D, F, v2, vr⟩] = (List.range (i + 1)).map (enAt l p0 n)) := by
                      show _ = _
                      rw [← es_next, HEn.out]
                    go_wp2_with (at_builtin; refine app_rec rfl (.tmp 127) (.tmp 129) 22 rfl W3.heap.size 39 i1 _ 4 32 Try.underlying22 hi1 hy0 hy1 hy2 rfl (by decide) _ _ _ rfl hown [.int .u64 (D : Int), .int .u64 (F : Int), .int .u64 (v2 : Int), .int .u64 (vr : Int)] rfl 1 rfl (ents_one [⟨D, F, v2, vr⟩]) Hl1.out Hl2.out hbs ?_)
                    intro v1 w1 g2 g3 g5
                    have hl2 : ents ((List.range i).map (enAt l p0 n)) ++ [.int .u64 (D : Int), .int .u64 (F : Int), .int .u64 (v2 : Int), .int .u64 (vr : Int)] = ents ((List.range (i + 1)).map (enAt l p0 n)) := by rw [← Hen.out]; exact (ents_snoc _ _ _ _ _).symm
                    rw [hl2] at g2
                    have HO2 : Hid (OwnE w1 W3.heap.size v1 ((List.range (i + 1)).map (enAt l p0 n))) := by
                      show World.ownsRow _ _ _ _ _ _ _
                      rw [show ((List.range (i + 1)).map (enAt l p0 n)).length = i + 1 by rw [List.length_map, List.length_range]]
                      exact g2
                    have HB2 := Lib.hid (HBX3.out.grown g3 (by exact HBX3.out.size) (fun k hk => ((show OwnE X3 W3.heap.size _ _ from HBX3o.out).lt k hk).1))
                    clear g2 g3 g5 hown hl2 c0 c1 c2 c3 hbs
                    go_upto_region 20 with (fail)
                    try clear hi hn6 w0 z1 hl
                    have hi1 : i + 1 ≤ 65536 := by have := Hin.out; have := Hn.out; omega
                    have hiw : IntKind.i64.wrap ((i : Int) + 1) = (i : Int) + 1 := IntWalk.i64_in _ ⟨by omega, by omega⟩
                    go_wp2
                    go_roundw
                    case rel => exact ⟨i + 1, _, by have := Hin.out; omega, by go_num, rfl, HO2, HB2⟩
                    case measure => have := Hin.out; simp [intOf]; omega
                · have z3 : ((v3 : Int) == 0) = false := beq_eq_false_iff_ne.mpr (by omega)
                  have HEn : Hid (enAt l p0 n i = ⟨D, O, v2, vr⟩) := by
                    show _ = _
                    have h1 := Hik.out
                    have h2 := Hok.out
                    rw [if_neg hv30] at h2
                    rw [hent.out, h1, h2, HO1.out hv30]
                  have c0 := HW2.out.cell 0
                  have c1 := HW2.out.cell 1
                  have c2 := HW2.out.cell 2
                  have c3 := HW2.out.cell 3
                  simp only [List.getElem?_toArray, List.getElem?_cons_zero, List.getElem?_cons_succ] at c0 c1 c2 c3
                  clear hv30 t1' t2' f1 wk wk2 wD wF
                  go_upto_region 26 with (fail)
                  clear t3' k0 k1 hbl hbx hbx2 hbx3 hbx4 d1 d2 z3 m3b y3 x3 hbw hbw2 hb3
                  as_aux_lemma =>
                    have hown : X2.ownsRow W3.heap.size 39 4 (.slice (some ⟨bl, ol, none⟩) i cl) ((List.range i).map (enAt l p0 n)).length (ents ((List.range i).map (enAt l p0 n))) := HBX2o.out
                    have Hl1 : Hid (((List.range i).map (enAt l p0 n)).length + 1 ≤ maxLen) := by have := Hn.out; have := Hin.out; unfold Hid maxLen; simp; omega
                    have Hl2 : Hid ((((List.range i).map (enAt l p0 n)).length + 1) * 32 ≤ 140737488355328) := by have := Hn.out; have := Hin.out; unfold Hid; simp; omega
                    have hbs : W3.heap.size ≤ X2.heap.size := HBX2.out.size
                    have Hen : Hid ((List.range i).map (enAt l p0 n) ++ [⟨D, O, v2, vr⟩] = (List.range (i + 1)).map (enAt l p0 n)) := by
                      show _ = _
                      rw [← es_next, HEn.out]
                    go_wp2_with (at_builtin; refine app_rec rfl (.tmp 127) (.tmp 129) 22 rfl W3.heap.size 39 i1 _ 4 32 Try.underlying22 hi1 hy0 hy1 hy2 rfl (by decide) _ _ _ rfl hown [.int .u64 (D : Int), .int .u64 (O : Int), .int .u64 (v2 : Int), .int .u64 (vr : Int)] rfl 1 rfl (ents_one [⟨D, O, v2, vr⟩]) Hl1.out Hl2.out hbs ?_)
                    intro v1 w1 g2 g3 g5
                    have hl2 : ents ((List.range i).map (enAt l p0 n)) ++ [.int .u64 (D : Int), .int .u64 (O : Int), .int .u64 (v2 : Int), .int .u64 (vr : Int)] = ents ((List.range (i + 1)).map (enAt l p0 n)) := by rw [← Hen.out]; exact (ents_snoc _ _ _ _ _).symm
                    rw [hl2] at g2
                    have HO2 : Hid (OwnE w1 W3.heap.size v1 ((List.range (i + 1)).map (enAt l p0 n))) := by
                      show World.ownsRow _ _ _ _ _ _ _
                      rw [show ((List.range (i + 1)).map (enAt l p0 n)).length = i + 1 by rw [List.length_map, List.length_range]]
                      exact g2
                    have HB2 := Lib.hid (HBX2.out.grown g3 (by exact HBX2.out.size) (fun k hk => ((show OwnE X2 W3.heap.size _ _ from HBX2o.out).lt k hk).1))
                    clear g2 g3 g5 hown hl2 c0 c1 c2 c3 hbs
                    go_upto_region 20 with (fail)
                    try clear hi hn6 w0 z1 hl
                    have hi1 : i + 1 ≤ 65536 := by have := Hin.out; have := Hn.out; omega
                    have hiw : IntKind.i64.wrap ((i : Int) + 1) = (i : Int) + 1 := IntWalk.i64_in _ ⟨by omega, by omega⟩
                    go_wp2
                    go_roundw
                    case rel => exact ⟨i + 1, _, by have := Hin.out; omega, by go_num, rfl, HO2, HB2⟩
                    case measure => have := Hin.out; simp [intOf]; omega
            · obtain rfl : i = n := by omega
              have HRD : Hid (RdE wr wr.heap.size u ((List.range i).map (enAt l p0 i))) := OwnE.rd HO.out (fun s hs => by
                obtain ⟨j, _, rfl⟩ := List.mem_map.1 hs
                exact enAt_ok Hlt.out j)
              obtain ⟨t, ht⟩ : ∃ t, rightE (outE l p0 i) = t := ⟨_, rfl⟩
              have Hq := Lib.hid (refRight_any u _ wr HRD.out (by simp; have := Hn.out; omega) t ht)
              have hRe := HRR.out
              rw [HP.out, ht] at hRe
              have HBf : Hid (Below w.heap.size w wr) := below_then HBw.out HB.out HBw.out.size
              clear hi hlt
              by_cases hPl : P < l.length
              · have z2 : decide ((P : Int) < (L : Int)) = true := decide_eq_true (by have := HL.out; omega)
                have z3 : decide (P < L) = true := decide_eq_true (by have := HL.out; omega)
                rw [if_pos (.inl hPl)] at hRe
                subst hRe
                clear hPl ht
                go_wp2_with fail
                go_ret2
                exact ⟨_, rfl, rde_nil _ _, HBf.out⟩
              · have z2 : decide ((P : Int) < (L : Int)) = false := decide_eq_false (by have := HL.out; omega)
                have z3 : decide (P < L) = false := decide_eq_false (by have := HL.out; omega)
                cases t
                · rw [if_pos (.inr rfl)] at hRe
                  subst hRe
                  clear hPl ht
                  go_wp2_with fail
                  refine Hq.out.mono ?_
                  rintro e Y ⟨rfl, hY⟩
                  have HY := Lib.hid (below_then HBf.out hY HBf.out.size)
                  clear hY Hq
                  go_wp2_with fail
                  go_ret2
                  exact ⟨_, rfl, rde_nil _ _, HY.out⟩
                · rw [if_neg (by simp [hPl])] at hRe
                  subst hRe
                  clear hPl ht
                  go_wp2_with fail
                  refine Hq.out.mono ?_
                  rintro e Y ⟨rfl, hY⟩
                  have HY := Lib.hid (below_then HBf.out hY HBf.out.size)
                  have HRY := Lib.hid ((HRD.out.below hY).more hY.size)
                  clear hY Hq
                  go_wp2_with fail
                  go_ret2
                  exact ⟨_, rfl, HRY.out, HY.out⟩
  · have z1 : ((e0 : Int) != 0) = true := by simp [bne]; omega
    rw [if_pos he0] at hRe
    subst hRe
    clear hn0 hn64 he0
    go_wp2_with fail
    refine HV0.out.mono ?_
    rintro e X ⟨rfl, rfl⟩
    go_wp2_with fail
    go_ret2
    exact ⟨_, rfl, rde_nil _ _, Below.refl _ _⟩
end Go.Proofs.Ytaafcmgkmdbefaa
