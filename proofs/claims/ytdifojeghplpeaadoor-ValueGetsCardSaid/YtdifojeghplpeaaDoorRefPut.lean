/- Walks over layer 7: the reference's fixed and Put. -/
import Derived.Test.YtdifojeghplpeaaDoorPut
import Derived.Test.YtdifojeghplpeaaDoorJoinMath
import Derived.Test.YtdifojeghplpeaaDoorHeld
namespace Go.Proofs.YtdifojeghplpeaaDoor
open Go.RowKit Var
set_option linter.unusedVariables false
set_option maxRecDepth 100000

set_option maxHeartbeats 2000000 in
theorem refFixed_any (x n : Nat) (w : World) (hx : x < 18446744073709551616) (hn : n ≤ 8) :
    Calls Tryd.prog 41 #[.int .u64 (x : Int), .int .i64 (n : Int)] w (PutPost w (fx x n)) := by
  obtain ⟨i0, hi0, hz0, hz1, hz2⟩ := info_parts u8info
  have H0 : Hid (x / 256 ^ 0 = x) := by show _ = _; simp
  go_enter Tryd.func41, Tryd.ntmps41
  go_wp2_with fail
  go_loopw [5, 0, 6] (fun u v i W => ∃ k : Nat, k ≤ n ∧ i = .int .i64 (k : Int) ∧ v = .int .u64 ((x / 256 ^ k : Nat) : Int) ∧ Hid (Gone w w.heap.size (.slice none 0 0) (fx x k) u W)) (fun _ _ i _ => n - (intOf i).toNat)
  case atStart => exact ⟨0, Nat.zero_le _, rfl, by rw [H0.out], Gone.refl (Own8.nil_ _ _)⟩
  case round =>
    obtain ⟨k, hk, rfl, rfl, hg⟩ := hrel
    by_cases hlt : k < n
    · have hbs : w.heap.size ≤ wr.heap.size := hg.out.only.size
      have hlk := fx_length x k
      have Hl1 : Hid ((fx x k).length + 1 ≤ maxLen) := by unfold Hid maxLen; omega
      have Hl2 : Hid (((fx x k).length + 1) * 1 ≤ 140737488355328) := by unfold Hid; omega
      have hown : wr.ownsRow w.heap.size 5 1 u5 (fx x k).length (u8s (fx x k)) := hg.out.own
      have Hfx := Lib.hid (fx_snoc k x)
      have hyl : x / 256 ^ k < 18446744073709551616 := Nat.lt_of_le_of_lt (Nat.div_le_self _ _) hx
      have Hnx : Hid (x / 256 ^ (k + 1) = x / 256 ^ k / 256) := by show _ = _; rw [Nat.div_div_eq_div_mul, ← Nat.pow_succ]
      clear hlk
      generalize x / 256 ^ k = y at *
      have Hby : Hid ((y : Int) % 256 = ((y % 256 : Nat) : Int)) := by show _ = _; omega
      have Hdv : Hid ((y : Int) / 256 = ((y / 256 : Nat) : Int)) := by show _ = _; omega
      go_wp2_with (at_builtin; refine app_one rfl (.tmp 12) (.tmp 16) 26 rfl w.heap.size 5 i0 _ 1 Tryd.underlying26 hi0 hz0 hz1 hz2 rfl _ _ _ rfl hown _ 1 rfl rfl Hl1.out Hl2.out hbs ?_)
      intro v1 w1 h2 h3 h5
      have hg2 : Gone wr w.heap.size u5 (fx x (k + 1)) v1 w1 := Gone.grown h2 (by rw [Hfx.out]; simp) (by rw [Hfx.out, u8s_append _ [_], Hby.out]; rfl) h3 h5
      have hg3 := Lib.hid (hg.out.trans hg2)
      clear h2 h3 h5 hg2 hown hg
      go_wp2
      go_roundw
      case rel => exact ⟨k + 1, hlt, by go_num, by rw [Hnx.out, ← Hdv.out], hg3⟩
      case measure => simp [intOf]; omega
    · obtain rfl : k = n := by omega
      have hb := hg.out.below (Own8.nil_ _ _) (Nat.le_refl _)
      have ho := hg.out.own
      clear hg
      go_wp2_with fail
      go_ret
      exact ⟨_, rfl, ho, hb⟩

/-- The end of a round: the first number, then the rest, behind what there is. -/
theorem app_8 {w : World} (base : Nat) (v : Value) (l : List Nat) (hown : Own8 w base v l) (B : Nat) (m : List Nat) (A : Option Addr) (c : Nat) (hd : Nums .u8 w B A m) (hl : l.length + m.length ≤ 1000000) (hbase : base ≤ w.heap.size) :
    ∃ v' w', (Builtin.append_ #[26, 26] 26 #[v, .slice A m.length c]).run Tryd.prog w = .ok v' w' ∧ Gone w base v (l ++ m) v' w' := by
  obtain ⟨i0, hi0, hz0, hz1, hz2⟩ := info_parts u8info
  obtain ⟨v', w', hrun, h3, h4, h5⟩ := run_append_vals (P := Tryd.prog) (w := w) base 26 26 5 i0 _ 1 1 Tryd.underlying26 hi0 hz0 hz1 hz2 rfl (by omega) v l.length _ hown B A m.length c _ (Vals.of_nums hd)
    (u8s_one m) (by unfold maxLen; omega) (by omega) hbase
  refine ⟨v', w', hrun, Gone.grown h3 (by simp) (u8s_append l m).symm h4 ?_⟩
  rcases h5 with h5 | h5
  · exact .inl h5
  · exact .inr ⟨_, h5, Nat.le_refl _⟩
theorem app_run {w w' : World} {ops : Array Oper} {rest : List Oper} {o : Oper} {a : Act} {Q : Exit → Act → World → Prop} (hw : Region.wanted o (yielded ops a.tmps) = true) (s x : Operand) (t : TypeId)
    (ho : o.op = .call { callee := .builtin .append, args := #[s, x], argTypes := #[t, t] }) (v u v' : Value) (hs : a.eval s = v) (hx : a.eval x = u)
    (hrun : (Builtin.append_ #[t, t] o.type #[v, u]).run Tryd.prog w = .ok v' w') (h : wpList Tryd.prog ops Q rest (a.put o.dst v') w') : wpList Tryd.prog ops Q (o :: rest) a w := by
  refine wpList_step fun K hK => ?_
  simp only [hw, if_true]
  unfold Oper.wp execOp
  simp only [ho, resolve, invoke, builtin, Sem.run_bind, Sem.run_pure, Result.andThen_ok, List.map_toArray, List.map_cons, List.map_nil, hs, hx, hrun]
  exact hK _ _ h
theorem put_end {wr W3 : World} {base b2 b3 : Nat} {u v2 v3 : Value} {P H R : List Nat} (hu : Own8 wr base u P) (hw : Below wr.heap.size wr W3) (h3 : Own8 W3 b3 v3 H) (h2 : Own8 W3 b2 v2 R) (hb2 : wr.heap.size ≤ b2) (hB : base ≤ wr.heap.size) (hl : P.length + H.length + R.length ≤ 1000000) :
    ∃ r1 R1 r2 R2, (Builtin.append_ #[26, 26] 26 #[u, v3]).run Tryd.prog W3 = .ok r1 R1 ∧ (Builtin.append_ #[26, 26] 26 #[r1, v2]).run Tryd.prog R1 = .ok r2 R2 ∧ Gone wr base u (P ++ (H ++ R)) r2 R2 := by
  obtain ⟨a3, c3, rfl, _, _, _, hn3⟩ := h3.nums
  have hu3 := hu.below hw
  have hB3 : base ≤ W3.heap.size := Nat.le_trans hB hw.size
  obtain ⟨r1, R1, hr1, g1⟩ := app_8 base u P hu3 W3.heap.size H a3 c3 hn3 (by omega) hB3
  have h2' : Own8 R1 b2 v2 R := h2.only g1.only (fun b e e' => by
    have := (h2.lt b e).1
    have := (hu.lt b e').2
    omega)
  obtain ⟨a2, c2, rfl, _, _, _, hn2⟩ := h2'.nums
  obtain ⟨r2, R2, hr2, g2⟩ := app_8 base r1 (P ++ H) g1.own R1.heap.size R a2 c2 hn2 (by simp; omega) (Nat.le_trans hB3 g1.only.size)
  refine ⟨r1, R1, r2, R2, hr1, hr2, ?_⟩
  have := (⟨hu3, Only.of_below hw _, .inl rfl⟩ : Gone wr base u P u W3).trans (g1.trans g2)
  rwa [List.append_assoc] at this

theorem tmod_facts (num : Int) : ∃ (t : Int) (n : Nat), num.tmod 536870912 = t ∧ n < 536870912 ∧ (∀ k, headOf num k = 8 * n + k) ∧ ((t < 0 ∧ t + 536870912 = (n : Int)) ∨ (¬ t < 0 ∧ t = (n : Int))) ∧ -536870912 < t ∧ t < 536870912 := by
  refine ⟨_, (num % 536870912).toNat, rfl, by omega, fun k => rfl, ?_, ?_⟩
  · by_cases h : 0 ≤ num
    · rw [Int.tmod_eq_emod_of_nonneg h]; right; omega
    · have e : num.tmod 536870912 = -((-num) % 536870912) := by
        rw [← Int.tmod_eq_emod_of_nonneg (show 0 ≤ -num by omega), Int.neg_tmod, Int.neg_neg]
      rw [e]; omega
  · by_cases h : 0 ≤ num
    · rw [Int.tmod_eq_emod_of_nonneg h]; omega
    · have e : num.tmod 536870912 = -((-num) % 536870912) := by
        rw [← Int.tmod_eq_emod_of_nonneg (show 0 ≤ -num by omega), Int.neg_tmod, Int.neg_neg]
      rw [e]; omega

set_option maxHeartbeats 40000000 in
theorem refPut_any (a : Option Addr) (c : Nat) (l : List G) (w : World) (h : GAt w w.heap.size a l) (hok : ∀ g ∈ l, g.ok) (hlen : l.length ≤ 1000000) (hl : (pgs l).length ≤ 900000) :
    Calls Tryd.prog 27 #[.slice a l.length c] w (PutPost w (pgs l)) := by
  obtain ⟨L, hL⟩ : ∃ L, L = l.length := ⟨_, rfl⟩
  have HL : Hid (L = l.length) := hL
  have HA := Lib.hid h
  have HO := Lib.hid hok
  have Hp : Hid (∀ k, (pgs (l.take k)).length ≤ 900000) := fun k => Nat.le_trans (pgs_take_le l k) hl
  have He : Hid (l.take L = l) := by show _ = _; rw [hL]; simp
  rw [← hL] at hlen ⊢
  clear hL h hok hl
  go_enter Tryd.func27, Tryd.ntmps27
  go_wp2_with fail
  go_loopw [3, 4] (fun u i W => ∃ k : Nat, k ≤ L ∧ i = .int .i64 (k : Int) ∧ Hid (Gone w w.heap.size (.slice none 0 0) (pgs (l.take k)) u W)) (fun _ i _ => L - (intOf i).toNat)
  case atStart => exact ⟨0, Nat.zero_le _, rfl, Gone.refl (Own8.nil_ _ _)⟩
  case round =>
    obtain ⟨k, hk, rfl, hg⟩ := hrel
    have hb : Hid (Below w.heap.size w wr) := hg.out.below (Own8.nil_ w _) (Nat.le_refl _)
    by_cases hlt : k < L
    · have hkl : k < l.length := by have := HL.out; omega
      obtain ⟨b, off, ad, cc, rfl, hbl, c0, c1, c2, c3, hd⟩ := (HA.out.below hb.out) k hkl
      obtain ⟨o1, o2, o3, o4, o5⟩ := HO.out l[k] (List.getElem_mem hkl)
      have hs := pgs_take l k hkl
      have hk1 := Hp.out (k + 1)
      have hkk := Hp.out k
      generalize l[k]'hkl = g at *
      obtain ⟨num, kind, int, data⟩ := g
      simp only [G.bytes] at *
      have hwb := hg.out.only.size
      have hd2 := hd.more hwb
      have hdb : data.length ≤ 100000000 := o4
      rw [hs] at hk1
      have HS := Lib.hid hs
      obtain ⟨t, n, ht, hn, hhd, hts, ht1, ht2⟩ := tmod_facts num
      have hHd := Lib.hid hhd
      have Hown : Hid (∀ W, Below wr.heap.size wr W → Own8 W w.heap.size u3 (pgs (l.take k))) := fun W h => hg.out.own.below h
      have HG : Hid (∀ W W2 v2 l2, Below wr.heap.size wr W → Gone W w.heap.size u3 l2 v2 W2 → Gone w w.heap.size (.slice none 0 0) l2 v2 W2) := fun W W2 v2 l2 h1 h2 => hg.out.trans ((⟨hg.out.own.below h1, Only.of_below h1 _, .inl rfl⟩ : Gone wr w.heap.size u3 (pgs (l.take k)) u3 W).trans h2)
      have hBy : Hid (∀ W (x : Nat) (i : Int), i = (x : Int) → x < 18446744073709551616 → Calls Tryd.prog 40 #[.int .u64 i] W (PutPost W (vb x))) := fun W x i hi hx => by subst hi; exact refBytes_any x W hx
      have hKp := Lib.hid hkk
      have hK1 := Lib.hid hk1
      have Hd2 := Lib.hid hd2
      have h0 : (0 : Int) ≤ (n : Int) := by omega
      obtain ⟨m, hm⟩ : ∃ m, m = data.length := ⟨_, rfl⟩
      have Hm := Lib.hid hm
      rw [← hm] at c3 hdb
      have O5 := Lib.hid o5
      clear hs hhd hk1 hkk hd hd2 o4 o5 hm
      rcases hts with ⟨hneg, hsum⟩ | ⟨hneg, hsum⟩
      · have hneg' : decide (t < 0) = true := decide_eq_true hneg
        clear hneg
        by_cases hkd : kind = 0
        · subst hkd
          go_wp2_with fail
          refine (hBy.out _ int _ rfl o3).mono ?_
          rintro e W2 ⟨v2, rfl, ho2, hb2⟩
          obtain ⟨hA2, hB2, hsz⟩ := one_kept hb2
          have d1 : W2.cell? ⟨wr.heap.size, 1, none⟩ = some (.int .i64 0) := hA2.cell 1
          have Hb2 : Hid (wr.heap.size ≤ (wr.alloc (.cells #[.int .i64 num, .int .i64 0, .int .u64 (int : Int), .slice ad m cc] 43)).heap.size) := by show _ ≤ _; simp
          have Ho2 := Lib.hid ho2
          have B2 := Lib.hid hB2
          clear ho2 hb2 hB2 hsz c0 c1 c2 c3
          clear hA2
          go_wp2_with fail
          refine (hBy.out _ (headOf num 0) _ (by rw [hHd.out]; omega) (headOf_lt num 0 (by omega))).mono ?_
          rintro e W3 ⟨v3, rfl, ho3, hb3⟩
          have he : pfI num 0 int data = vb (headOf num 0) ++ vb int := by simp [pfI]
          obtain ⟨r1, R1, r2, R2, hr1, hr2, hgg⟩ := put_end (Hown.out _ (Below.refl _ _)) (B2.out.trans (hb3.mono B2.out.size)) ho3 (Ho2.out.below hb3) Hb2.out hwb (by have h9 := hK1.out; rw [he] at h9; simp only [List.length_append] at h9 ⊢; omega)
          rw [← he, ← HS.out] at hgg
          have HR1 := Lib.hid hr1
          have HR2 := Lib.hid hr2
          have Hgg := Lib.hid (hg.out.trans hgg)
          clear he hr1 hr2 hgg ho3 hb3 d1
          go_wp2_with (first | (at_builtin; refine app_run rfl (.tmp 52) (.tmp 59) 26 rfl _ _ r1 rfl rfl HR1.out ?_) | (at_builtin; refine app_run rfl (.tmp 60) (.tmp 61) 26 rfl _ _ r2 rfl rfl HR2.out ?_))
          go_roundw
          case rel => exact ⟨k + 1, hlt, by go_num, Hgg⟩
          case measure => simp [intOf]; omega
        · have hk0 := hkd
          clear hkd
          by_cases hkd : kind = 1
          · subst hkd
            go_wp2_with fail
            refine (refFixed_any int 8 _ o3 (by omega)).mono ?_
            rintro e W2 ⟨v2, rfl, ho2, hb2⟩
            obtain ⟨hA2, hB2, hsz⟩ := one_kept hb2
            have d1 : W2.cell? ⟨wr.heap.size, 1, none⟩ = some (.int .i64 1) := hA2.cell 1
            have Hb2 : Hid (wr.heap.size ≤ (wr.alloc (.cells #[.int .i64 num, .int .i64 1, .int .u64 (int : Int), .slice ad m cc] 43)).heap.size) := by show _ ≤ _; simp
            have Ho2 := Lib.hid ho2
            have B2 := Lib.hid hB2
            clear ho2 hb2 hB2 hsz c0 c1 c2 c3
            clear hA2
            go_wp2_with fail
            refine (hBy.out _ (headOf num 1) _ (by rw [hHd.out]; omega) (headOf_lt num 1 (by omega))).mono ?_
            rintro e W3 ⟨v3, rfl, ho3, hb3⟩
            have he : pfI num 1 int data = vb (headOf num 1) ++ fx int 8 := by simp [pfI]
            obtain ⟨r1, R1, r2, R2, hr1, hr2, hgg⟩ := put_end (Hown.out _ (Below.refl _ _)) (B2.out.trans (hb3.mono B2.out.size)) ho3 (Ho2.out.below hb3) Hb2.out hwb (by have h9 := hK1.out; rw [he] at h9; simp only [List.length_append] at h9 ⊢; omega)
            rw [← he, ← HS.out] at hgg
            have HR1 := Lib.hid hr1
            have HR2 := Lib.hid hr2
            have Hgg := Lib.hid (hg.out.trans hgg)
            clear he hr1 hr2 hgg ho3 hb3 d1
            go_wp2_with (first | (at_builtin; refine app_run rfl (.tmp 52) (.tmp 59) 26 rfl _ _ r1 rfl rfl HR1.out ?_) | (at_builtin; refine app_run rfl (.tmp 60) (.tmp 61) 26 rfl _ _ r2 rfl rfl HR2.out ?_))
            go_roundw
            case rel => exact ⟨k + 1, hlt, by go_num, Hgg⟩
            case measure => simp [intOf]; omega
          · have hk1' := hkd
            clear hkd
            by_cases hkd : kind = 2
            · subst hkd
              go_upto_region 16 with (fail)
              obtain ⟨W1, hW1⟩ : ∃ W1, W1 = wr.alloc (.cells #[.int .i64 num, .int .i64 2, .int .u64 (int : Int), .slice ad m cc] 43) := ⟨_, rfl⟩
              obtain ⟨g1, hg1⟩ : ∃ g1, g1 = wr.heap.size := ⟨_, rfl⟩
              have HA1 : Hid (Whole W1 g1 43 #[.int .i64 num, .int .i64 2, .int .u64 (int : Int), .slice ad m cc]) := by rw [hW1, hg1]; exact Whole.new wr _ _
              have HBr : Hid (Below wr.heap.size wr W1) := by rw [hW1]; exact (Below.refl _ _).alloc (Nat.le_refl _) _
              have HBw : Hid (Below w.heap.size wr W1.drew) := (HBr.out.mono hwb).drew
              have HszW : Hid (w.heap.size ≤ W1.drew.heap.size) := Nat.le_trans hwb HBr.out.size
              have Hwm : Hid (IntKind.u64.wrap (m : Int) = (m : Int)) := IntWalk.u64_in _ ⟨by omega, by omega⟩
              rw [← hW1, ← hg1]
              have Hg1 := Lib.hid hg1
              clear hW1 hg1 c0 c1 c2 c3
              refine held_start (by kernel_rfl) ?_
              refine wpAnyH_take (i := 0) (oi := { dst := some 39, op := Go.Op.fieldAddr 43 (Go.Operand.tmp 5) 3, type := 0, pos := "ref.go:143", after := #[], guard := none }) (v := ?_) rfl (by kernel_rfl) (by kernel_rfl) (by kernel_rfl) (fun _ _ _ h => h) (Or.inl ⟨by rfl, ?_⟩) (Kp.refl _) ?_
              rotate_left 1
              · intro w5 hSw
                go_simp; all_goals (with_reducible rfl)
              try simp only [Act.put, List.setIfInBounds_toArray, List.set_cons_zero, List.set_cons_succ]
              refine wpAnyH_take (i := 1) (oi := { dst := some 40, op := Go.Op.load 26 (Go.Operand.tmp 39), type := 26, pos := "ref.go:143", after := #[{ on := 0, ground := Go.Ground.data }], guard := none }) (v := ?_) rfl (by kernel_rfl) (by kernel_rfl) (by kernel_rfl) (fun _ _ _ h => h) (Or.inl ⟨by rfl, ?_⟩) (Kp.refl _) ?_
              rotate_left 1
              · intro w5 hSw
                have d3 : w5.cell? ⟨g1, 3, none⟩ = some (.slice ad m cc) := box3_of (HA1.out.drew.below hSw HA1.out.lt)
                go_simp; all_goals (with_reducible rfl)
              try simp only [Act.put, List.setIfInBounds_toArray, List.set_cons_zero, List.set_cons_succ]
              refine wpAnyH_take (i := 2) (oi := { dst := some 41, op := Go.Op.call { callee := Go.Callee.builtin Go.Builtin.len, args := #[Go.Operand.tmp 40], argTypes := #[26] }, type := 3, pos := "ref.go:143", after := #[{ on := 1, ground := Go.Ground.data }], guard := none }) (v := ?_) rfl (by kernel_rfl) (by kernel_rfl) (by kernel_rfl) (fun _ _ _ h => h) (Or.inl ⟨by rfl, ?_⟩) (Kp.refl _) ?_
              rotate_left 1
              · intro w5 hSw
                go_simp; all_goals (with_reducible rfl)
              try simp only [Act.put, List.setIfInBounds_toArray, List.set_cons_zero, List.set_cons_succ]
              refine wpAnyH_take (i := 3) (oi := { dst := some 42, op := Go.Op.convert 3 22 (Go.Operand.tmp 41), type := 22, pos := "ref.go:143", after := #[{ on := 2, ground := Go.Ground.data }], guard := none }) (v := ?_) rfl (by kernel_rfl) (by kernel_rfl) (by kernel_rfl) (fun _ _ _ h => h) (Or.inl ⟨by rfl, ?_⟩) (Kp.refl _) ?_
              rotate_left 1
              · intro w5 hSw
                have hwm := Hwm.out
                go_simp; all_goals (with_reducible rfl)
              try simp only [Act.put, List.setIfInBounds_toArray, List.set_cons_zero, List.set_cons_succ]
              refine wpAnyH_take (i := 5) (oi := { dst := some 44, op := Go.Op.fieldAddr 43 (Go.Operand.tmp 5) 3, type := 0, pos := "ref.go:143", after := #[], guard := none }) (v := ?_) rfl (by kernel_rfl) (by kernel_rfl) (by kernel_rfl) (fun _ _ _ h => h) (Or.inl ⟨by rfl, ?_⟩) (Kp.refl _) ?_
              rotate_left 1
              · intro w5 hSw
                go_simp; all_goals (with_reducible rfl)
              try simp only [Act.put, List.setIfInBounds_toArray, List.set_cons_zero, List.set_cons_succ]
              refine wpAnyH_take (i := 6) (oi := { dst := some 45, op := Go.Op.load 26 (Go.Operand.tmp 44), type := 26, pos := "ref.go:143", after := #[{ on := 5, ground := Go.Ground.data }], guard := none }) (v := ?_) rfl (by kernel_rfl) (by kernel_rfl) (by kernel_rfl) (fun _ _ _ h => h) (Or.inl ⟨by rfl, ?_⟩) (Kp.refl _) ?_
              rotate_left 1
              · intro w5 hSw
                have d3 : w5.cell? ⟨g1, 3, none⟩ = some (.slice ad m cc) := box3_of (HA1.out.drew.below hSw HA1.out.lt)
                go_simp; all_goals (with_reducible rfl)
              try simp only [Act.put, List.setIfInBounds_toArray, List.set_cons_zero, List.set_cons_succ]
              refine wpAnyH_ready (rs := [4]) (by kernel_rfl) (by simp) ?_
              refine AllReadyH.cons (o := { dst := some 43, op := Go.Op.call { callee := Go.Callee.value (Go.Operand.func 40), args := #[Go.Operand.tmp 42], argTypes := #[22] }, type := 26, pos := "ref.go:143", after := #[{ on := 3, ground := Go.Ground.data }], guard := none }) rfl (fun K hK => ?_) AllReadyH.nil
              go_simp
              refine (hBy.out _ m _ (by first | rfl | exact Hwm.out) (by omega)).mono ?_; rintro e Y1 ⟨v4, rfl, ho4, hb4⟩; have BY := Lib.hid hb4; obtain ⟨q1, Q1, hq1, gq⟩ := app_8 _ v4 (vb m) ho4 wr.heap.size data ad cc (Hd2.out.below (HBr.out.drew.trans (hb4.mono HBr.out.size))) (by have h9 := hK1.out; simp [pfI] at h9; have := Hm.out; subst this; omega) hb4.size; rw [← Hm.out] at hq1; have HQ1 := Lib.hid hq1; have HGQ := Lib.hid gq; have BQ := Lib.hid (hb4.trans (gq.below ho4 hb4.size)); have Ho4 := Lib.hid ho4; clear ho4 hb4 hq1 gq
              go_wp2_with fail
              refine hK.out _ _ (BY.out) (fun _ => ?_)
              clear hK K
              try simp only [Act.put, List.setIfInBounds_toArray, List.set_cons_zero, List.set_cons_succ]
              refine wpAnyH_ready (rs := [7]) (by kernel_rfl) (by simp) ?_
              refine AllReadyH.cons (o := { dst := some 46, op := Go.Op.call { callee := Go.Callee.builtin Go.Builtin.append, args := #[Go.Operand.tmp 43, Go.Operand.tmp 45], argTypes := #[26, 26] }, type := 26, pos := "ref.go:143", after := #[{ on := 4, ground := Go.Ground.data }, { on := 6, ground := Go.Ground.data }, { on := 4, ground := Go.Ground.chain }], guard := none }) rfl (fun K hK => ?_) AllReadyH.nil
              refine held_app (by rfl) (.tmp 43) (.tmp 45) 26 rfl _ _ (q1) rfl rfl (HQ1.out) ?_
              refine hK.out _ _ (BQ.out) (fun _ => ?_)
              clear hK K
              try simp only [Act.put, List.setIfInBounds_toArray, List.set_cons_zero, List.set_cons_succ]
              refine wpAnyH_take (i := 8) (oi := { dst := some 7, op := Go.Op.assign (Go.Operand.tmp 46), type := 26, pos := "ref.go:143", after := #[{ on := 7, ground := Go.Ground.data }, { on := 7, ground := Go.Ground.chain }, { on := 0, ground := Go.Ground.phase }, { on := 1, ground := Go.Ground.phase }, { on := 2, ground := Go.Ground.phase }, { on := 3, ground := Go.Ground.phase }, { on := 4, ground := Go.Ground.phase }, { on := 5, ground := Go.Ground.phase }, { on := 6, ground := Go.Ground.phase }, { on := 7, ground := Go.Ground.phase }], guard := none }) (v := ?_) rfl (by kernel_rfl) (by kernel_rfl) (by kernel_rfl) (fun _ _ _ h => h) (Or.inl ⟨by rfl, ?_⟩) (BQ.out) ?_
              rotate_left 1
              · intro w5 hSw
                go_simp; all_goals (with_reducible rfl)
              try simp only [Act.put, List.setIfInBounds_toArray, List.set_cons_zero, List.set_cons_succ]
              refine wpAnyH_done (by kernel_rfl) ?_ _
              have hA2 : Whole Q1 g1 43 #[.int .i64 num, .int .i64 2, .int .u64 (int : Int), .slice ad m cc] := HA1.out.drew.below BQ.out HA1.out.lt
              have d1' : Q1.cell? ⟨g1, 1, none⟩ = some (.int .i64 2) := hA2.cell 1
              have d1 := d1'
              have B2 : Hid (Below wr.heap.size wr Q1) := HBr.out.drew.trans (BQ.out.mono HBr.out.size)
              have Hb2 : Hid (wr.heap.size ≤ W1.drew.heap.size) := HBr.out.size
              have Ho2 : Hid (Own8 Q1 W1.drew.heap.size q1 (vb data.length ++ data)) := by rw [← Hm.out]; exact HGQ.out.own
              clear d1'
              clear hA2
              go_wp2_with fail
              refine (hBy.out _ (headOf num 2) _ (by rw [hHd.out]; omega) (headOf_lt num 2 (by omega))).mono ?_
              rintro e W3 ⟨v3, rfl, ho3, hb3⟩
              have he : pfI num 2 int data = vb (headOf num 2) ++ (vb data.length ++ data) := by simp [pfI]
              obtain ⟨r1, R1, r2, R2, hr1, hr2, hgg⟩ := put_end (Hown.out _ (Below.refl _ _)) (B2.out.trans (hb3.mono B2.out.size)) ho3 (Ho2.out.below hb3) Hb2.out hwb (by have h9 := hK1.out; rw [he] at h9; simp only [List.length_append] at h9 ⊢; omega)
              rw [← he, ← HS.out] at hgg
              have HR1 := Lib.hid hr1
              have HR2 := Lib.hid hr2
              have Hgg := Lib.hid (hg.out.trans hgg)
              clear he hr1 hr2 hgg ho3 hb3 d1
              go_wp2_with (first | (at_builtin; refine app_run rfl (.tmp 52) (.tmp 59) 26 rfl _ _ r1 rfl rfl HR1.out ?_) | (at_builtin; refine app_run rfl (.tmp 60) (.tmp 61) 26 rfl _ _ r2 rfl rfl HR2.out ?_))
              go_roundw
              case rel => exact ⟨k + 1, hlt, by go_num, Hgg⟩
              case measure => simp [intOf]; omega
            · have hk2 := hkd
              clear hkd
              by_cases hkd : kind = 5
              · subst hkd
                go_wp2_with fail
                refine (refFixed_any int 4 _ o3 (by omega)).mono ?_
                rintro e W2 ⟨v2, rfl, ho2, hb2⟩
                obtain ⟨hA2, hB2, hsz⟩ := one_kept hb2
                have d1 : W2.cell? ⟨wr.heap.size, 1, none⟩ = some (.int .i64 5) := hA2.cell 1
                have Hb2 : Hid (wr.heap.size ≤ (wr.alloc (.cells #[.int .i64 num, .int .i64 5, .int .u64 (int : Int), .slice ad m cc] 43)).heap.size) := by show _ ≤ _; simp
                have Ho2 := Lib.hid ho2
                have B2 := Lib.hid hB2
                clear ho2 hb2 hB2 hsz c0 c1 c2 c3
                clear hA2
                go_wp2_with fail
                refine (hBy.out _ (headOf num 5) _ (by rw [hHd.out]; omega) (headOf_lt num 5 (by omega))).mono ?_
                rintro e W3 ⟨v3, rfl, ho3, hb3⟩
                have he : pfI num 5 int data = vb (headOf num 5) ++ fx int 4 := by simp [pfI]
                obtain ⟨r1, R1, r2, R2, hr1, hr2, hgg⟩ := put_end (Hown.out _ (Below.refl _ _)) (B2.out.trans (hb3.mono B2.out.size)) ho3 (Ho2.out.below hb3) Hb2.out hwb (by have h9 := hK1.out; rw [he] at h9; simp only [List.length_append] at h9 ⊢; omega)
                rw [← he, ← HS.out] at hgg
                have HR1 := Lib.hid hr1
                have HR2 := Lib.hid hr2
                have Hgg := Lib.hid (hg.out.trans hgg)
                clear he hr1 hr2 hgg ho3 hb3 d1
                go_wp2_with (first | (at_builtin; refine app_run rfl (.tmp 52) (.tmp 59) 26 rfl _ _ r1 rfl rfl HR1.out ?_) | (at_builtin; refine app_run rfl (.tmp 60) (.tmp 61) 26 rfl _ _ r2 rfl rfl HR2.out ?_))
                go_roundw
                case rel => exact ⟨k + 1, hlt, by go_num, Hgg⟩
                case measure => simp [intOf]; omega
              · have k0 : (kind == 0) = false := by simp [hk0]
                have k1 : (kind == 1) = false := by simp [hk1']
                have k2 : (kind == 2) = false := by simp [hk2]
                have k5 : (kind == 5) = false := by simp [hkd]
                have he : pfI num kind int data = [] := by simp [pfI, hk0, hk1', hk2, hkd]
                have hss := HS.out
                rw [he, List.append_nil] at hss
                have Hgg : Hid (Gone w w.heap.size (.slice none 0 0) (pgs (l.take (k + 1))) u3 (wr.alloc (.cells #[.int .i64 num, .int .i64 kind, .int .u64 (int : Int), .slice ad m cc] 43))) := by
                  rw [hss]; exact hg.out.trans (⟨hg.out.own.alloc _, (Only.refl _ _).alloc _, .inl rfl⟩)
                clear hk0 hk1' hk2 hkd he hss
                go_wp2_with fail
                go_roundw
                case rel => exact ⟨k + 1, hlt, by go_num, Hgg⟩
                case measure => simp [intOf]; omega
      · have hneg' : decide (t < 0) = false := decide_eq_false hneg
        subst hsum
        clear hneg
        by_cases hkd : kind = 0
        · subst hkd
          go_wp2_with fail
          refine (hBy.out _ int _ rfl o3).mono ?_
          rintro e W2 ⟨v2, rfl, ho2, hb2⟩
          obtain ⟨hA2, hB2, hsz⟩ := one_kept hb2
          have d1 : W2.cell? ⟨wr.heap.size, 1, none⟩ = some (.int .i64 0) := hA2.cell 1
          have Hb2 : Hid (wr.heap.size ≤ (wr.alloc (.cells #[.int .i64 num, .int .i64 0, .int .u64 (int : Int), .slice ad m cc] 43)).heap.size) := by show _ ≤ _; simp
          have Ho2 := Lib.hid ho2
          have B2 := Lib.hid hB2
          clear ho2 hb2 hB2 hsz c0 c1 c2 c3
          clear hA2
          go_wp2_with fail
          refine (hBy.out _ (headOf num 0) _ (by rw [hHd.out]; omega) (headOf_lt num 0 (by omega))).mono ?_
          rintro e W3 ⟨v3, rfl, ho3, hb3⟩
          have he : pfI num 0 int data = vb (headOf num 0) ++ vb int := by simp [pfI]
          obtain ⟨r1, R1, r2, R2, hr1, hr2, hgg⟩ := put_end (Hown.out _ (Below.refl _ _)) (B2.out.trans (hb3.mono B2.out.size)) ho3 (Ho2.out.below hb3) Hb2.out hwb (by have h9 := hK1.out; rw [he] at h9; simp only [List.length_append] at h9 ⊢; omega)
          rw [← he, ← HS.out] at hgg
          have HR1 := Lib.hid hr1
          have HR2 := Lib.hid hr2
          have Hgg := Lib.hid (hg.out.trans hgg)
          clear he hr1 hr2 hgg ho3 hb3 d1
          go_wp2_with (first | (at_builtin; refine app_run rfl (.tmp 52) (.tmp 59) 26 rfl _ _ r1 rfl rfl HR1.out ?_) | (at_builtin; refine app_run rfl (.tmp 60) (.tmp 61) 26 rfl _ _ r2 rfl rfl HR2.out ?_))
          go_roundw
          case rel => exact ⟨k + 1, hlt, by go_num, Hgg⟩
          case measure => simp [intOf]; omega
        · have hk0 := hkd
          clear hkd
          by_cases hkd : kind = 1
          · subst hkd
            go_wp2_with fail
            refine (refFixed_any int 8 _ o3 (by omega)).mono ?_
            rintro e W2 ⟨v2, rfl, ho2, hb2⟩
            obtain ⟨hA2, hB2, hsz⟩ := one_kept hb2
            have d1 : W2.cell? ⟨wr.heap.size, 1, none⟩ = some (.int .i64 1) := hA2.cell 1
            have Hb2 : Hid (wr.heap.size ≤ (wr.alloc (.cells #[.int .i64 num, .int .i64 1, .int .u64 (int : Int), .slice ad m cc] 43)).heap.size) := by show _ ≤ _; simp
            have Ho2 := Lib.hid ho2
            have B2 := Lib.hid hB2
            clear ho2 hb2 hB2 hsz c0 c1 c2 c3
            clear hA2
            go_wp2_with fail
            refine (hBy.out _ (headOf num 1) _ (by rw [hHd.out]; omega) (headOf_lt num 1 (by omega))).mono ?_
            rintro e W3 ⟨v3, rfl, ho3, hb3⟩
            have he : pfI num 1 int data = vb (headOf num 1) ++ fx int 8 := by simp [pfI]
            obtain ⟨r1, R1, r2, R2, hr1, hr2, hgg⟩ := put_end (Hown.out _ (Below.refl _ _)) (B2.out.trans (hb3.mono B2.out.size)) ho3 (Ho2.out.below hb3) Hb2.out hwb (by have h9 := hK1.out; rw [he] at h9; simp only [List.length_append] at h9 ⊢; omega)
            rw [← he, ← HS.out] at hgg
            have HR1 := Lib.hid hr1
            have HR2 := Lib.hid hr2
            have Hgg := Lib.hid (hg.out.trans hgg)
            clear he hr1 hr2 hgg ho3 hb3 d1
            go_wp2_with (first | (at_builtin; refine app_run rfl (.tmp 52) (.tmp 59) 26 rfl _ _ r1 rfl rfl HR1.out ?_) | (at_builtin; refine app_run rfl (.tmp 60) (.tmp 61) 26 rfl _ _ r2 rfl rfl HR2.out ?_))
            go_roundw
            case rel => exact ⟨k + 1, hlt, by go_num, Hgg⟩
            case measure => simp [intOf]; omega
          · have hk1' := hkd
            clear hkd
            by_cases hkd : kind = 2
            · subst hkd
              go_upto_region 16 with (fail)
              obtain ⟨W1, hW1⟩ : ∃ W1, W1 = wr.alloc (.cells #[.int .i64 num, .int .i64 2, .int .u64 (int : Int), .slice ad m cc] 43) := ⟨_, rfl⟩
              obtain ⟨g1, hg1⟩ : ∃ g1, g1 = wr.heap.size := ⟨_, rfl⟩
              have HA1 : Hid (Whole W1 g1 43 #[.int .i64 num, .int .i64 2, .int .u64 (int : Int), .slice ad m cc]) := by rw [hW1, hg1]; exact Whole.new wr _ _
              have HBr : Hid (Below wr.heap.size wr W1) := by rw [hW1]; exact (Below.refl _ _).alloc (Nat.le_refl _) _
              have HBw : Hid (Below w.heap.size wr W1.drew) := (HBr.out.mono hwb).drew
              have HszW : Hid (w.heap.size ≤ W1.drew.heap.size) := Nat.le_trans hwb HBr.out.size
              have Hwm : Hid (IntKind.u64.wrap (m : Int) = (m : Int)) := IntWalk.u64_in _ ⟨by omega, by omega⟩
              rw [← hW1, ← hg1]
              have Hg1 := Lib.hid hg1
              clear hW1 hg1 c0 c1 c2 c3
              refine held_start (by kernel_rfl) ?_
              refine wpAnyH_take (i := 0) (oi := { dst := some 39, op := Go.Op.fieldAddr 43 (Go.Operand.tmp 5) 3, type := 0, pos := "ref.go:143", after := #[], guard := none }) (v := ?_) rfl (by kernel_rfl) (by kernel_rfl) (by kernel_rfl) (fun _ _ _ h => h) (Or.inl ⟨by rfl, ?_⟩) (Kp.refl _) ?_
              rotate_left 1
              · intro w5 hSw
                go_simp; all_goals (with_reducible rfl)
              try simp only [Act.put, List.setIfInBounds_toArray, List.set_cons_zero, List.set_cons_succ]
              refine wpAnyH_take (i := 1) (oi := { dst := some 40, op := Go.Op.load 26 (Go.Operand.tmp 39), type := 26, pos := "ref.go:143", after := #[{ on := 0, ground := Go.Ground.data }], guard := none }) (v := ?_) rfl (by kernel_rfl) (by kernel_rfl) (by kernel_rfl) (fun _ _ _ h => h) (Or.inl ⟨by rfl, ?_⟩) (Kp.refl _) ?_
              rotate_left 1
              · intro w5 hSw
                have d3 : w5.cell? ⟨g1, 3, none⟩ = some (.slice ad m cc) := box3_of (HA1.out.drew.below hSw HA1.out.lt)
                go_simp; all_goals (with_reducible rfl)
              try simp only [Act.put, List.setIfInBounds_toArray, List.set_cons_zero, List.set_cons_succ]
              refine wpAnyH_take (i := 2) (oi := { dst := some 41, op := Go.Op.call { callee := Go.Callee.builtin Go.Builtin.len, args := #[Go.Operand.tmp 40], argTypes := #[26] }, type := 3, pos := "ref.go:143", after := #[{ on := 1, ground := Go.Ground.data }], guard := none }) (v := ?_) rfl (by kernel_rfl) (by kernel_rfl) (by kernel_rfl) (fun _ _ _ h => h) (Or.inl ⟨by rfl, ?_⟩) (Kp.refl _) ?_
              rotate_left 1
              · intro w5 hSw
                go_simp; all_goals (with_reducible rfl)
              try simp only [Act.put, List.setIfInBounds_toArray, List.set_cons_zero, List.set_cons_succ]
              refine wpAnyH_take (i := 3) (oi := { dst := some 42, op := Go.Op.convert 3 22 (Go.Operand.tmp 41), type := 22, pos := "ref.go:143", after := #[{ on := 2, ground := Go.Ground.data }], guard := none }) (v := ?_) rfl (by kernel_rfl) (by kernel_rfl) (by kernel_rfl) (fun _ _ _ h => h) (Or.inl ⟨by rfl, ?_⟩) (Kp.refl _) ?_
              rotate_left 1
              · intro w5 hSw
                have hwm := Hwm.out
                go_simp; all_goals (with_reducible rfl)
              try simp only [Act.put, List.setIfInBounds_toArray, List.set_cons_zero, List.set_cons_succ]
              refine wpAnyH_take (i := 5) (oi := { dst := some 44, op := Go.Op.fieldAddr 43 (Go.Operand.tmp 5) 3, type := 0, pos := "ref.go:143", after := #[], guard := none }) (v := ?_) rfl (by kernel_rfl) (by kernel_rfl) (by kernel_rfl) (fun _ _ _ h => h) (Or.inl ⟨by rfl, ?_⟩) (Kp.refl _) ?_
              rotate_left 1
              · intro w5 hSw
                go_simp; all_goals (with_reducible rfl)
              try simp only [Act.put, List.setIfInBounds_toArray, List.set_cons_zero, List.set_cons_succ]
              refine wpAnyH_take (i := 6) (oi := { dst := some 45, op := Go.Op.load 26 (Go.Operand.tmp 44), type := 26, pos := "ref.go:143", after := #[{ on := 5, ground := Go.Ground.data }], guard := none }) (v := ?_) rfl (by kernel_rfl) (by kernel_rfl) (by kernel_rfl) (fun _ _ _ h => h) (Or.inl ⟨by rfl, ?_⟩) (Kp.refl _) ?_
              rotate_left 1
              · intro w5 hSw
                have d3 : w5.cell? ⟨g1, 3, none⟩ = some (.slice ad m cc) := box3_of (HA1.out.drew.below hSw HA1.out.lt)
                go_simp; all_goals (with_reducible rfl)
              try simp only [Act.put, List.setIfInBounds_toArray, List.set_cons_zero, List.set_cons_succ]
              refine wpAnyH_ready (rs := [4]) (by kernel_rfl) (by simp) ?_
              refine AllReadyH.cons (o := { dst := some 43, op := Go.Op.call { callee := Go.Callee.value (Go.Operand.func 40), args := #[Go.Operand.tmp 42], argTypes := #[22] }, type := 26, pos := "ref.go:143", after := #[{ on := 3, ground := Go.Ground.data }], guard := none }) rfl (fun K hK => ?_) AllReadyH.nil
              go_simp
              refine (hBy.out _ m _ (by first | rfl | exact Hwm.out) (by omega)).mono ?_; rintro e Y1 ⟨v4, rfl, ho4, hb4⟩; have BY := Lib.hid hb4; obtain ⟨q1, Q1, hq1, gq⟩ := app_8 _ v4 (vb m) ho4 wr.heap.size data ad cc (Hd2.out.below (HBr.out.drew.trans (hb4.mono HBr.out.size))) (by have h9 := hK1.out; simp [pfI] at h9; have := Hm.out; subst this; omega) hb4.size; rw [← Hm.out] at hq1; have HQ1 := Lib.hid hq1; have HGQ := Lib.hid gq; have BQ := Lib.hid (hb4.trans (gq.below ho4 hb4.size)); have Ho4 := Lib.hid ho4; clear ho4 hb4 hq1 gq
              go_wp2_with fail
              refine hK.out _ _ (BY.out) (fun _ => ?_)
              clear hK K
              try simp only [Act.put, List.setIfInBounds_toArray, List.set_cons_zero, List.set_cons_succ]
              refine wpAnyH_ready (rs := [7]) (by kernel_rfl) (by simp) ?_
              refine AllReadyH.cons (o := { dst := some 46, op := Go.Op.call { callee := Go.Callee.builtin Go.Builtin.append, args := #[Go.Operand.tmp 43, Go.Operand.tmp 45], argTypes := #[26, 26] }, type := 26, pos := "ref.go:143", after := #[{ on := 4, ground := Go.Ground.data }, { on := 6, ground := Go.Ground.data }, { on := 4, ground := Go.Ground.chain }], guard := none }) rfl (fun K hK => ?_) AllReadyH.nil
              refine held_app (by rfl) (.tmp 43) (.tmp 45) 26 rfl _ _ (q1) rfl rfl (HQ1.out) ?_
              refine hK.out _ _ (BQ.out) (fun _ => ?_)
              clear hK K
              try simp only [Act.put, List.setIfInBounds_toArray, List.set_cons_zero, List.set_cons_succ]
              refine wpAnyH_take (i := 8) (oi := { dst := some 7, op := Go.Op.assign (Go.Operand.tmp 46), type := 26, pos := "ref.go:143", after := #[{ on := 7, ground := Go.Ground.data }, { on := 7, ground := Go.Ground.chain }, { on := 0, ground := Go.Ground.phase }, { on := 1, ground := Go.Ground.phase }, { on := 2, ground := Go.Ground.phase }, { on := 3, ground := Go.Ground.phase }, { on := 4, ground := Go.Ground.phase }, { on := 5, ground := Go.Ground.phase }, { on := 6, ground := Go.Ground.phase }, { on := 7, ground := Go.Ground.phase }], guard := none }) (v := ?_) rfl (by kernel_rfl) (by kernel_rfl) (by kernel_rfl) (fun _ _ _ h => h) (Or.inl ⟨by rfl, ?_⟩) (BQ.out) ?_
              rotate_left 1
              · intro w5 hSw
                go_simp; all_goals (with_reducible rfl)
              try simp only [Act.put, List.setIfInBounds_toArray, List.set_cons_zero, List.set_cons_succ]
              refine wpAnyH_done (by kernel_rfl) ?_ _
              have hA2 : Whole Q1 g1 43 #[.int .i64 num, .int .i64 2, .int .u64 (int : Int), .slice ad m cc] := HA1.out.drew.below BQ.out HA1.out.lt
              have d1' : Q1.cell? ⟨g1, 1, none⟩ = some (.int .i64 2) := hA2.cell 1
              have d1 := d1'
              have B2 : Hid (Below wr.heap.size wr Q1) := HBr.out.drew.trans (BQ.out.mono HBr.out.size)
              have Hb2 : Hid (wr.heap.size ≤ W1.drew.heap.size) := HBr.out.size
              have Ho2 : Hid (Own8 Q1 W1.drew.heap.size q1 (vb data.length ++ data)) := by rw [← Hm.out]; exact HGQ.out.own
              clear d1'
              clear hA2
              go_wp2_with fail
              refine (hBy.out _ (headOf num 2) _ (by rw [hHd.out]; omega) (headOf_lt num 2 (by omega))).mono ?_
              rintro e W3 ⟨v3, rfl, ho3, hb3⟩
              have he : pfI num 2 int data = vb (headOf num 2) ++ (vb data.length ++ data) := by simp [pfI]
              obtain ⟨r1, R1, r2, R2, hr1, hr2, hgg⟩ := put_end (Hown.out _ (Below.refl _ _)) (B2.out.trans (hb3.mono B2.out.size)) ho3 (Ho2.out.below hb3) Hb2.out hwb (by have h9 := hK1.out; rw [he] at h9; simp only [List.length_append] at h9 ⊢; omega)
              rw [← he, ← HS.out] at hgg
              have HR1 := Lib.hid hr1
              have HR2 := Lib.hid hr2
              have Hgg := Lib.hid (hg.out.trans hgg)
              clear he hr1 hr2 hgg ho3 hb3 d1
              go_wp2_with (first | (at_builtin; refine app_run rfl (.tmp 52) (.tmp 59) 26 rfl _ _ r1 rfl rfl HR1.out ?_) | (at_builtin; refine app_run rfl (.tmp 60) (.tmp 61) 26 rfl _ _ r2 rfl rfl HR2.out ?_))
              go_roundw
              case rel => exact ⟨k + 1, hlt, by go_num, Hgg⟩
              case measure => simp [intOf]; omega
            · have hk2 := hkd
              clear hkd
              by_cases hkd : kind = 5
              · subst hkd
                go_wp2_with fail
                refine (refFixed_any int 4 _ o3 (by omega)).mono ?_
                rintro e W2 ⟨v2, rfl, ho2, hb2⟩
                obtain ⟨hA2, hB2, hsz⟩ := one_kept hb2
                have d1 : W2.cell? ⟨wr.heap.size, 1, none⟩ = some (.int .i64 5) := hA2.cell 1
                have Hb2 : Hid (wr.heap.size ≤ (wr.alloc (.cells #[.int .i64 num, .int .i64 5, .int .u64 (int : Int), .slice ad m cc] 43)).heap.size) := by show _ ≤ _; simp
                have Ho2 := Lib.hid ho2
                have B2 := Lib.hid hB2
                clear ho2 hb2 hB2 hsz c0 c1 c2 c3
                clear hA2
                go_wp2_with fail
                refine (hBy.out _ (headOf num 5) _ (by rw [hHd.out]; omega) (headOf_lt num 5 (by omega))).mono ?_
                rintro e W3 ⟨v3, rfl, ho3, hb3⟩
                have he : pfI num 5 int data = vb (headOf num 5) ++ fx int 4 := by simp [pfI]
                obtain ⟨r1, R1, r2, R2, hr1, hr2, hgg⟩ := put_end (Hown.out _ (Below.refl _ _)) (B2.out.trans (hb3.mono B2.out.size)) ho3 (Ho2.out.below hb3) Hb2.out hwb (by have h9 := hK1.out; rw [he] at h9; simp only [List.length_append] at h9 ⊢; omega)
                rw [← he, ← HS.out] at hgg
                have HR1 := Lib.hid hr1
                have HR2 := Lib.hid hr2
                have Hgg := Lib.hid (hg.out.trans hgg)
                clear he hr1 hr2 hgg ho3 hb3 d1
                go_wp2_with (first | (at_builtin; refine app_run rfl (.tmp 52) (.tmp 59) 26 rfl _ _ r1 rfl rfl HR1.out ?_) | (at_builtin; refine app_run rfl (.tmp 60) (.tmp 61) 26 rfl _ _ r2 rfl rfl HR2.out ?_))
                go_roundw
                case rel => exact ⟨k + 1, hlt, by go_num, Hgg⟩
                case measure => simp [intOf]; omega
              · have k0 : (kind == 0) = false := by simp [hk0]
                have k1 : (kind == 1) = false := by simp [hk1']
                have k2 : (kind == 2) = false := by simp [hk2]
                have k5 : (kind == 5) = false := by simp [hkd]
                have he : pfI num kind int data = [] := by simp [pfI, hk0, hk1', hk2, hkd]
                have hss := HS.out
                rw [he, List.append_nil] at hss
                have Hgg : Hid (Gone w w.heap.size (.slice none 0 0) (pgs (l.take (k + 1))) u3 (wr.alloc (.cells #[.int .i64 num, .int .i64 kind, .int .u64 (int : Int), .slice ad m cc] 43))) := by
                  rw [hss]; exact hg.out.trans (⟨hg.out.own.alloc _, (Only.refl _ _).alloc _, .inl rfl⟩)
                clear hk0 hk1' hk2 hkd he hss
                go_wp2_with fail
                go_roundw
                case rel => exact ⟨k + 1, hlt, by go_num, Hgg⟩
                case measure => simp [intOf]; omega
    · obtain rfl : k = L := by omega
      have Hg1 : Hid (Gone w w.heap.size (.slice none 0 0) (pgs l) u3 wr) := by have := hg.out; rw [He.out] at this; exact this
      clear hg
      go_wp2_with fail
      go_ret
      exact ⟨_, rfl, Hg1.out.own, hb.out⟩
end Go.Proofs.YtdifojeghplpeaaDoor
