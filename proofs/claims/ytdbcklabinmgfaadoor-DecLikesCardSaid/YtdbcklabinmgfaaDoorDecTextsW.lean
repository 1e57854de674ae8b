/- Layer 16: DecTexts: the law's walk. -/
import Derived.Test.YtdbcklabinmgfaaDoorDecLive
import Derived.Test.YtdbcklabinmgfaaDoorTxt4
import Derived.Test.YtdbcklabinmgfaaDoorInt2
import Derived.Test.YtdbcklabinmgfaaDoorOpenDec
import Derived.Lib.AppendIntMem
import Derived.Lib.LaidTab
import Derived.Lib.LaidU8
namespace Go.Proofs.YtdbcklabinmgfaaDoor
open Go.RowKit Go.Shelf
set_option linter.unusedVariables false
set_option maxRecDepth 100000

shelf_lay LaysM.n171 Nm 171 at Tryd as Tryd.laysItoa
def Tab (w : World) : Prop := Lib.TabIs Tryd.prog w "internal/strconv.uint64pow10" .u64 Lib.pow10Tab
theorem tab_of_reads {w : World} (h : Lib.VarReads Tryd.prog w "internal/strconv.uint64pow10" (Lib.tabData .u64 Lib.pow10Tab)) : Tab w := by
  obtain ⟨g, t, cs, fuel, p, hg, ht, hvar, hd⟩ := h
  have e : (Tryd.prog.globalNamed "internal/strconv.uint64pow10").bind (fun g => (Tryd.prog.globals[g]?).map (·.type)) = some 109 := by kernel_rfl
  rw [hg] at e
  simp only [Option.bind_some] at e
  rw [ht] at e
  obtain rfl := Option.some.inj e
  unfold Tab Lib.TabIs
  rw [hvar, ← Lib.cells_of_tab Tryd.underlying109 Tryd.underlying54 (by kernel_rfl) (by kernel_rfl) hd]
theorem itoa_any (n : Int) (hn : -1000000 ≤ n ∧ n ≤ 1000000) (w : World) (ht : Tab w) : Calls Tryd.prog 60 #[.int .i64 n] w fun e w' => e = .returned (.string ⟨(Lib.itoa n).toArray⟩) ∧ Below w.heap.size w w' :=
  (Any.strconv_Itoa Tryd.laysItoa n (by omega) (by omega) w ht).mono fun e w' ⟨h1, k, os, h2⟩ => ⟨h1, by rw [h2]; exact Lib.below_grow _ _ (Nat.le_refl _) _ _⟩
theorem text_full (ng : Bool) (ds : ByteArray) (x : Int) (w0 w : World) (hs : ds.size ≤ 1000000) (ht : Tab w0) (hw : Below w0.heap.size w0 w) :
    Calls Tryd.prog 16 #[.agg #[.bool ng, .string ds, .int .i64 x]] w fun e w' => e = .returned (.string (strOf (textC ng (bs ds) x (itN ((ds.size : Int) + x - 1))))) ∧ Below w.heap.size w w' := by
  have hB := Lib.tabBelow_of_tabIs ht
  by_cases hr : rightD (ng, bs ds, x) = true
  · have hx := rightD_exp hr
    have hl := (rightD_dig hr).2
    simp only [bs_length] at hl hx
    have h := text_any ng ds x ⟨(Lib.itoa ((ds.size : Int) + x - 1)).toArray⟩ w hs (by have := itoa_size ((ds.size : Int) + x - 1) (by omega); omega) (fun _ _ W hW => itoa_any _ (by omega) W (hB W (keepBelow hW hw)))
    rw [bs_itoa] at h
    exact h
  · have h := text_any ng ds x ⟨#[]⟩ w hs (by decide) (fun h => absurd h hr)
    have e : ∀ it, textC ng (bs ds) x it = [] := fun it => by unfold textC; rw [if_neg hr]
    rw [e] at h ⊢
    exact h
theorem text_parse {ng : Bool} {D : List Nat} {x : Int} (h : rightD (ng, D, x) = true) (R : List Nat) (hR : R.getD 0 0 = 32) :
    parseC (textC ng D x (itN ((D.length : Int) + x - 1)) ++ R) = ((ng, D, x), (textC ng D x (itN ((D.length : Int) + x - 1))).length, 0) := by
  unfold textC
  rw [if_pos h]
  rcases rightD_cases h with e | hRD
  · injection e with e1 e2
    injection e2 with e2 e3
    subst e1 e2 e3
    rw [if_pos rfl]
    exact zero_parse R hR
  · simp only at hRD
    rw [if_neg hRD.ne]
    exact amount_parse ng D x hRD R hR
theorem textC_le (ng : Bool) (ds : ByteArray) (x : Int) : (textC ng (bs ds) x (itN ((ds.size : Int) + x - 1))).length ≤ 10000 ∧ ∀ y ∈ textC ng (bs ds) x (itN ((ds.size : Int) + x - 1)), y < 256 := by
  unfold textC
  by_cases hr : rightD (ng, bs ds, x) = true
  · rw [if_pos hr]
    by_cases h0 : bs ds = []
    · rw [if_pos h0]; exact ⟨by decide, fun y hy => by rw [List.mem_singleton.1 hy]; decide⟩
    · rw [if_neg h0]
      have hx := rightD_exp hr
      have hl := (rightD_dig hr).2
      simp only [bs_length] at hl hx
      have h1 := amountC_le (bs ds) x (itN ((ds.size : Int) + x - 1)) (by rw [bs_length]; exact hl) (by rw [← bs_itoa, bs_length]; have := itoa_size ((ds.size : Int) + x - 1) (by omega); omega) hx
      have hD : ∀ y ∈ bs ds, y < 256 := bs_lt ds
      have hI : ∀ y ∈ itN ((ds.size : Int) + x - 1), y < 256 := fun y hy => by rw [← bs_itoa] at hy; exact bs_lt _ y hy
      refine ⟨?_, fun y hy => ?_⟩
      · rw [List.length_append]
        have : (if ng = true then [45] else ([] : List Nat)).length ≤ 1 := by cases ng <;> decide
        omega
      · rcases List.mem_append.1 hy with hy | hy
        · cases ng with
          | true => rw [if_pos rfl] at hy; rw [List.mem_singleton.1 hy]; decide
          | false => rw [if_neg (by decide)] at hy; cases hy
        · unfold amountC at hy
          have z : ∀ n, y ∈ List.replicate n 48 → y < 256 := fun n h => by rw [(List.mem_replicate.1 h).2]; decide
          split at hy
          · rcases List.mem_append.1 hy with h | h
            · exact hD y h
            · exact z _ h
          · split at hy
            · rcases List.mem_append.1 hy with h | h
              · rcases List.mem_append.1 h with h | h
                · exact hD y (List.mem_of_mem_take h)
                · rw [List.mem_singleton.1 h]; decide
              · exact hD y (List.mem_of_mem_drop h)
            · split at hy
              · rcases List.mem_append.1 hy with h | h
                · rcases List.mem_append.1 h with h | h
                  · simp at h; omega
                  · exact z _ h
                · exact hD y h
              · split at hy
                · rcases List.mem_append.1 hy with h | h
                  · rcases List.mem_append.1 h with h | h
                    · exact hD y h
                    · rw [List.mem_singleton.1 h]; decide
                  · exact hI y h
                · rcases List.mem_append.1 hy with h | h
                  · rcases List.mem_append.1 h with h | h
                    · rcases List.mem_append.1 h with h | h
                      · rcases List.mem_append.1 h with h | h
                        · exact hD y (List.mem_of_mem_take h)
                        · rw [List.mem_singleton.1 h]; decide
                      · exact hD y (List.mem_of_mem_drop h)
                    · rw [List.mem_singleton.1 h]; decide
                  · exact hI y h
  · rw [if_neg hr]; exact ⟨by decide, fun y hy => by cases hy⟩
set_option maxHeartbeats 16000000 in
theorem decTexts_walk (ng : Bool) (ds : ByteArray) (x : Int) (bh : ByteArray) (w : World) (htab : Tab w) :
    Calls Tryd.prog 4 #[.agg #[.bool ng, .string ds, .int .i64 x], .string bh] w fun e w' => e = .returned (.bool true) ∧ Below w.heap.size w w' := by
  have HL := Lib.hid live16_any
  have HC := Lib.hid code16_any
  obtain ⟨b, hb⟩ : ∃ z, z = w.heap.size := ⟨_, rfl⟩
  obtain ⟨X0, hX0⟩ : ∃ z, z = w.alloc (.cells #[.bool ng, .string ds, .int .i64 x] 24) := ⟨_, rfl⟩
  have hO : One w b #[.bool ng, .string ds, .int .i64 x] X0 := by rw [hX0, hb]; exact ⟨Whole.new w _ _, (Below.refl _ _).alloc (Nat.le_refl _) _⟩
  have HO := Lib.hid hO
  have e0 : X0.cell? ⟨b, 0, none⟩ = some (.bool ng) := hO.a.cell 0
  have e1 : X0.cell? ⟨b, 1, none⟩ = some (.string ds) := hO.a.cell 1
  have e2 : X0.cell? ⟨b, 2, none⟩ = some (.int .i64 x) := hO.a.cell 2
  have HX0 := Lib.hid hX0
  have Hb := Lib.hid hb
  have Htab := Lib.hid htab
  clear hb hX0 hO htab
  go_enter Tryd.func4, Tryd.ntmps4
  go_upto_region 1 with (fail)
  rw [← HX0.out, ← Hb.out]
  clear HX0 Hb
  by_cases h1 : 300 < ds.size
  · have d1 : decide (300 < (ds.size : Int)) = true := decide_eq_true (by omega)
    go_wp2_with fail
    refine (HL.out _).mono ?_
    rintro e X ⟨rfl, hb⟩
    have HB := Lib.hid (keepBelow hb HO.out.k)
    clear hb
    go_wp2_with fail
    go_ret
    exact ⟨rfl, HB.out⟩
  · have d1 : decide (300 < (ds.size : Int)) = false := decide_eq_false (by omega)
    by_cases h2 : 100 < bh.size
    · have d2 : decide (100 < (bh.size : Int)) = true := decide_eq_true (by omega)
      go_wp2_with fail
      refine (HL.out _).mono ?_
      rintro e X ⟨rfl, hb⟩
      have HB := Lib.hid (keepBelow hb HO.out.k)
      clear hb
      go_wp2_with fail
      go_ret
      exact ⟨rfl, HB.out⟩
    · have d2 : decide (100 < (bh.size : Int)) = false := decide_eq_false (by omega)
      have hs : ds.size ≤ 1000000 := by omega
      have HI1 := Lib.hid fun W => int_any ng ds x W hs
      have HI2 := Lib.hid fun W => rint_any ng ds x W hs
      have HR1 := Lib.hid fun W => right_any ng ds x W hs
      have HR2 := Lib.hid fun W => rright_any ng ds x W hs
      have HT1 := Lib.hid fun (W : World) (hW : Below w.heap.size w W) => text_full ng ds x w W hs Htab.out hW
      have HT2 := Lib.hid fun W => rtext_any ng ds x W hs
      obtain ⟨hTl, hTm⟩ := textC_le ng ds x
      have hps := @text_parse ng (bs ds) x
      rw [bs_length] at hps
      obtain ⟨TL, hTL⟩ : ∃ t, t = textC ng (bs ds) x (itN ((ds.size : Int) + x - 1)) := ⟨_, rfl⟩
      rw [← hTL] at HT1 HT2 hTl hTm hps
      obtain ⟨T, hT⟩ : ∃ t, t = strOf TL := ⟨_, rfl⟩
      rw [← hT] at HT1 HT2
      obtain ⟨r, hr⟩ : ∃ r, r = rightD (ng, bs ds, x) := ⟨_, rfl⟩
      rw [← hr] at HR1 HR2 hps
      obtain ⟨⟨I1, I2⟩, hI⟩ : ∃ i, i = intC ng (bs ds) x := ⟨_, rfl⟩
      rw [← hI] at HI1 HI2
      simp only at HI1 HI2
      have hTsz : T.size = TL.length := by rw [hT, strOf_size]
      have hTbs : bs T = TL := by rw [hT]; exact bs_strOf _ hTm
      have hTs : T.size ≤ 10000 := by omega
      obtain ⟨Z, hZ⟩ : ∃ z, z = T ++ ⟨#[32]⟩ ++ bh := ⟨_, rfl⟩
      have hZb : bs Z = TL ++ (32 :: bs bh) := by rw [hZ, bs_app, bs_app, hTbs, List.append_assoc]; rfl
      have hZs : Z.size ≤ 1000000 := by rw [← bs_length, hZb, List.length_append, List.length_cons, bs_length]; omega
      have hadd1 := fun W => add_run T ⟨#[32]⟩ (by omega) (by decide) W
      have hadd2 : ∀ W, (Op.stringOp .add (T ++ ⟨#[32]⟩) bh).run Tryd.prog W = .ok (.string Z) W := fun W => by rw [hZ]; exact add_run (T ++ ⟨#[32]⟩) bh (by rw [ByteArray.size_append]; have : (⟨#[32]⟩ : ByteArray).size = 1 := rfl; omega) (by omega) W
      have HP : Hid (r = true → ∀ W, Calls Tryd.prog 9 #[.string Z] W fun e w' => e = .returned (.tuple #[.agg #[.bool ng, .string ds, .int .i64 x], .int .i64 (T.size : Int), .int .i64 0]) ∧ Below W.heap.size W w') := fun h W => by
        have hp := parse_any read_any Z W hZs
        rw [hZb, hps h (32 :: bs bh) rfl, ← hTsz] at hp
        unfold ParP decV at hp
        simp only [strOf_bs] at hp
        exact hp
      have Hadd1 := Lib.hid hadd1
      have Hadd2 := Lib.hid hadd2
      clear hTl hTm hps hTL hT hr hI hTsz hTbs hZ hZb hZs hadd1 hadd2 h1 h2 hs
      go_upto_region 3 with (fail)
      clear d1 d2
      go_wp2_with fail
      refine (HI1.out _).mono ?_
      rintro e X1 ⟨rfl, hb⟩
      have HO := Lib.hid (HO.out.step hb)
      have e0 : X1.cell? ⟨b, 0, none⟩ = some (.bool ng) := HO.out.a.cell 0
      have e1 : X1.cell? ⟨b, 1, none⟩ = some (.string ds) := HO.out.a.cell 1
      have e2 : X1.cell? ⟨b, 2, none⟩ = some (.int .i64 x) := HO.out.a.cell 2
      clear hb
      go_upto_region 4 with (fail)
      go_wp2_with fail
      refine (HI2.out _).mono ?_
      rintro e X2 ⟨rfl, hb⟩
      have HO := Lib.hid (HO.out.step hb)
      clear hb e0 e1 e2 HI1 HI2
      go_upto_region 5 with (fail)
      go_cut [33, 34, 35, 36, 37, 38, 39, 40, 41, 42, 43, 44, 45, 46, 47, 48, 49, 50, 51, 52, 53, 54] (fun x33 x34 x35 x36 x37 x38 x39 x40 x41 x42 x43 x44 x45 x46 x47 x48 x49 x50 x51 x52 x53 x54 W => x54 = .bool false ∧ One w b #[.bool ng, .string ds, .int .i64 x] W)
      case first =>
        as_aux_lemma =>
          refine wp_region_held (S := One w b #[.bool ng, .string ds, .int .i64 x]) (by kernel_rfl) ?_
          refine wpAnyH_take (i := 0) (oi := { dst := some 33, op := Go.Op.load 24 (Go.Operand.tmp 2), type := 24, pos := "law.go:35", after := #[], guard := none }) (v := ?_) rfl (by kernel_rfl) (by kernel_rfl) (by kernel_rfl) (fun _ _ _ h => h) (Or.inl ⟨by rfl, ?_⟩) (HO.out.drew) ?_
          rotate_left 1
          · intro w5 hSw
            have q0 : w5.cell? ⟨b, 0, none⟩ = some (.bool ng) := hSw.a.cell 0
            have q1 : w5.cell? ⟨b, 1, none⟩ = some (.string ds) := hSw.a.cell 1
            have q2 : w5.cell? ⟨b, 2, none⟩ = some (.int .i64 x) := hSw.a.cell 2
            go_simp; all_goals (with_reducible rfl)
          try simp only [Act.put, List.setIfInBounds_toArray, List.set_cons_zero, List.set_cons_succ]
          refine wpAnyH_take (i := 2) (oi := { dst := some 35, op := Go.Op.load 24 (Go.Operand.tmp 2), type := 24, pos := "law.go:35", after := #[], guard := none }) (v := ?_) rfl (by kernel_rfl) (by kernel_rfl) (by kernel_rfl) (fun _ _ _ h => h) (Or.inl ⟨by rfl, ?_⟩) (HO.out.drew) ?_
          rotate_left 1
          · intro w5 hSw
            have q0 : w5.cell? ⟨b, 0, none⟩ = some (.bool ng) := hSw.a.cell 0
            have q1 : w5.cell? ⟨b, 1, none⟩ = some (.string ds) := hSw.a.cell 1
            have q2 : w5.cell? ⟨b, 2, none⟩ = some (.int .i64 x) := hSw.a.cell 2
            go_simp; all_goals (with_reducible rfl)
          try simp only [Act.put, List.setIfInBounds_toArray, List.set_cons_zero, List.set_cons_succ]
          refine wpAnyH_ready (rs := [1]) (by kernel_rfl) (by simp) ?_
          refine (AllReadyH.cons (o := { dst := some 34, op := Go.Op.call { callee := Go.Callee.value (Go.Operand.func 14), args := #[Go.Operand.tmp 33], argTypes := #[24] }, type := 4, pos := "law.go:35", after := #[{ on := 0, ground := Go.Ground.data }], guard := none }) rfl (fun K hK => ?_) AllReadyH.nil)
          go_simp
          refine (HR1.out _).mono ?_; rintro e Y1 ⟨rfl, hb1⟩
          go_wp2_with fail
          refine hK.out _ _ (One.step (HO.out.drew) hb1) (fun _ => ?_)
          clear hK K
          try simp only [Act.put, List.setIfInBounds_toArray, List.set_cons_zero, List.set_cons_succ]
          refine wpAnyH_ready (rs := [3]) (by kernel_rfl) (by simp) ?_
          refine (AllReadyH.cons (o := { dst := some 36, op := Go.Op.call { callee := Go.Callee.value (Go.Operand.func 15), args := #[Go.Operand.tmp 35], argTypes := #[24] }, type := 4, pos := "law.go:35", after := #[{ on := 2, ground := Go.Ground.data }, { on := 1, ground := Go.Ground.chain }], guard := none }) rfl (fun K hK => ?_) AllReadyH.nil)
          go_simp
          refine (HR2.out _).mono ?_; rintro e Y3 ⟨rfl, hb3⟩
          go_wp2_with fail
          refine hK.out _ _ (One.step (One.step (HO.out.drew) hb1) hb3) (fun _ => ?_)
          clear hK K
          try simp only [Act.put, List.setIfInBounds_toArray, List.set_cons_zero, List.set_cons_succ]
          refine wpAnyH_take (i := 4) (oi := { dst := some 37, op := Go.Op.binOp Go.BinOp.neq 4 (Go.Operand.tmp 34) (Go.Operand.tmp 36) 4, type := 4, pos := "law.go:35", after := #[{ on := 1, ground := Go.Ground.data }, { on := 3, ground := Go.Ground.data }], guard := none }) (v := ?_) rfl (by kernel_rfl) (by kernel_rfl) (by kernel_rfl) (fun _ _ _ h => h) (Or.inl ⟨by rfl, ?_⟩) (One.step (One.step (HO.out.drew) hb1) hb3) ?_
          rotate_left 1
          · intro w5 hSw
            go_simp; all_goals (with_reducible rfl)
          try simp only [Act.put, List.setIfInBounds_toArray, List.set_cons_zero, List.set_cons_succ]
          refine wpAnyH_take (i := 5) (oi := { dst := some 38, op := Go.Op.move (Go.Operand.tmp 37), type := 4, pos := "law.go:35", after := #[{ on := 4, ground := Go.Ground.data }, { on := 3, ground := Go.Ground.chain }], guard := none }) (v := ?_) rfl (by kernel_rfl) (by kernel_rfl) (by kernel_rfl) (fun _ _ _ h => h) (Or.inl ⟨by rfl, ?_⟩) (One.step (One.step (HO.out.drew) hb1) hb3) ?_
          rotate_left 1
          · intro w5 hSw
            go_simp; all_goals (with_reducible rfl)
          try simp only [Act.put, List.setIfInBounds_toArray, List.set_cons_zero, List.set_cons_succ]
          refine wpAnyH_take (i := 6) (oi := { dst := some 39, op := Go.Op.load 24 (Go.Operand.tmp 2), type := 24, pos := "law.go:35", after := #[{ on := 5, ground := Go.Ground.guard }], guard := some (5, false) }) (v := ?_) rfl (by kernel_rfl) (by kernel_rfl) (by kernel_rfl) (fun _ _ _ h => h) (Or.inl ⟨by rfl, ?_⟩) (One.step (One.step (HO.out.drew) hb1) hb3) ?_
          rotate_left 1
          · intro w5 hSw
            have q0 : w5.cell? ⟨b, 0, none⟩ = some (.bool ng) := hSw.a.cell 0
            have q1 : w5.cell? ⟨b, 1, none⟩ = some (.string ds) := hSw.a.cell 1
            have q2 : w5.cell? ⟨b, 2, none⟩ = some (.int .i64 x) := hSw.a.cell 2
            go_simp; all_goals (with_reducible rfl)
          try simp only [Act.put, List.setIfInBounds_toArray, List.set_cons_zero, List.set_cons_succ]
          refine wpAnyH_take (i := 8) (oi := { dst := some 41, op := Go.Op.load 24 (Go.Operand.tmp 2), type := 24, pos := "law.go:35", after := #[{ on := 5, ground := Go.Ground.guard }], guard := some (5, false) }) (v := ?_) rfl (by kernel_rfl) (by kernel_rfl) (by kernel_rfl) (fun _ _ _ h => h) (Or.inl ⟨by rfl, ?_⟩) (One.step (One.step (HO.out.drew) hb1) hb3) ?_
          rotate_left 1
          · intro w5 hSw
            have q0 : w5.cell? ⟨b, 0, none⟩ = some (.bool ng) := hSw.a.cell 0
            have q1 : w5.cell? ⟨b, 1, none⟩ = some (.string ds) := hSw.a.cell 1
            have q2 : w5.cell? ⟨b, 2, none⟩ = some (.int .i64 x) := hSw.a.cell 2
            go_simp; all_goals (with_reducible rfl)
          try simp only [Act.put, List.setIfInBounds_toArray, List.set_cons_zero, List.set_cons_succ]
          refine wpAnyH_ready (rs := [7]) (by kernel_rfl) (by simp) ?_
          refine (AllReadyH.cons (o := { dst := some 40, op := Go.Op.call { callee := Go.Callee.value (Go.Operand.func 16), args := #[Go.Operand.tmp 39], argTypes := #[24] }, type := 9, pos := "law.go:35", after := #[{ on := 6, ground := Go.Ground.data }, { on := 5, ground := Go.Ground.chain }, { on := 5, ground := Go.Ground.guard }], guard := some (5, false) }) rfl (fun K hK => ?_) AllReadyH.nil)
          go_simp
          refine (HT1.out _ (One.step (One.step (HO.out.drew) hb1) hb3).k).mono ?_; rintro e Y7 ⟨rfl, hb7⟩
          go_wp2_with fail
          refine hK.out _ _ (One.step (One.step (One.step (HO.out.drew) hb1) hb3) hb7) (fun _ => ?_)
          clear hK K
          try simp only [Act.put, List.setIfInBounds_toArray, List.set_cons_zero, List.set_cons_succ]
          refine wpAnyH_ready (rs := [9]) (by kernel_rfl) (by simp) ?_
          refine (AllReadyH.cons (o := { dst := some 42, op := Go.Op.call { callee := Go.Callee.value (Go.Operand.func 17), args := #[Go.Operand.tmp 41], argTypes := #[24] }, type := 9, pos := "law.go:35", after := #[{ on := 8, ground := Go.Ground.data }, { on := 7, ground := Go.Ground.chain }, { on := 5, ground := Go.Ground.guard }], guard := some (5, false) }) rfl (fun K hK => ?_) AllReadyH.nil)
          go_simp
          refine (HT2.out _).mono ?_; rintro e Y9 ⟨rfl, hb9⟩
          go_wp2_with fail
          refine hK.out _ _ (One.step (One.step (One.step (One.step (HO.out.drew) hb1) hb3) hb7) hb9) (fun _ => ?_)
          clear hK K
          try simp only [Act.put, List.setIfInBounds_toArray, List.set_cons_zero, List.set_cons_succ]
          refine wpAnyH_take (i := 10) (oi := { dst := some 43, op := Go.Op.binOp Go.BinOp.neq 9 (Go.Operand.tmp 40) (Go.Operand.tmp 42) 9, type := 4, pos := "law.go:35", after := #[{ on := 7, ground := Go.Ground.data }, { on := 9, ground := Go.Ground.data }, { on := 5, ground := Go.Ground.guard }], guard := some (5, false) }) (v := ?_) rfl (by kernel_rfl) (by kernel_rfl) (by kernel_rfl) (fun _ _ _ h => h) (Or.inl ⟨by rfl, ?_⟩) (One.step (One.step (One.step (One.step (HO.out.drew) hb1) hb3) hb7) hb9) ?_
          rotate_left 1
          · intro w5 hSw
            go_simp; all_goals (with_reducible rfl)
          try simp only [Act.put, List.setIfInBounds_toArray, List.set_cons_zero, List.set_cons_succ]
          refine wpAnyH_take (i := 11) (oi := { dst := some 44, op := Go.Op.pick (Go.Operand.tmp 38) (Go.Operand.const (Go.Value.bool true)) (Go.Operand.tmp 43), type := 4, pos := "law.go:35", after := #[{ on := 5, ground := Go.Ground.data }, { on := 10, ground := Go.Ground.data }], guard := none }) (v := ?_) rfl (by kernel_rfl) (by kernel_rfl) (by kernel_rfl) (fun _ _ _ h => h) (Or.inl ⟨by rfl, ?_⟩) (One.step (One.step (One.step (One.step (HO.out.drew) hb1) hb3) hb7) hb9) ?_
          rotate_left 1
          · intro w5 hSw
            go_simp; all_goals (with_reducible rfl)
          try simp only [Act.put, List.setIfInBounds_toArray, List.set_cons_zero, List.set_cons_succ]
          refine wpAnyH_take (i := 12) (oi := { dst := some 45, op := Go.Op.move (Go.Operand.tmp 44), type := 4, pos := "law.go:35", after := #[{ on := 11, ground := Go.Ground.data }, { on := 9, ground := Go.Ground.chain }], guard := none }) (v := ?_) rfl (by kernel_rfl) (by kernel_rfl) (by kernel_rfl) (fun _ _ _ h => h) (Or.inl ⟨by rfl, ?_⟩) (One.step (One.step (One.step (One.step (HO.out.drew) hb1) hb3) hb7) hb9) ?_
          rotate_left 1
          · intro w5 hSw
            go_simp; all_goals (with_reducible rfl)
          try simp only [Act.put, List.setIfInBounds_toArray, List.set_cons_zero, List.set_cons_succ]
          refine wpAnyH_take (i := 13) (oi := { dst := some 46, op := Go.Op.move (Go.Operand.tmp 5), type := 3, pos := "law.go:35", after := #[{ on := 12, ground := Go.Ground.guard }], guard := some (12, false) }) (v := ?_) rfl (by kernel_rfl) (by kernel_rfl) (by kernel_rfl) (fun _ _ _ h => h) (Or.inl ⟨by rfl, ?_⟩) (One.step (One.step (One.step (One.step (HO.out.drew) hb1) hb3) hb7) hb9) ?_
          rotate_left 1
          · intro w5 hSw
            go_simp; all_goals (with_reducible rfl)
          try simp only [Act.put, List.setIfInBounds_toArray, List.set_cons_zero, List.set_cons_succ]
          refine wpAnyH_take (i := 14) (oi := { dst := some 47, op := Go.Op.move (Go.Operand.tmp 7), type := 3, pos := "law.go:35", after := #[{ on := 12, ground := Go.Ground.guard }], guard := some (12, false) }) (v := ?_) rfl (by kernel_rfl) (by kernel_rfl) (by kernel_rfl) (fun _ _ _ h => h) (Or.inl ⟨by rfl, ?_⟩) (One.step (One.step (One.step (One.step (HO.out.drew) hb1) hb3) hb7) hb9) ?_
          rotate_left 1
          · intro w5 hSw
            go_simp; all_goals (with_reducible rfl)
          try simp only [Act.put, List.setIfInBounds_toArray, List.set_cons_zero, List.set_cons_succ]
          refine wpAnyH_take (i := 15) (oi := { dst := some 48, op := Go.Op.binOp Go.BinOp.neq 3 (Go.Operand.tmp 46) (Go.Operand.tmp 47) 3, type := 4, pos := "law.go:35", after := #[{ on := 13, ground := Go.Ground.data }, { on := 14, ground := Go.Ground.data }, { on := 12, ground := Go.Ground.guard }], guard := some (12, false) }) (v := ?_) rfl (by kernel_rfl) (by kernel_rfl) (by kernel_rfl) (fun _ _ _ h => h) (Or.inl ⟨by rfl, ?_⟩) (One.step (One.step (One.step (One.step (HO.out.drew) hb1) hb3) hb7) hb9) ?_
          rotate_left 1
          · intro w5 hSw
            go_simp; all_goals (with_reducible rfl)
          try simp only [Act.put, List.setIfInBounds_toArray, List.set_cons_zero, List.set_cons_succ]
          refine wpAnyH_take (i := 16) (oi := { dst := some 49, op := Go.Op.pick (Go.Operand.tmp 45) (Go.Operand.const (Go.Value.bool true)) (Go.Operand.tmp 48), type := 4, pos := "law.go:35", after := #[{ on := 12, ground := Go.Ground.data }, { on := 15, ground := Go.Ground.data }], guard := none }) (v := ?_) rfl (by kernel_rfl) (by kernel_rfl) (by kernel_rfl) (fun _ _ _ h => h) (Or.inl ⟨by rfl, ?_⟩) (One.step (One.step (One.step (One.step (HO.out.drew) hb1) hb3) hb7) hb9) ?_
          rotate_left 1
          · intro w5 hSw
            go_simp; all_goals (with_reducible rfl)
          try simp only [Act.put, List.setIfInBounds_toArray, List.set_cons_zero, List.set_cons_succ]
          refine wpAnyH_take (i := 17) (oi := { dst := some 50, op := Go.Op.move (Go.Operand.tmp 49), type := 4, pos := "law.go:35", after := #[{ on := 16, ground := Go.Ground.data }, { on := 12, ground := Go.Ground.chain }], guard := none }) (v := ?_) rfl (by kernel_rfl) (by kernel_rfl) (by kernel_rfl) (fun _ _ _ h => h) (Or.inl ⟨by rfl, ?_⟩) (One.step (One.step (One.step (One.step (HO.out.drew) hb1) hb3) hb7) hb9) ?_
          rotate_left 1
          · intro w5 hSw
            go_simp; all_goals (with_reducible rfl)
          try simp only [Act.put, List.setIfInBounds_toArray, List.set_cons_zero, List.set_cons_succ]
          refine wpAnyH_take (i := 18) (oi := { dst := some 51, op := Go.Op.move (Go.Operand.tmp 6), type := 4, pos := "law.go:35", after := #[{ on := 17, ground := Go.Ground.guard }], guard := some (17, false) }) (v := ?_) rfl (by kernel_rfl) (by kernel_rfl) (by kernel_rfl) (fun _ _ _ h => h) (Or.inl ⟨by rfl, ?_⟩) (One.step (One.step (One.step (One.step (HO.out.drew) hb1) hb3) hb7) hb9) ?_
          rotate_left 1
          · intro w5 hSw
            go_simp; all_goals (with_reducible rfl)
          try simp only [Act.put, List.setIfInBounds_toArray, List.set_cons_zero, List.set_cons_succ]
          refine wpAnyH_take (i := 19) (oi := { dst := some 52, op := Go.Op.move (Go.Operand.tmp 8), type := 4, pos := "law.go:35", after := #[{ on := 17, ground := Go.Ground.guard }], guard := some (17, false) }) (v := ?_) rfl (by kernel_rfl) (by kernel_rfl) (by kernel_rfl) (fun _ _ _ h => h) (Or.inl ⟨by rfl, ?_⟩) (One.step (One.step (One.step (One.step (HO.out.drew) hb1) hb3) hb7) hb9) ?_
          rotate_left 1
          · intro w5 hSw
            go_simp; all_goals (with_reducible rfl)
          try simp only [Act.put, List.setIfInBounds_toArray, List.set_cons_zero, List.set_cons_succ]
          refine wpAnyH_take (i := 20) (oi := { dst := some 53, op := Go.Op.binOp Go.BinOp.neq 4 (Go.Operand.tmp 51) (Go.Operand.tmp 52) 4, type := 4, pos := "law.go:35", after := #[{ on := 18, ground := Go.Ground.data }, { on := 19, ground := Go.Ground.data }, { on := 17, ground := Go.Ground.guard }], guard := some (17, false) }) (v := ?_) rfl (by kernel_rfl) (by kernel_rfl) (by kernel_rfl) (fun _ _ _ h => h) (Or.inl ⟨by rfl, ?_⟩) (One.step (One.step (One.step (One.step (HO.out.drew) hb1) hb3) hb7) hb9) ?_
          rotate_left 1
          · intro w5 hSw
            go_simp; all_goals (with_reducible rfl)
          try simp only [Act.put, List.setIfInBounds_toArray, List.set_cons_zero, List.set_cons_succ]
          refine wpAnyH_take (i := 21) (oi := { dst := some 54, op := Go.Op.pick (Go.Operand.tmp 50) (Go.Operand.const (Go.Value.bool true)) (Go.Operand.tmp 53), type := 4, pos := "law.go:35", after := #[{ on := 17, ground := Go.Ground.data }, { on := 20, ground := Go.Ground.data }], guard := none }) (v := ?_) rfl (by kernel_rfl) (by kernel_rfl) (by kernel_rfl) (fun _ _ _ h => h) (Or.inl ⟨by rfl, ?_⟩) (One.step (One.step (One.step (One.step (HO.out.drew) hb1) hb3) hb7) hb9) ?_
          rotate_left 1
          · intro w5 hSw
            go_simp; all_goals (with_reducible rfl)
          try simp only [Act.put, List.setIfInBounds_toArray, List.set_cons_zero, List.set_cons_succ]
          refine wpAnyH_done (by kernel_rfl) ?_ _
          go_wp2_with fail
          go_meet
          exact ⟨by first | rfl | simp, One.step (One.step (One.step (One.step (HO.out.drew) hb1) hb3) hb7) hb9⟩
      case rest =>
        obtain ⟨rfl, hO⟩ := hcut
        clear HT2 HR1
        have HO := Lib.hid hO
        have e0 : wc.cell? ⟨b, 0, none⟩ = some (.bool ng) := hO.a.cell 0
        have e1 : wc.cell? ⟨b, 1, none⟩ = some (.string ds) := hO.a.cell 1
        have e2 : wc.cell? ⟨b, 2, none⟩ = some (.int .i64 x) := hO.a.cell 2
        clear hO
        go_upto_region 7 with (fail)
        go_wp2_with fail
        refine (HR2.out _).mono ?_
        rintro e X3 ⟨rfl, hb⟩
        have HO := Lib.hid (HO.out.step hb)
        have e0 : X3.cell? ⟨b, 0, none⟩ = some (.bool ng) := HO.out.a.cell 0
        have e1 : X3.cell? ⟨b, 1, none⟩ = some (.string ds) := HO.out.a.cell 1
        have e2 : X3.cell? ⟨b, 2, none⟩ = some (.int .i64 x) := HO.out.a.cell 2
        clear hb HR2
        cases r with
        | false =>
          go_wp2_with fail
          refine (HL.out _).mono ?_
          rintro e X ⟨rfl, hb⟩
          have HB := Lib.hid (keepBelow hb HO.out.k)
          clear hb
          go_wp2_with fail
          go_ret
          exact ⟨rfl, HB.out⟩
        | true =>
          have HPz : Hid (∀ W, Calls Tryd.prog 9 #[.string Z] W fun e w' => e = .returned (.tuple #[.agg #[.bool ng, .string ds, .int .i64 x], .int .i64 (T.size : Int), .int .i64 0]) ∧ Below W.heap.size W w') := HP.out rfl
          clear HP
          go_wp2_with fail
          refine (HT1.out _ HO.out.k).mono ?_
          rintro e X4 ⟨rfl, hb⟩
          have HO := Lib.hid (HO.out.step hb)
          clear hb e0 e1 e2 HT1
          have ha1 := Hadd1.out
          have ha2 := Hadd2.out
          go_upto_region 10 with (fail)
          go_wp2_with fail
          refine (HPz.out _).mono ?_
          rintro e X5 ⟨rfl, hb⟩
          have HO := Lib.hid (HO.out.step hb)
          clear hb ha1 ha2
          obtain ⟨b2, hb2⟩ : ∃ z, z = X5.heap.size := ⟨_, rfl⟩
          go_upto_region 11 with (fail)
          obtain ⟨Y1, hY1⟩ : ∃ z, z = X5.alloc (.cells #[.bool ng, .string ds, .int .i64 x] 24) := ⟨_, rfl⟩
          have hW3 : Whole Y1 b2 24 #[.bool ng, .string ds, .int .i64 x] := by rw [hY1, hb2]; exact Whole.new X5 _ _
          have hO4 : One w b #[.bool ng, .string ds, .int .i64 x] Y1 := by rw [hY1]; exact HO.out.step ((Below.refl _ _).alloc (Nat.le_refl _) _)
          rw [← hY1, ← hb2]
          have HO4 := Lib.hid hO4
          have u0 : Y1.cell? ⟨b2, 0, none⟩ = some (.bool ng) := hW3.cell 0
          have u1 : Y1.cell? ⟨b2, 1, none⟩ = some (.string ds) := hW3.cell 1
          have u2 : Y1.cell? ⟨b2, 2, none⟩ = some (.int .i64 x) := hW3.cell 2
          have v0 : Y1.cell? ⟨b, 0, none⟩ = some (.bool ng) := hO4.a.cell 0
          have v1 : Y1.cell? ⟨b, 1, none⟩ = some (.string ds) := hO4.a.cell 1
          have v2 : Y1.cell? ⟨b, 2, none⟩ = some (.int .i64 x) := hO4.a.cell 2
          clear hW3 hO4 hY1 hb2 HO HPz
          go_wp2_with fail
          refine (HC.out _ _).mono ?_
          rintro e Z1 ⟨rfl, rfl⟩
          go_wp2_with fail
          refine (HL.out _).mono ?_
          rintro e Z1 ⟨rfl, hb⟩
          have HB4 := Lib.hid (keepBelow hb HO4.out.k)
          clear hb u0 u1 u2 v0 v1 v2
          go_wp2_with fail
          go_ret
          exact ⟨rfl, HB4.out⟩
theorem decTexts_walk2 (u : Value) (bh : ByteArray) (w : World) (hu : DecArg u) (hbh : bh.size ≤ maxLen) (ht : Tab w) :
    Calls Tryd.prog 4 #[u, .string bh] w fun e w' => e = .returned (.bool true) ∧ Below w.heap.size w w' := by
  obtain ⟨na, da, xa, rfl, _⟩ := hu
  exact decTexts_walk na da xa bh w ht
end Go.Proofs.YtdbcklabinmgfaaDoor
