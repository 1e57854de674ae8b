/- Layer 16: the reference's digits, norm. -/
import Derived.Test.YtdbcklabinmgfaaDoorDec3
import Derived.Deep.CutRange
import Derived.Deep.CutBlock
namespace Go.Proofs.YtdbcklabinmgfaaDoor
open Go.RowKit
set_option linter.unusedVariables false
set_option maxRecDepth 100000

theorem rdigit_any (c : Nat) (w : World) : Calls Tryd.prog 33 #[.int .u8 (c : Int)] w fun e w' => e = .returned (.bool (isD c)) ∧ w = w' := by
  unfold isD
  by_cases h1 : 48 ≤ c
  · have d1 : decide ((48 : Int) ≤ (c : Int)) = true := decide_eq_true (by omega)
    have d2 : decide (48 ≤ c) = true := decide_eq_true h1
    by_cases h2 : c ≤ 57
    · have d3 : decide ((c : Int) ≤ 57) = true := decide_eq_true (by omega)
      have d4 : decide (c ≤ 57) = true := decide_eq_true h2
      rw [decide_eq_true (show 48 ≤ c ∧ c ≤ 57 from ⟨h1, h2⟩)]
      go_enter Tryd.func33, Tryd.ntmps33
      go_wp2_with fail
      go_ret
      exact ⟨rfl, rfl⟩
    · have d3 : decide ((c : Int) ≤ 57) = false := decide_eq_false (by omega)
      have d4 : decide (c ≤ 57) = false := decide_eq_false h2
      rw [decide_eq_false (show ¬ (48 ≤ c ∧ c ≤ 57) from fun h => h2 h.2)]
      go_enter Tryd.func33, Tryd.ntmps33
      go_wp2_with fail
      go_ret
      exact ⟨rfl, rfl⟩
  · have d1 : decide ((48 : Int) ≤ (c : Int)) = false := decide_eq_false (by omega)
    have d2 : decide (48 ≤ c) = false := decide_eq_false h1
    rw [decide_eq_false (show ¬ (48 ≤ c ∧ c ≤ 57) from fun h => h1 h.1)]
    go_enter Tryd.func33, Tryd.ntmps33
    go_wp2_with fail
    go_ret
    exact ⟨rfl, rfl⟩

set_option maxHeartbeats 8000000 in
theorem rdigits_any (s : ByteArray) (i : Nat) (w : World) (hi : i ≤ s.size) (hs : s.size ≤ 1000000) :
    Calls Tryd.prog 27 #[.string s, .int .i64 (i : Int)] w fun e w' => e = .returned (.int .i64 (dEnd (bs s) i : Int)) ∧ w = w' := by
  have HD := Lib.hid rdigit_any
  obtain ⟨E, hE⟩ : ∃ E, E = dEnd (bs s) i := ⟨_, rfl⟩
  rw [← hE]
  have HE := Lib.hid hE
  clear hE
  go_enter Tryd.func27, Tryd.ntmps27
  go_wp2_with fail
  obtain ⟨w0, rfl⟩ : ∃ w0, w0 = w := ⟨_, rfl⟩
  go_loopw [1] (fun x X => ∃ k : Nat, i ≤ k ∧ k ≤ s.size ∧ x = .int .i64 (k : Int) ∧ Hid (dEnd (bs s) k = E) ∧ w0 = X) (fun x _ => s.size - (intOf x).toNat)
  case atStart => exact ⟨i, Nat.le_refl _, hi, rfl, HE.out.symm, rfl⟩
  case round =>
    obtain ⟨k, hik, hks, rfl, hF, rfl⟩ := hrel
    by_cases hlt : k < s.size
    · have d1 : decide ((k : Int) < (s.size : Int)) = true := decide_eq_true (by omega)
      have hk0 : (0 : Int) ≤ (k : Int) := by omega
      have hk1 : (k : Int) < (s.size : Int) := by omega
      obtain ⟨c, hc⟩ : ∃ c, (s[k]'hlt).toNat = c := ⟨_, rfl⟩
      have hcb : (bs s).getD k 0 = c := by rw [← bs_get s k hlt]; exact hc
      have HCb := Lib.hid hcb
      have Hkl : Hid (k < (bs s).length) := by show _ < _; rw [bs_length]; exact hlt
      clear hcb
      cases hd : isD c with
      | true =>
        have hF2 : Hid (dEnd (bs s) (k + 1) = E) := by show _ = _; rw [← dEnd_step Hkl.out (by rw [HCb.out]; exact hd)]; exact hF.out
        have HDc : Hid (∀ W, Calls Tryd.prog 33 #[.int .u8 (c : Int)] W fun e w' => e = .returned (.bool true) ∧ W = w') := by intro W; have := HD.out c W; rw [hd] at this; exact this
        clear hd hF
        go_wp2_with fail
        refine (HDc.out _).mono ?_
        rintro e X ⟨rfl, rfl⟩
        go_wp2_with fail
        go_roundw
        case rel => exact ⟨k + 1, by omega, by omega, by go_num, hF2, trivial⟩
        case measure => simp [intOf]; omega
      | false =>
        have hF2 : Hid (k = E) := by show _ = _; rw [← hF.out, dEnd_stop (fun _ => by rw [HCb.out]; exact hd)]
        have HDc : Hid (∀ W, Calls Tryd.prog 33 #[.int .u8 (c : Int)] W fun e w' => e = .returned (.bool false) ∧ W = w') := by intro W; have := HD.out c W; rw [hd] at this; exact this
        clear hd hF
        go_wp2_with fail
        refine (HDc.out _).mono ?_
        rintro e X ⟨rfl, rfl⟩
        go_wp2_with fail
        go_ret
        exact ⟨by rw [← hF2.out]; rfl, rfl⟩
    · obtain rfl : k = s.size := by omega
      have hF2 : Hid (s.size = E) := by show _ = _; rw [← hF.out, dEnd_stop (fun h => by rw [bs_length] at h; omega)]
      clear hF
      go_wp2_with fail
      go_ret
      exact ⟨by rw [← hF2.out]; rfl, rfl⟩

theorem stripR_snoc (l : List Nat) (x : Nat) : stripR (l ++ [x]) = if x = 48 then stripR l else l ++ [x] := by
  unfold stripR
  rw [List.reverse_append, List.reverse_singleton, List.singleton_append, List.dropWhile_cons]
  by_cases h : x = 48
  · rw [if_pos h, if_pos (by simp [h])]
  · rw [if_neg h, if_neg (by simp [h])]
    simp
theorem stripR_last {l : List Nat} {k : Nat} (hk : l.length = k + 1) (h : l.getD k 0 = 48) : stripR l = stripR (l.take k) ∧ tzs l = tzs (l.take k) + 1 := by
  have e : l = l.take k ++ [48] := by
    have := take_more (l := l) (i := 0) (k := k) (Nat.zero_le _) (by omega)
    rw [List.drop_zero, h] at this
    rw [show l.take (k + 1 - 0) = l by rw [List.take_of_length_le (by omega)]] at this
    simpa using this
  have e2 : stripR l = stripR (l.take k) := by
    conv => lhs; rw [e]
    rw [stripR_snoc, if_pos rfl]
  refine ⟨e2, ?_⟩
  unfold tzs
  rw [e2]
  have h3 := stripR_le (l.take k)
  have h4 : (l.take k).length = k := by rw [List.length_take]; omega
  omega
theorem stripR_done {l : List Nat} (h : ∀ k, l.length = k + 1 → l.getD k 0 ≠ 48) : stripR l = l ∧ tzs l = 0 := by
  have e : stripR l = l := by
    cases hl : l.length with
    | zero => rw [List.eq_nil_of_length_eq_zero hl]; rfl
    | succ k =>
      have e : l = l.take k ++ [l.getD k 0] := by
        have := take_more (l := l) (i := 0) (k := k) (Nat.zero_le _) (by omega)
        rw [List.drop_zero] at this
        rw [show l.take (k + 1 - 0) = l by rw [List.take_of_length_le (by omega)]] at this
        simpa using this
      rw [e, stripR_snoc, if_neg (h k hl)]
  refine ⟨e, ?_⟩
  unfold tzs
  rw [e]
  omega
theorem stripL_head {l : List Nat} (h0 : 0 < l.length) (h : l.getD 0 0 = 48) : stripL l = stripL (l.drop 1) := by
  have := drop_head h0
  rw [List.drop_zero, h] at this
  conv => lhs; rw [this]
  rw [stripL_cons, if_pos rfl]
theorem stripL_done {l : List Nat} (h : 0 < l.length → l.getD 0 0 ≠ 48) : stripL l = l := by
  by_cases h0 : 0 < l.length
  · have := drop_head h0
    rw [List.drop_zero] at this
    rw [this, stripL_cons, if_neg (h h0)]
  · obtain rfl : l = [] := List.eq_nil_of_length_eq_zero (by omega)
    rfl
theorem place2_le {l : List Nat} {s : ByteArray} (hl : l = bs s) : place2 l ≤ s.size := by
  unfold place2
  by_cases h : l.getD (place1 l) 0 = 46 ∧ place1 l + 1 < dEnd l (place1 l + 1)
  · rw [if_pos h]
    have h1 := getD_lt_len h.1 (by decide)
    have := dEnd_le (l := l) (i := place1 l + 1) (by omega)
    rw [hl, bs_length] at this
    rw [← hl] at this
    exact this
  · rw [if_neg h]; exact place1_le hl
/-- What norm leaves. -/
def NormP (r : DV × Nat × Nat) (w : World) (e : Ending) (w' : World) : Prop := e = .returned (.tuple #[decV r.1, .int .i64 (r.2.2 : Int)]) ∧ Below w.heap.size w w'
def strSz (v : Value) : Nat := match v with | .string t => t.size | _ => 0
theorem tzs_le (l : List Nat) : tzs l ≤ l.length := Nat.sub_le _ _

set_option maxHeartbeats 16000000 in
theorem norm_any (neg : Bool) (s : ByteArray) (x : Int) (w : World) (hs : s.size ≤ 10000000) (hx : -100000000000 ≤ x ∧ x ≤ 100000000000) :
    Calls Tryd.prog 28 #[.bool neg, .string s, .int .i64 x] w (NormP (finD neg (stripL (stripR (bs s))) (x + (tzs (bs s) : Nat)) 0) w) := by
  obtain ⟨SR, hSR⟩ : ∃ r, r = stripR (bs s) := ⟨_, rfl⟩
  obtain ⟨X, hX⟩ : ∃ r : Int, r = x + (tzs (bs s) : Nat) := ⟨_, rfl⟩
  rw [← hSR, ← hX]
  have HSR := Lib.hid hSR
  have HX := Lib.hid hX
  obtain ⟨D, hD⟩ : ∃ d, d = stripL SR := ⟨_, rfl⟩
  rw [← hD]
  have HD := Lib.hid hD
  have hSl : SR.length ≤ 10000000 := by rw [hSR]; refine Nat.le_trans (stripR_le _) ?_; rw [bs_length]; exact hs
  have hS8 : ∀ x ∈ SR, x < 256 := fun x hx => by rw [hSR] at hx; exact bs_lt s x (stripR_mem hx)
  have HS8 := Lib.hid hS8
  obtain ⟨tS, htS⟩ : ∃ t, t = strOf SR := ⟨_, rfl⟩
  have HtS := Lib.hid htS
  obtain ⟨tD, htD⟩ : ∃ t, t = strOf D := ⟨_, rfl⟩
  have HtD := Lib.hid htD
  have hts : Hid (tS.size ≤ 10000000) := by show _ ≤ _; rw [htS, strOf_size]; exact hSl
  clear hD hS8 htS htD hSl
  have hXb : -100000000000 ≤ X ∧ X ≤ 200000000000 := by have := tzs_le (bs s); rw [bs_length] at this; omega
  obtain ⟨X0, hX0⟩ : ∃ X0, X0 = w.alloc (.cells #[.bool false, .string ⟨#[]⟩, .int .i64 0] 24) := ⟨_, rfl⟩
  obtain ⟨b, hb⟩ : ∃ b, b = w.heap.size := ⟨_, rfl⟩
  have hO : Whole X0 b 24 #[.bool false, .string ⟨#[]⟩, .int .i64 0] := by rw [hX0, hb]; exact Whole.new w _ _
  have hB : Below w.heap.size w X0 := by rw [hX0]; exact (Below.refl _ _).alloc (Nat.le_refl _) _
  have HX0 := Lib.hid hX0
  have Hb := Lib.hid hb
  have HO := Lib.hid hO
  have HB := Lib.hid hB
  clear hX0 hb hO hB hSR hX
  go_enter Tryd.func28, Tryd.ntmps28
  go_upto_block 0 with (fail)
  rw [← HX0.out, ← Hb.out]
  go_cut [1, 2] (fun x1 x2 W => x1 = .string tS ∧ x2 = .int .i64 X ∧ X0 = W)
  case first =>
    go_wp2_with fail
    go_loopw [1, 2] (fun x1 x2 W => ∃ (t : ByteArray) (y : Int), x1 = .string t ∧ x2 = .int .i64 y ∧ Hid (stripR (bs t) = SR ∧ y + (tzs (bs t) : Nat) = X ∧ t.size ≤ 10000000) ∧ X0 = W) (fun x1 _ _ => strSz x1)
    case atStart => exact ⟨s, x, rfl, rfl, ⟨HSR.out.symm, HX.out.symm, hs⟩, rfl⟩
    case round =>
      obtain ⟨t, y, rfl, rfl, hF, rfl⟩ := hrel
      by_cases h0 : 0 < t.size
      · obtain ⟨k, hk⟩ : ∃ k, t.size = k + 1 := ⟨t.size - 1, by omega⟩
        have hlt : k < t.size := by omega
        have hlen : (bs t).length = k + 1 := by rw [bs_length]; exact hk
        have d1 : decide ((0 : Int) < (t.size : Int)) = true := decide_eq_true (by omega)
        have d2 : decide (0 < t.size) = true := decide_eq_true h0
        have ws : wrap64 ((t.size : Int) - 1) = (k : Int) := by rw [IntWalk.wrap64_in _ ⟨by omega, by have := hF.out.2.2; omega⟩]; omega
        have hk0 : (0 : Int) ≤ (k : Int) := by omega
        have hk1 : (k : Int) < (t.size : Int) := by omega
        have hk2 : (k : Int) ≤ (t.size : Int) := by omega
        obtain ⟨c, hc⟩ : ∃ c, (t[k]'hlt).toNat = c := ⟨_, rfl⟩
        have hcb : (bs t).getD k 0 = c := by rw [← bs_get t k hlt]; exact hc
        have hy : y + (tzs (bs t) : Nat) = X := hF.out.2.1
        have htz := tzs_le (bs t)
        have wy : wrap64 (y + 1) = y + 1 := IntWalk.wrap64_in _ ⟨by have := hF.out.2.2; have := bs_length t; omega, by have := hF.out.2.2; have := bs_length t; omega⟩
        by_cases hc48 : c = 48
        · subst hc48
          have hl := stripR_last hlen hcb
          have hbt : bs (t.extract 0 k) = (bs t).take k := by rw [bs_ext]; simp
          have hF2 : Hid (stripR (bs (t.extract 0 k)) = SR ∧ (y + 1) + (tzs (bs (t.extract 0 k)) : Nat) = X ∧ (t.extract 0 k).size ≤ 10000000) := by
            rw [hbt]
            refine ⟨by rw [← hl.1]; exact hF.out.1, by have := hl.2; omega, ?_⟩
            rw [ext_size t 0 k (by omega) (by omega)]; have := hF.out.2.2; omega
          have hsz : (t.extract 0 k).size = k := by rw [ext_size t 0 k (by omega) (by omega)]; omega
          have Hsz := Lib.hid hsz
          have Hkk := Lib.hid hk
          clear hlen hcb hy htz hl hbt hF hsz hk
          go_wp2_with fail
          exact ⟨⟨t.extract 0 k, y + 1, rfl, by rw [wy], hF2, trivial⟩, by show (t.extract 0 k).size < t.size; have := Hsz.out; have := Hkk.out; omega⟩
        · have hdn := stripR_done (l := bs t) (fun j hj => by rw [hlen] at hj; have e : j = k := (by omega); rw [e, hcb]; exact hc48)
          have ht : Hid (t = tS) := by show _ = _; rw [HtS.out, ← hF.out.1, hdn.1, strOf_bs]
          have hyX : Hid (y = X) := by show _ = _; rw [← hF.out.2.1, hdn.2]; omega
          have hce : ((c : Int) == 48) = false := beq_eq_false_iff_ne.mpr (by omega)
          have hce2 : (c == 48) = false := beq_eq_false_iff_ne.mpr hc48
          clear hlen hcb hy htz hdn hF hk
          go_wp2_with fail
          go_meet
          exact ⟨congrArg Value.string ht.out, congrArg (Value.int .i64) hyX.out, rfl⟩
      · have hdn := stripR_done (l := bs t) (fun j hj => by rw [bs_length] at hj; omega)
        have ht : Hid (t = tS) := by show _ = _; rw [HtS.out, ← hF.out.1, hdn.1, strOf_bs]
        have hyX : Hid (y = X) := by show _ = _; rw [← hF.out.2.1, hdn.2]; omega
        have d1 : decide ((0 : Int) < (t.size : Int)) = false := decide_eq_false (by omega)
        have d2 : decide (0 < t.size) = false := decide_eq_false h0
        have hz : t.size = 0 := by omega
        clear hdn hF h0
        go_wp2_with fail
        go_meet
        exact ⟨congrArg Value.string ht.out, congrArg (Value.int .i64) hyX.out, rfl⟩
  case rest =>
    obtain ⟨rfl, rfl, rfl⟩ := hcut
    go_upto_block 2 with (fail)
    go_cut [1] (fun x1 W => x1 = .string tD ∧ X0 = W)
    case first =>
      go_wp2_with fail
      go_loopw [1] (fun x1 W => ∃ t : ByteArray, x1 = .string t ∧ Hid (stripL (bs t) = D ∧ t.size ≤ 10000000) ∧ X0 = W) (fun x1 _ => strSz x1)
      case atStart => exact ⟨tS, rfl, ⟨by rw [HtS.out, bs_strOf _ HS8.out]; exact HD.out.symm, hts.out⟩, rfl⟩
      case round =>
        obtain ⟨t, rfl, hF, rfl⟩ := hrel
        by_cases h0 : 0 < t.size
        · have d1 : decide ((0 : Int) < (t.size : Int)) = true := decide_eq_true (by omega)
          have d2 : decide (0 < t.size) = true := decide_eq_true h0
          have hk1 : (0 : Int) < (t.size : Int) := by omega
          have hk2 : (1 : Int) ≤ (t.size : Int) := by omega
          obtain ⟨c, hc⟩ : ∃ c, (t[0]'h0).toNat = c := ⟨_, rfl⟩
          have hcb : (bs t).getD 0 0 = c := by rw [← bs_get t 0 h0]; exact hc
          by_cases hc48 : c = 48
          · subst hc48
            have hl := stripL_head (l := bs t) (by rw [bs_length]; exact h0) hcb
            have hbt : bs (t.extract 1 t.size) = (bs t).drop 1 := by rw [bs_ext, List.take_of_length_le (by rw [List.length_drop, bs_length]; omega)]
            have hF2 : Hid (stripL (bs (t.extract 1 t.size)) = D ∧ (t.extract 1 t.size).size ≤ 10000000) := by
              rw [hbt, ← hl]
              refine ⟨hF.out.1, ?_⟩
              rw [ext_size t 1 t.size (by omega) (by omega)]; have := hF.out.2; omega
            have Hsz : Hid ((t.extract 1 t.size).size = t.size - 1) := ext_size t 1 t.size (by omega) (by omega)
            have Hh0 := Lib.hid h0
            clear hcb hl hbt hF
            go_wp2_with fail
            exact ⟨⟨t.extract 1 t.size, rfl, hF2, trivial⟩, by show (t.extract 1 t.size).size < t.size; have := Hsz.out; have := Hh0.out; omega⟩
          · have hdn := stripL_done (l := bs t) (fun _ => by rw [hcb]; exact hc48)
            have ht : Hid (t = tD) := by show _ = _; rw [HtD.out, ← hF.out.1, hdn, strOf_bs]
            have hce : ((c : Int) == 48) = false := beq_eq_false_iff_ne.mpr (by omega)
            have hce2 : (c == 48) = false := beq_eq_false_iff_ne.mpr hc48
            clear hcb hdn hF
            go_wp2_with fail
            go_meet
            exact ⟨congrArg Value.string ht.out, rfl⟩
        · have hdn := stripL_done (l := bs t) (fun h => by rw [bs_length] at h; omega)
          have ht : Hid (t = tD) := by show _ = _; rw [HtD.out, ← hF.out.1, hdn, strOf_bs]
          have d1 : decide ((0 : Int) < (t.size : Int)) = false := decide_eq_false (by omega)
          have d2 : decide (0 < t.size) = false := decide_eq_false h0
          have hz : t.size = 0 := by omega
          clear hdn hF h0
          go_wp2_with fail
          go_meet
          exact ⟨congrArg Value.string ht.out, rfl⟩
    case rest =>
      obtain ⟨rfl, rfl⟩ := hcut
      have z2 : tD.size = D.length := by rw [HtD.out, strOf_size]
      have Hz2 := Lib.hid z2
      have e0 : X0.cell? ⟨b, 0, none⟩ = some (.bool false) := HO.out.cell 0
      have k0 : X0.frozen? ⟨b, 0, none⟩ = false := HO.out.frozen 0
      have e1 : X0.cell? ⟨b, 1, none⟩ = some (.string ⟨#[]⟩) := HO.out.cell 1
      have k1 : X0.frozen? ⟨b, 1, none⟩ = false := HO.out.frozen 1
      have e2 : X0.cell? ⟨b, 2, none⟩ = some (.int .i64 0) := HO.out.cell 2
      have k2 : X0.frozen? ⟨b, 2, none⟩ = false := HO.out.frozen 2
      by_cases h0 : D = []
      · have hz : tD.size = 0 := by rw [z2, h0]; rfl
        have hz2 : ((tD.size : Int) == 0) = true := by rw [hz]; rfl
        have HR := Lib.hid (show finD neg D X 0 = (zeroD, 0, 0) by rw [h0, finD_nil])
        clear h0 z2
        go_wp2_with fail
        have hV := set3_whole HO.out (.bool false) (.string ⟨#[]⟩) (.int .i64 0)
        have hBV := set3_below HB.out (b := b) (by have := Hb.out; omega) (.bool false) (.string ⟨#[]⟩) (.int .i64 0)
        have y0 := hV.cell 0
        have y1 := hV.cell 1
        have y2 := hV.cell 2
        simp only [set3, List.getElem?_toArray, List.getElem?_cons_zero, List.getElem?_cons_succ] at y0 y1 y2
        exact bodyPost_ret (v := .tuple #[.agg #[.bool false, .string ⟨#[]⟩, .int .i64 0], .int .i64 0]) (by simp [results, Tryd.results28, go_sem, y0, y1, y2]) rfl ⟨by rw [HR.out]; rfl, hBV⟩
      · have hpos : 0 < D.length := by cases D with | nil => exact absurd rfl h0 | cons a l => exact Nat.succ_pos _
        have hz2 : ((tD.size : Int) == 0) = false := beq_eq_false_iff_ne.mpr (by omega)
        have hz3 : ¬ tD.size = 0 := by omega
        by_cases h1 : 100 < D.length
        · have HR := Lib.hid (finD_long (ng := neg) h0 h1 X 0)
          have d1 : decide ((100 : Int) < (tD.size : Int)) = true := decide_eq_true (by omega)
          have d2 : decide (100 < tD.size) = true := decide_eq_true (by omega)
          clear h0 h1 z2 hpos
          go_wp2_with fail
          have hV := set3_whole HO.out (.bool false) (.string ⟨#[]⟩) (.int .i64 0)
          have hBV := set3_below HB.out (b := b) (by have := Hb.out; omega) (.bool false) (.string ⟨#[]⟩) (.int .i64 0)
          have y0 := hV.cell 0
          have y1 := hV.cell 1
          have y2 := hV.cell 2
          simp only [set3, List.getElem?_toArray, List.getElem?_cons_zero, List.getElem?_cons_succ] at y0 y1 y2
          exact bodyPost_ret (v := .tuple #[.agg #[.bool false, .string ⟨#[]⟩, .int .i64 0], .int .i64 5]) (by simp [results, Tryd.results28, go_sem, y0, y1, y2]) rfl ⟨by rw [HR.out]; rfl, hBV⟩
        · have d1 : decide ((100 : Int) < (tD.size : Int)) = false := decide_eq_false (by omega)
          have d2 : decide (100 < tD.size) = false := decide_eq_false (by omega)
          by_cases hi1 : X < -1000
          · have HR := Lib.hid (finD_out (ng := neg) h0 h1 (x := X) (decide_eq_false (by omega)) 0)
            have d3 : decide (X < -1000) = true := decide_eq_true hi1
            clear h0 h1 z2 hpos hi1
            go_wp2_with fail
            have hV := set3_whole HO.out (.bool false) (.string ⟨#[]⟩) (.int .i64 0)
            have hBV := set3_below HB.out (b := b) (by have := Hb.out; omega) (.bool false) (.string ⟨#[]⟩) (.int .i64 0)
            have y0 := hV.cell 0
            have y1 := hV.cell 1
            have y2 := hV.cell 2
            simp only [set3, List.getElem?_toArray, List.getElem?_cons_zero, List.getElem?_cons_succ] at y0 y1 y2
            exact bodyPost_ret (v := .tuple #[.agg #[.bool false, .string ⟨#[]⟩, .int .i64 0], .int .i64 8]) (by simp [results, Tryd.results28, go_sem, y0, y1, y2]) rfl ⟨by rw [HR.out]; rfl, hBV⟩
          · have d3 : decide (X < -1000) = false := decide_eq_false hi1
            by_cases hi2 : 1000 < X
            · have HR := Lib.hid (finD_out (ng := neg) h0 h1 (x := X) (decide_eq_false (by omega)) 0)
              have d4 : decide (1000 < X) = true := decide_eq_true hi2
              clear h0 h1 z2 hpos hi1 hi2
              go_wp2_with fail
              have hV := set3_whole HO.out (.bool false) (.string ⟨#[]⟩) (.int .i64 0)
              have hBV := set3_below HB.out (b := b) (by have := Hb.out; omega) (.bool false) (.string ⟨#[]⟩) (.int .i64 0)
              have y0 := hV.cell 0
              have y1 := hV.cell 1
              have y2 := hV.cell 2
              simp only [set3, List.getElem?_toArray, List.getElem?_cons_zero, List.getElem?_cons_succ] at y0 y1 y2
              exact bodyPost_ret (v := .tuple #[.agg #[.bool false, .string ⟨#[]⟩, .int .i64 0], .int .i64 8]) (by simp [results, Tryd.results28, go_sem, y0, y1, y2]) rfl ⟨by rw [HR.out]; rfl, hBV⟩
            · have HR := Lib.hid (finD_in (ng := neg) h0 h1 (x := X) (decide_eq_true ⟨by omega, by omega⟩) 0)
              have d4 : decide (1000 < X) = false := decide_eq_false hi2
              clear h0 h1 z2 hpos hi1 hi2
              go_wp2_with fail
              have hV := set3_whole HO.out (.bool neg) (.string tD) (.int .i64 X)
              have hBV := set3_below HB.out (b := b) (by have := Hb.out; omega) (.bool neg) (.string tD) (.int .i64 X)
              have y0 := hV.cell 0
              have y1 := hV.cell 1
              have y2 := hV.cell 2
              simp only [set3, List.getElem?_toArray, List.getElem?_cons_zero, List.getElem?_cons_succ] at y0 y1 y2
              exact bodyPost_ret (v := .tuple #[.agg #[.bool neg, .string tD, .int .i64 X], .int .i64 0]) (by simp [results, Tryd.results28, go_sem, y0, y1, y2]) rfl ⟨by rw [HR.out, HtD.out]; rfl, hBV⟩
end Go.Proofs.YtdbcklabinmgfaaDoor
