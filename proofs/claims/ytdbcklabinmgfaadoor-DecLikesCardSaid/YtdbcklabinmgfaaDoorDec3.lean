/- Layer 16: the code's Parse. -/
import Derived.Test.YtdbcklabinmgfaaDoorDec2A
namespace Go.Proofs.YtdbcklabinmgfaaDoor
open Go.RowKit Go.Shelf Go.Lib
set_option linter.unusedVariables false
set_option maxRecDepth 100000

theorem add_run (a b : ByteArray) (ha : a.size ≤ 10000000) (hb : b.size ≤ 10000000) (w : World) : (Op.stringOp .add a b).run Tryd.prog w = .ok (.string (a ++ b)) w := run_string_add_sum (P := Tryd.prog) (w := w) a b (by omega)
theorem inRange_any (n : Int) (w : World) : Calls Tryd.prog 25 #[.int .i64 n] w fun e w' => e = .returned (.bool (inR n)) ∧ w = w' := by
  unfold inR
  by_cases h1 : -1000 ≤ n
  · have d1 : decide (-1000 ≤ n) = true := decide_eq_true h1
    by_cases h2 : n ≤ 1000
    · have d3 : decide (n ≤ 1000) = true := decide_eq_true h2
      rw [decide_eq_true (show -1000 ≤ n ∧ n ≤ 1000 from ⟨h1, h2⟩)]
      go_enter Tryd.func25, Tryd.ntmps25
      go_wp2_with fail
      go_ret
      exact ⟨rfl, rfl⟩
    · have d3 : decide (n ≤ 1000) = false := decide_eq_false h2
      rw [decide_eq_false (show ¬ (-1000 ≤ n ∧ n ≤ 1000) from fun h => h2 h.2)]
      go_enter Tryd.func25, Tryd.ntmps25
      go_wp2_with fail
      go_ret
      exact ⟨rfl, rfl⟩
  · have d1 : decide (-1000 ≤ n) = false := decide_eq_false h1
    rw [decide_eq_false (show ¬ (-1000 ≤ n ∧ n ≤ 1000) from fun h => h1 h.1)]
    go_enter Tryd.func25, Tryd.ntmps25
    go_wp2_with fail
    go_ret
    exact ⟨rfl, rfl⟩
theorem of48 {x : Nat} (h : x < 256) : (UInt8.ofNat x == 48) = (x == 48) := by
  have e : UInt8.ofNat x = 48 ↔ x = 48 := by
    constructor
    · intro e
      have h2 := congrArg UInt8.toNat e
      rw [UInt8.toNat_ofNat', Nat.mod_eq_of_lt h] at h2
      exact h2
    · intro e; subst e; rfl
  by_cases h3 : x = 48
  · rw [h3]; rfl
  · rw [beq_eq_false_iff_ne.mpr (fun e2 => h3 (e.1 e2)), beq_eq_false_iff_ne.mpr h3]
theorem dropWhile_of48 : ∀ l : List Nat, (∀ x ∈ l, x < 256) → (l.map UInt8.ofNat).dropWhile (· == 48) = (l.dropWhile (· == 48)).map UInt8.ofNat
  | [], _ => rfl
  | x :: l, h => by
    rw [List.map_cons, List.dropWhile_cons, List.dropWhile_cons, of48 (h x (List.mem_cons_self ..)), dropWhile_of48 l (fun y hy => h y (List.mem_cons_of_mem _ hy))]
    by_cases hx : (x == 48) = true
    · rw [if_pos hx, if_pos hx]
    · rw [if_neg hx, if_neg hx]; rfl
theorem strOf_list (l : List Nat) : (strOf l).data.toList = l.map UInt8.ofNat := by unfold strOf; simp
theorem trimL_str (l : List Nat) (h : ∀ x ∈ l, x < 256) : (⟨(Lib.trimLeftB (strOf l).data.toList 48).toArray⟩ : ByteArray) = strOf (stripL l) := by
  rw [strOf_list]
  unfold Lib.trimLeftB
  rw [dropWhile_of48 l h]
  rfl
theorem trimR_str (l : List Nat) (h : ∀ x ∈ l, x < 256) : (⟨(Lib.trimRightB (strOf l).data.toList 48).toArray⟩ : ByteArray) = strOf (stripR l) := by
  rw [strOf_list]
  unfold Lib.trimRightB stripR
  rw [← List.map_reverse, dropWhile_of48 l.reverse (fun x hx => h x (List.mem_reverse.1 hx)), ← List.map_reverse]
  rfl
theorem stripL_mem {l : List Nat} {x : Nat} (h : x ∈ stripL l) : x ∈ l := (List.dropWhile_suffix (l := l) (· == 48)).subset h
theorem stripR_mem {l : List Nat} {x : Nat} (h : x ∈ stripR l) : x ∈ l := by
  unfold stripR at h
  exact List.mem_reverse.1 ((List.dropWhile_suffix (l := l.reverse) (· == 48)).subset (List.mem_reverse.1 h))
def set3 (W : World) (b : Nat) (v0 v1 v2 : Value) : World := ((W.setCell ⟨b, 0, none⟩ v0).setCell ⟨b, 1, none⟩ v1).setCell ⟨b, 2, none⟩ v2
theorem set3_whole {W : World} {b : Nat} {t : TypeId} {x0 x1 x2 : Value} (h : Whole W b t #[x0, x1, x2]) (v0 v1 v2 : Value) : Whole (set3 W b v0 v1 v2) b t #[v0, v1, v2] := ((h.set 0 v0).set 1 v1).set 2 v2
theorem set3_below {B : Nat} {w W : World} {b : Nat} (h : Below B w W) (hb : B ≤ b) (v0 v1 v2 : Value) : Below B w (set3 W b v0 v1 v2) :=
  ((h.setCell (p := ⟨b, 0, none⟩) hb v0).setCell (p := ⟨b, 1, none⟩) hb v1).setCell (p := ⟨b, 2, none⟩) hb v2
theorem set3_keep {W : World} {b k : Nat} (h : k ≠ b) (v0 v1 v2 : Value) : (set3 W b v0 v1 v2).heap[k]? = W.heap[k]? := by
  unfold set3
  rw [Below.heap_setCell _ _ _ k h, Below.heap_setCell _ _ _ k h, Below.heap_setCell _ _ _ k h]
def decV (d : DV) : Value := .agg #[.bool d.1, .string (strOf d.2.1), .int .i64 d.2.2]
def ParP (r : DV × Nat × Nat) (w : World) (e : Ending) (w' : World) : Prop := e = .returned (.tuple #[decV r.1, .int .i64 (r.2.1 : Int), .int .i64 (r.2.2 : Int)]) ∧ Below w.heap.size w w'

theorem sgn_le (b : Bool) (n : Nat) : -(n : Int) ≤ sgn b n ∧ sgn b n ≤ (n : Int) := by
  unfold sgn
  cases b <;> simp <;> omega
theorem allD_mem {l : List Nat} {x : Nat} (h : x ∈ allD l) : x ∈ l := by
  unfold allD at h
  rcases List.mem_append.1 h with h | h
  · exact seg_mem h
  · exact seg_mem h
theorem capC_far (l : List Nat) : capC 0 l ≤ 1099511627776 := capM_le farE l 0 (Nat.zero_le _)
theorem finD_nil (ng : Bool) (x : Int) (N : Nat) : finD ng [] x N = (zeroD, N, 0) := by unfold finD; rw [if_pos rfl]
theorem finD_long {ng : Bool} {D : List Nat} (h0 : D ≠ []) (h : 100 < D.length) (x : Int) (N : Nat) : finD ng D x N = (zeroD, 0, 5) := by unfold finD; rw [if_neg h0, if_pos h]
theorem finD_out {ng : Bool} {D : List Nat} (h0 : D ≠ []) (h : ¬ 100 < D.length) {x : Int} (hx : inR x = false) (N : Nat) : finD ng D x N = (zeroD, 0, 8) := by unfold finD; rw [if_neg h0, if_neg h, hx, if_neg (by decide)]
theorem finD_in {ng : Bool} {D : List Nat} (h0 : D ≠ []) (h : ¬ 100 < D.length) {x : Int} (hx : inR x = true) (N : Nat) : finD ng D x N = ((ng, D, x), N, 0) := by unfold finD; rw [if_neg h0, if_neg h, hx, if_pos rfl]
set_option maxHeartbeats 16000000 in
theorem parse_any (hread : ∀ (s : ByteArray) (w : World), s.size ≤ 1000000 → Calls Tryd.prog 22 #[.string s] w (ReadP (bs s) w)) (s : ByteArray) (w : World) (hs : s.size ≤ 1000000) :
    Calls Tryd.prog 9 #[.string s] w (ParP (parseC (bs s)) w) := by
  have HRd := Lib.hid fun W => hread s W hs
  have hlt := bs_lt s
  have hln := bs_length s
  obtain ⟨l, hl⟩ : ∃ l, l = bs s := ⟨_, rfl⟩
  rw [← hl] at HRd hlt hln ⊢
  clear hread
  obtain ⟨R, hR⟩ : ∃ R, R = parseC l := ⟨_, rfl⟩
  rw [← hR]
  have HR := Lib.hid hR
  obtain ⟨X0, hX0⟩ : ∃ X0, X0 = w.alloc (.cells #[.bool false, .string ⟨#[]⟩, .int .i64 0] 24) := ⟨_, rfl⟩
  obtain ⟨b, hb⟩ : ∃ b, b = w.heap.size := ⟨_, rfl⟩
  have hO : Whole X0 b 24 #[.bool false, .string ⟨#[]⟩, .int .i64 0] := by rw [hX0, hb]; exact Whole.new w _ _
  have hB : Below w.heap.size w X0 := by rw [hX0]; exact (Below.refl _ _).alloc (Nat.le_refl _) _
  have HX0 := Lib.hid hX0
  have Hb := Lib.hid hb
  have HO := Lib.hid hO
  have HB := Lib.hid hB
  have Hlt := Lib.hid hlt
  have Hln := Lib.hid hln
  clear hX0 hb hO hB hR hlt hln hl
  go_enter Tryd.func9, Tryd.ntmps9
  go_upto_region 1 with (fail)
  rw [← HX0.out, ← Hb.out]
  go_wp2_with fail
  refine (HRd.out _).mono ?_
  rintro e W1 ⟨hb, hc⟩
  have HO := Lib.hid (HO.out.below hb HO.out.lt)
  have HB := Lib.hid (keepBelow hb HB.out)
  clear hb HRd HX0
  rcases hc with ⟨hz, rfl⟩ | ⟨hz, rfl⟩
  · have HRz : Hid (R = (zeroD, 0, 3)) := by show _ = _; rw [HR.out]; unfold parseC; rw [if_pos hz]
    clear HR hz
    unfold litV
    go_upto_region 2 with (fail)
    have ha := (Below.refl W1.heap.size W1).alloc (Nat.le_refl _) (.cells #[.bool false, .string ⟨#[]⟩, .string ⟨#[]⟩, .int .i64 0] 44)
    obtain ⟨W2, hW2⟩ : ∃ W, W = W1.alloc (.cells #[.bool false, .string ⟨#[]⟩, .string ⟨#[]⟩, .int .i64 0] 44) := ⟨_, rfl⟩
    rw [← hW2] at ha ⊢
    have HO := Lib.hid (HO.out.below ha HO.out.lt)
    have HB := Lib.hid (keepBelow ha HB.out)
    clear ha hW2
    have e0 : W2.cell? ⟨b, 0, none⟩ = some (.bool false) := HO.out.cell 0
    have k0 : W2.frozen? ⟨b, 0, none⟩ = false := HO.out.frozen 0
    have e1 : W2.cell? ⟨b, 1, none⟩ = some (.string ⟨#[]⟩) := HO.out.cell 1
    have k1 : W2.frozen? ⟨b, 1, none⟩ = false := HO.out.frozen 1
    have e2 : W2.cell? ⟨b, 2, none⟩ = some (.int .i64 0) := HO.out.cell 2
    have k2 : W2.frozen? ⟨b, 2, none⟩ = false := HO.out.frozen 2
    go_wp2_with fail
    have hV := set3_whole HO.out (.bool false) (.string ⟨#[]⟩) (.int .i64 0)
    have hBV := set3_below HB.out (b := b) (by have := Hb.out; omega) (.bool false) (.string ⟨#[]⟩) (.int .i64 0)
    have y0 := hV.cell 0
    have y1 := hV.cell 1
    have y2 := hV.cell 2
    simp only [set3, List.getElem?_toArray, List.getElem?_cons_zero, List.getElem?_cons_succ] at y0 y1 y2
    exact bodyPost_ret (v := .tuple #[.agg #[.bool false, .string ⟨#[]⟩, .int .i64 0], .int .i64 0, .int .i64 3]) (by simp [results, Tryd.results9, go_sem, y0, y1, y2]) rfl ⟨by rw [HRz.out]; rfl, hBV⟩
  · have HRy : Hid (R = finD (decide (l.getD 0 0 = 45)) (stripR (stripL (allD l))) (sgn (negE l) (capC 0 (powD l)) - (partD l).length + ((stripL (allD l)).length - (stripR (stripL (allD l))).length : Nat)) (placeN l)) := by show _ = _; rw [HR.out]; unfold parseC; rw [if_neg hz]
    obtain ⟨ng, hng⟩ : ∃ b, b = decide (l.getD 0 0 = 45) := ⟨_, rfl⟩
    obtain ⟨xx, hxx⟩ : ∃ x, x = sgn (negE l) (capC 0 (powD l)) := ⟨_, rfl⟩
    obtain ⟨N, hN⟩ : ∃ n, n = placeN l := ⟨_, rfl⟩
    obtain ⟨A, hA⟩ : ∃ a, a = allD l := ⟨_, rfl⟩
    obtain ⟨L1, hL1⟩ : ∃ a, a = stripL A := ⟨_, rfl⟩
    obtain ⟨D, hD⟩ : ∃ a, a = stripR L1 := ⟨_, rfl⟩
    obtain ⟨wh, hwh⟩ : ∃ t, t = strOf (wholeD l) := ⟨_, rfl⟩
    obtain ⟨pt, hpt⟩ : ∃ t, t = strOf (partD l) := ⟨_, rfl⟩
    obtain ⟨tA, htA⟩ : ∃ t, t = strOf A := ⟨_, rfl⟩
    obtain ⟨t1, ht1⟩ : ∃ t, t = strOf L1 := ⟨_, rfl⟩
    obtain ⟨t2, ht2⟩ : ∃ t, t = strOf D := ⟨_, rfl⟩
    rw [← hA, ← hL1, ← hD, ← hxx, ← hng, ← hN] at HRy
    have hA8 : ∀ x ∈ A, x < 256 := fun x hx => Hlt.out x (by rw [hA] at hx; exact allD_mem hx)
    have hL8 : ∀ x ∈ L1, x < 256 := fun x hx => hA8 x (by rw [hL1] at hx; exact stripL_mem hx)
    have hlen : l.length ≤ 1000000 := by rw [Hln.out]; exact hs
    have b1 : (wholeD l).length ≤ 1000000 := Nat.le_trans (seg_length_le _ _ _) hlen
    have b2 : (partD l).length ≤ 1000000 := Nat.le_trans (seg_length_le _ _ _) hlen
    have b3 : A.length ≤ 2000000 := by rw [hA]; unfold allD; rw [List.length_append]; omega
    have b4 : L1.length ≤ 2000000 := by rw [hL1]; exact Nat.le_trans (stripL_le _) b3
    have b5 : D.length ≤ L1.length := by rw [hD]; exact stripR_le _
    have b6 := sgn_le (negE l) (capC 0 (powD l))
    rw [← hxx] at b6
    have b7 := capC_far (powD l)
    have hadd : ∀ W, (Op.stringOp .add wh pt).run Tryd.prog W = .ok (.string tA) W := fun W => by
      have := add_run wh pt (by rw [hwh, strOf_size]; omega) (by rw [hpt, strOf_size]; omega) W
      rw [this, htA, hwh, hpt, strOf_app, hA]
      rfl
    have HTl : Hid (∀ W, Calls Tryd.prog 23 #[.string tA, .string ⟨#[48]⟩] W fun e w' => e = .returned (.string t1) ∧ W = w') := fun W => by
      have := Any.strings_TrimLeft_one Tryd.laysTrimL (strOf A) 48 (by decide) W
      rw [trimL_str A hA8, ← hL1, ← htA, ← ht1] at this
      exact this.mono fun _ _ h => ⟨h.1, h.2.symm⟩
    have HTr : Hid (∀ W, Calls Tryd.prog 24 #[.string t1, .string ⟨#[48]⟩] W fun e w' => e = .returned (.string t2) ∧ W = w') := fun W => by
      have := Any.strings_TrimRight_one Tryd.laysTrimR (strOf L1) 48 (by decide) W (by rw [strOf_size]; omega)
      rw [trimR_str L1 hL8, ← hD, ← ht1, ← ht2] at this
      exact this.mono fun _ _ h => ⟨h.1, h.2.symm⟩
    have z0 : pt.size = (partD l).length := by rw [hpt, strOf_size]
    have z1 : t1.size = L1.length := by rw [ht1, strOf_size]
    have z2 : t2.size = D.length := by rw [ht2, strOf_size]
    obtain ⟨ex, hex⟩ : ∃ x : Int, x = xx - ((partD l).length : Int) + ((L1.length - D.length : Nat) : Int) := ⟨_, rfl⟩
    rw [← hex] at HRy
    obtain ⟨m0, hm0⟩ : ∃ n, n = pt.size := ⟨_, rfl⟩
    obtain ⟨m1, hm1⟩ : ∃ n, n = t1.size := ⟨_, rfl⟩
    obtain ⟨m2, hm2⟩ : ∃ n, n = t2.size := ⟨_, rfl⟩
    have w1 : wrap64 (xx - (pt.size : Int)) = xx - (pt.size : Int) := IntWalk.wrap64_in _ ⟨by omega, by omega⟩
    have w2 : wrap64 (xx - (pt.size : Int) + (t1.size : Int)) = xx - (pt.size : Int) + (t1.size : Int) := IntWalk.wrap64_in _ ⟨by omega, by omega⟩
    have w3 : wrap64 (xx - (pt.size : Int) + (t1.size : Int) - (t2.size : Int)) = ex := by rw [IntWalk.wrap64_in _ ⟨by omega, by omega⟩]; omega
    have HIn := Lib.hid fun W => inRange_any ex W
    have HCl := Lib.hid fun W => clone_any t2 W (by omega)
    have Hz2 := Lib.hid z2
    have Ht2 := Lib.hid ht2
    have Hadd := Lib.hid hadd
    unfold litV
    rw [← hng, ← hxx, ← hN, ← hwh, ← hpt]
    clear hng hxx hN hA hL1 hD hwh hpt htA ht1 ht2 hA8 hL8 hlen b1 b2 b3 b4 b5 b6 b7 hadd z0 z1 z2 hex hm0 hm1 hm2 Hlt Hln HR hz hs
    go_upto_region 2 with (fail)
    have ha := (Below.refl W1.heap.size W1).alloc (Nat.le_refl _) (.cells #[.bool ng, .string wh, .string pt, .int .i64 xx] 44)
    have hl5 := Whole.new W1 44 #[.bool ng, .string wh, .string pt, .int .i64 xx]
    obtain ⟨g5, hg5⟩ : ∃ g, g = W1.heap.size := ⟨_, rfl⟩
    obtain ⟨W2, hW2⟩ : ∃ W, W = W1.alloc (.cells #[.bool ng, .string wh, .string pt, .int .i64 xx] 44) := ⟨_, rfl⟩
    have Hbg : Hid (b < g5) := by show _ < _; rw [hg5]; exact HO.out.lt
    rw [← hW2] at ha hl5 ⊢
    have HO := Lib.hid (HO.out.below ha HO.out.lt)
    have HB := Lib.hid (keepBelow ha HB.out)
    rw [← hg5] at hl5 ⊢
    have HLt := Lib.hid hl5
    have x1 : W2.cell? ⟨g5, 1, none⟩ = some (.string wh) := hl5.cell 1
    have x2 : W2.cell? ⟨g5, 2, none⟩ = some (.string pt) := hl5.cell 2
    have x3 : W2.cell? ⟨g5, 3, none⟩ = some (.int .i64 xx) := hl5.cell 3
    have hadd := Hadd.out W2
    clear ha hl5 hW2 hg5
    go_wp2_with fail
    refine (HTl.out _).mono ?_
    rintro e X ⟨rfl, rfl⟩
    clear hadd
    go_wp2_with fail
    refine (HTr.out _).mono ?_
    rintro e X2 ⟨rfl, rfl⟩
    clear x1
    go_upto_region 8 with (fail)
    rw [w3]
    clear w1 w2 w3 HTl HTr Hadd x2 x3
    have e0 : W2.cell? ⟨b, 0, none⟩ = some (.bool false) := HO.out.cell 0
    have k0 : W2.frozen? ⟨b, 0, none⟩ = false := HO.out.frozen 0
    have e1 : W2.cell? ⟨b, 1, none⟩ = some (.string ⟨#[]⟩) := HO.out.cell 1
    have k1 : W2.frozen? ⟨b, 1, none⟩ = false := HO.out.frozen 1
    have e2 : W2.cell? ⟨b, 2, none⟩ = some (.int .i64 0) := HO.out.cell 2
    have k2 : W2.frozen? ⟨b, 2, none⟩ = false := HO.out.frozen 2
    by_cases h0 : D = []
    · have e2 : t2 = ⟨#[]⟩ := by rw [Ht2.out, h0]; rfl
      rw [h0, finD_nil] at HRy
      have HRy := Lib.hid HRy
      clear Hz2 HCl Ht2 HIn
      subst e2
      clear h0
      go_wp2_with fail
      have hV := set3_whole HO.out (.bool false) (.string ⟨#[]⟩) (.int .i64 0)
      have hBV := set3_below HB.out (b := b) (by have := Hb.out; omega) (.bool false) (.string ⟨#[]⟩) (.int .i64 0)
      have y0 := hV.cell 0
      have y1 := hV.cell 1
      have y2 := hV.cell 2
      simp only [set3, List.getElem?_toArray, List.getElem?_cons_zero, List.getElem?_cons_succ] at y0 y1 y2
      exact bodyPost_ret (v := .tuple #[.agg #[.bool false, .string ⟨#[]⟩, .int .i64 0], .int .i64 (N : Int), .int .i64 0]) (by simp [results, Tryd.results9, go_sem, y0, y1, y2]) rfl ⟨by rw [HRy.out]; rfl, hBV⟩
    · have q1 := str_beq (t := t2) (by rw [Ht2.out]; exact strOf_ne h0)
      have q2 := str_nil (t := t2) (by rw [Ht2.out]; exact strOf_ne h0)
      have q3 : ¬ t2 = (⟨#[]⟩ : ByteArray) := by rw [Ht2.out]; exact strOf_ne h0
      by_cases h1 : 100 < D.length
      · rw [finD_long h0 h1] at HRy
        have HRy := Lib.hid HRy
        have d1 : decide ((100 : Int) < (t2.size : Int)) = true := decide_eq_true (by rw [Hz2.out]; omega)
        have d2 : decide (100 < t2.size) = true := decide_eq_true (by rw [Hz2.out]; exact h1)
        clear h0 h1 HCl
        go_wp2_with fail
        have hV := set3_whole HO.out (.bool false) (.string ⟨#[]⟩) (.int .i64 0)
        have hBV := set3_below HB.out (b := b) (by have := Hb.out; omega) (.bool false) (.string ⟨#[]⟩) (.int .i64 0)
        have y0 := hV.cell 0
        have y1 := hV.cell 1
        have y2 := hV.cell 2
        simp only [set3, List.getElem?_toArray, List.getElem?_cons_zero, List.getElem?_cons_succ] at y0 y1 y2
        exact bodyPost_ret (v := .tuple #[.agg #[.bool false, .string ⟨#[]⟩, .int .i64 0], .int .i64 0, .int .i64 5]) (by simp [results, Tryd.results9, go_sem, y0, y1, y2]) rfl ⟨by rw [HRy.out]; rfl, hBV⟩
      · have d1 : decide ((100 : Int) < (t2.size : Int)) = false := decide_eq_false (by rw [Hz2.out]; omega)
        have d2 : decide (100 < t2.size) = false := decide_eq_false (by rw [Hz2.out]; exact h1)
        cases hi : inR ex with
        | false =>
          rw [finD_out h0 h1 hi] at HRy
          have HRy := Lib.hid HRy
          rw [hi] at HIn
          clear h0 h1 HCl hi
          go_wp2_with fail
          refine (HIn.out _).mono ?_
          rintro e X ⟨rfl, rfl⟩
          go_wp2_with fail
          have hV := set3_whole HO.out (.bool false) (.string ⟨#[]⟩) (.int .i64 0)
          have hBV := set3_below HB.out (b := b) (by have := Hb.out; omega) (.bool false) (.string ⟨#[]⟩) (.int .i64 0)
          have y0 := hV.cell 0
          have y1 := hV.cell 1
          have y2 := hV.cell 2
          simp only [set3, List.getElem?_toArray, List.getElem?_cons_zero, List.getElem?_cons_succ] at y0 y1 y2
          exact bodyPost_ret (v := .tuple #[.agg #[.bool false, .string ⟨#[]⟩, .int .i64 0], .int .i64 0, .int .i64 8]) (by simp [results, Tryd.results9, go_sem, y0, y1, y2]) rfl ⟨by rw [HRy.out]; rfl, hBV⟩
        | true =>
          rw [finD_in h0 h1 hi] at HRy
          have HRy := Lib.hid HRy
          rw [hi] at HIn
          clear h0 h1 hi
          go_wp2_with fail
          refine (HIn.out _).mono ?_
          rintro e X ⟨rfl, rfl⟩
          clear e0 e1 e2 k0 k1 k2 q1 q2 q3 d1 d2 HIn
          go_upto_region 14 with (fail)
          have HLt : Hid (Whole W2.drew g5 44 #[.bool ng, .string wh, .string pt, .int .i64 xx]) := HLt.out
          have HO : Hid (Whole W2.drew b 24 #[.bool false, .string ⟨#[]⟩, .int .i64 0]) := HO.out
          have HB : Hid (Below w.heap.size w W2.drew) := ⟨HB.out.os, HB.out.tape, HB.out.output, HB.out.size, HB.out.block⟩
          refine wp_region_held (S := (fun V => Whole V g5 44 #[.bool ng, .string wh, .string pt, .int .i64 xx])) (by kernel_rfl) ?_
          refine wpAnyH_take (i := 0) (oi := { dst := some 54, op := Go.Op.fieldAddr 44 (Go.Operand.tmp 5) 0, type := 0, pos := "dec.go:114", after := #[], guard := none }) (v := ?_) rfl (by kernel_rfl) (by kernel_rfl) (by kernel_rfl) (fun _ _ _ h => h) (Or.inl ⟨by rfl, ?_⟩) (HLt.out) ?_
          rotate_left 1
          · intro w5 hSw
            go_simp; all_goals (with_reducible rfl)
          try simp only [Act.put, List.setIfInBounds_toArray, List.set_cons_zero, List.set_cons_succ]
          refine wpAnyH_take (i := 1) (oi := { dst := some 55, op := Go.Op.load 4 (Go.Operand.tmp 54), type := 4, pos := "dec.go:114", after := #[{ on := 0, ground := Go.Ground.data }], guard := none }) (v := ?_) rfl (by kernel_rfl) (by kernel_rfl) (by kernel_rfl) (fun _ _ _ h => h) (Or.inl ⟨by rfl, ?_⟩) (HLt.out) ?_
          rotate_left 1
          · intro w5 hSw
            have c : w5.cell? ⟨g5, 0, none⟩ = some (.bool ng) := hSw.cell 0
            go_simp; all_goals (with_reducible rfl)
          try simp only [Act.put, List.setIfInBounds_toArray, List.set_cons_zero, List.set_cons_succ]
          refine wpAnyH_take (i := 2) (oi := { dst := some 56, op := Go.Op.move (Go.Operand.tmp 7), type := 9, pos := "dec.go:114", after := #[], guard := none }) (v := ?_) rfl (by kernel_rfl) (by kernel_rfl) (by kernel_rfl) (fun _ _ _ h => h) (Or.inl ⟨by rfl, ?_⟩) (HLt.out) ?_
          rotate_left 1
          · intro w5 hSw
            go_simp; all_goals (with_reducible rfl)
          try simp only [Act.put, List.setIfInBounds_toArray, List.set_cons_zero, List.set_cons_succ]
          refine wpAnyH_take (i := 4) (oi := { dst := some 58, op := Go.Op.move (Go.Operand.tmp 8), type := 3, pos := "dec.go:114", after := #[], guard := none }) (v := ?_) rfl (by kernel_rfl) (by kernel_rfl) (by kernel_rfl) (fun _ _ _ h => h) (Or.inl ⟨by rfl, ?_⟩) (HLt.out) ?_
          rotate_left 1
          · intro w5 hSw
            go_simp; all_goals (with_reducible rfl)
          try simp only [Act.put, List.setIfInBounds_toArray, List.set_cons_zero, List.set_cons_succ]
          refine wpAnyH_take (i := 6) (oi := { dst := some 60, op := Go.Op.move (Go.Operand.tmp 3), type := 3, pos := "dec.go:114", after := #[{ on := 7, ground := Go.Ground.gcOnly Go.Departure.lateStores }], guard := none }) (v := ?_) rfl (by kernel_rfl) (by kernel_rfl) (by kernel_rfl) (fun _ _ _ h => h) (Or.inl ⟨by rfl, ?_⟩) (HLt.out) ?_
          rotate_left 1
          · intro w5 hSw
            go_simp; all_goals (with_reducible rfl)
          try simp only [Act.put, List.setIfInBounds_toArray, List.set_cons_zero, List.set_cons_succ]
          refine wpAnyH_ready (rs := [3]) (by kernel_rfl) (by simp) ?_
          refine AllReadyH.cons (o := { dst := some 57, op := Go.Op.call { callee := Go.Callee.value (Go.Operand.func 26), args := #[Go.Operand.tmp 56], argTypes := #[9] }, type := 9, pos := "dec.go:114", after := #[{ on := 2, ground := Go.Ground.data }], guard := none }) rfl (fun K hK => ?_) AllReadyH.nil
          go_simp
          refine (HCl.out _).mono ?_; rintro e Y2 ⟨rfl, hb⟩; have HLt := Lib.hid (HLt.out.below hb HLt.out.lt); have HO := Lib.hid (HO.out.below hb HO.out.lt); have HB := Lib.hid (keepBelow hb HB.out); have e0 : Y2.cell? ⟨b, 0, none⟩ = some (.bool false) := HO.out.cell 0; have k0 : Y2.frozen? ⟨b, 0, none⟩ = false := HO.out.frozen 0; have e1 : Y2.cell? ⟨b, 1, none⟩ = some (.string ⟨#[]⟩) := HO.out.cell 1; have k1 : Y2.frozen? ⟨b, 1, none⟩ = false := HO.out.frozen 1; have e2 : Y2.cell? ⟨b, 2, none⟩ = some (.int .i64 0) := HO.out.cell 2; have k2 : Y2.frozen? ⟨b, 2, none⟩ = false := HO.out.frozen 2; clear hb
          go_wp2_with fail
          refine hK.out _ _ (HLt.out) (fun _ => ?_)
          clear hK K
          try simp only [Act.put, List.setIfInBounds_toArray, List.set_cons_zero, List.set_cons_succ]
          refine wpAnyH_take (i := 5) (oi := { dst := some 59, op := Go.Op.build 24 #[(0, Go.Operand.tmp 55), (1, Go.Operand.tmp 57), (2, Go.Operand.tmp 58)], type := 24, pos := "dec.go:114", after := #[{ on := 1, ground := Go.Ground.data }, { on := 3, ground := Go.Ground.data }, { on := 4, ground := Go.Ground.data }], guard := none }) (v := ?_) rfl (by kernel_rfl) (by kernel_rfl) (by kernel_rfl) (fun _ _ _ h => h) (Or.inl ⟨by rfl, ?_⟩) (HLt.out) ?_
          rotate_left 1
          · intro w5 hSw
            go_simp; all_goals (with_reducible rfl)
          try simp only [Act.put, List.setIfInBounds_toArray, List.set_cons_zero, List.set_cons_succ]
          refine wpAnyH_ready (rs := [7]) (by kernel_rfl) (by simp) ?_
          refine AllReadyH.cons (o := { dst := none, op := Go.Op.store 24 (Go.Operand.tmp 2) (Go.Operand.tmp 59), type := 0, pos := "dec.go:114", after := #[{ on := 5, ground := Go.Ground.data }, { on := 3, ground := Go.Ground.chain }, { on := 0, ground := Go.Ground.phase }, { on := 1, ground := Go.Ground.phase }, { on := 2, ground := Go.Ground.phase }, { on := 3, ground := Go.Ground.phase }, { on := 4, ground := Go.Ground.phase }, { on := 5, ground := Go.Ground.phase }, { on := 6, ground := Go.Ground.textOnly Go.Departure.lateStores }], guard := none }) rfl (fun K hK => ?_) AllReadyH.nil
          go_simp
          refine hK.out _ _ ((set3_keep (Ne.symm (Nat.ne_of_lt Hbg.out)) _ _ _).trans HLt.out) (fun _ => ?_)
          clear hK K
          try simp only [Act.put, List.setIfInBounds_toArray, List.set_cons_zero, List.set_cons_succ]
          refine wpAnyH_take (i := 8) (oi := { dst := some 3, op := Go.Op.assign (Go.Operand.tmp 60), type := 3, pos := "dec.go:114", after := #[{ on := 6, ground := Go.Ground.data }, { on := 7, ground := Go.Ground.chain }, { on := 0, ground := Go.Ground.phase }, { on := 1, ground := Go.Ground.phase }, { on := 2, ground := Go.Ground.phase }, { on := 3, ground := Go.Ground.phase }, { on := 4, ground := Go.Ground.phase }, { on := 5, ground := Go.Ground.phase }, { on := 6, ground := Go.Ground.phase }, { on := 7, ground := Go.Ground.phase }], guard := none }) (v := ?_) rfl (by kernel_rfl) (by kernel_rfl) (by kernel_rfl) (fun _ _ _ h => h) (Or.inl ⟨by rfl, ?_⟩) ((set3_keep (Ne.symm (Nat.ne_of_lt Hbg.out)) _ _ _).trans HLt.out) ?_
          rotate_left 1
          · intro w5 hSw
            go_simp; all_goals (with_reducible rfl)
          try simp only [Act.put, List.setIfInBounds_toArray, List.set_cons_zero, List.set_cons_succ]
          refine wpAnyH_take (i := 9) (oi := { dst := some 4, op := Go.Op.assign (Go.Operand.const (Go.Value.int Go.IntKind.i64 0)), type := 25, pos := "dec.go:114", after := #[{ on := 8, ground := Go.Ground.chain }, { on := 0, ground := Go.Ground.phase }, { on := 1, ground := Go.Ground.phase }, { on := 2, ground := Go.Ground.phase }, { on := 3, ground := Go.Ground.phase }, { on := 4, ground := Go.Ground.phase }, { on := 5, ground := Go.Ground.phase }, { on := 6, ground := Go.Ground.phase }, { on := 7, ground := Go.Ground.phase }, { on := 8, ground := Go.Ground.phase }], guard := none }) (v := ?_) rfl (by kernel_rfl) (by kernel_rfl) (by kernel_rfl) (fun _ _ _ h => h) (Or.inl ⟨by rfl, ?_⟩) ((set3_keep (Ne.symm (Nat.ne_of_lt Hbg.out)) _ _ _).trans HLt.out) ?_
          rotate_left 1
          · intro w5 hSw
            go_simp; all_goals (with_reducible rfl)
          try simp only [Act.put, List.setIfInBounds_toArray, List.set_cons_zero, List.set_cons_succ]
          refine wpAnyH_done (by kernel_rfl) ?_ _
          go_wp2_with fail
          have hV := set3_whole HO.out (.bool ng) (.string t2) (.int .i64 ex)
          have hBV := set3_below HB.out (b := b) (by have := Hb.out; omega) (.bool ng) (.string t2) (.int .i64 ex)
          have y0 := hV.cell 0
          have y1 := hV.cell 1
          have y2 := hV.cell 2
          simp only [set3, List.getElem?_toArray, List.getElem?_cons_zero, List.getElem?_cons_succ] at y0 y1 y2
          exact bodyPost_ret (v := .tuple #[.agg #[.bool ng, .string t2, .int .i64 ex], .int .i64 (N : Int), .int .i64 0]) (by simp [results, Tryd.results9, go_sem, y0, y1, y2]) rfl ⟨by rw [HRy.out, Ht2.out]; rfl, hBV⟩
end Go.Proofs.YtdbcklabinmgfaaDoor
