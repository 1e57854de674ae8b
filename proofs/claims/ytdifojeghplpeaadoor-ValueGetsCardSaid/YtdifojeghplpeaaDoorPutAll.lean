/- Walks over layer 7: putField, all kinds; Put. -/
import Derived.Test.YtdifojeghplpeaaDoorPutField
import Derived.Test.YtdifojeghplpeaaDoorPutMath
namespace Go.Proofs.YtdifojeghplpeaaDoor
open Go.RowKit Var
set_option linter.unusedVariables false
set_option maxRecDepth 100000

theorem box2_of {W : World} {g : Nat} {t : TypeId} {p q r s : Value} (h : Whole W g t #[p, q, r, s]) : W.cell? ⟨g, 2, none⟩ = some r := h.cell 2

set_option maxHeartbeats 4000000 in
theorem putField_var (base : Nat) (v : Value) (l : List Nat) (num : Int) (x : Nat) (s : Value) (w : World) (h : Own8 w base v l) (hl : l.length ≤ 100000000) (hB : base ≤ w.heap.size)
    (hx : x < 18446744073709551616) (hn : -9223372036854775808 ≤ num ∧ num < 9223372036854775808) (hs : ∃ a n c, s = .slice a n c) :
    Calls Tryd.prog 38 #[v, .agg #[.int .i64 num, .int .i64 0, .int .u64 (x : Int), s]] w (AddPost w base v (l ++ (vb (headOf num 0) ++ vb x))) := by
  obtain ⟨a, n, c, rfl⟩ := hs
  have hh : Hid (bits .or .u64 (IntKind.u64.wrap (bits .and .u64 (IntKind.u64.wrap num) 536870911 * 8)) 0 = ((headOf num 0 : Nat) : Int)) := head_sum num 0 (by omega)
  have hhl := headOf_lt num 0 (by omega)
  generalize headOf num 0 = hd0 at *
  have hv10 := vb_len10 hhl
  have Hx1 : Hid (∀ W, Own8 W base v l → base ≤ W.heap.size → Calls Tryd.prog 50 #[v, .int .u64 (hd0 : Int)] W (AddPost W base v (l ++ vb hd0))) := fun W h1 h2 => add_any base v l hd0 W h1 hhl (by omega) h2
  have Hx2 : Hid (∀ W v1, Own8 W base v1 (l ++ vb hd0) → base ≤ W.heap.size → Calls Tryd.prog 50 #[v1, .int .u64 (x : Int)] W (AddPost W base v1 (l ++ vb hd0 ++ vb x))) := fun W v1 h1 h2 => add_any base v1 _ x W h1 hx (by simp; omega) h2
  have hA := Whole.new w 43 #[.int .i64 num, .int .i64 0, .int .u64 (x : Int), .slice a n c]
  have hO := Own8.alloc h (.cells #[.int .i64 num, .int .i64 0, .int .u64 (x : Int), .slice a n c] 43)
  have hvg : v.ownBlock ≠ some w.heap.size := fun e => by have := (h.lt _ e).2; omega
  have H := Lib.hid h
  have hn1 := hn.1
  have hn2 := hn.2
  clear hn h hv10
  go_enter Tryd.func38, Tryd.ntmps38
  go_upto_region 8 with (fail)
  rw [hh.out]
  clear hh
  obtain ⟨W0, hW0⟩ : ∃ W0, W0 = w.alloc (.cells #[.int .i64 num, .int .i64 0, .int .u64 (x : Int), .slice a n c] 43) := ⟨_, rfl⟩
  obtain ⟨g, hg⟩ : ∃ g, g = w.heap.size := ⟨_, rfl⟩
  have HB0 : Hid (base ≤ W0.heap.size) := by show _ ≤ _; rw [hW0]; simp; omega
  rw [← hW0, ← hg] at hA
  rw [← hW0] at hO
  rw [← hg] at hvg
  rw [← hW0, ← hg]
  have HW0 := Lib.hid hW0
  clear hW0 hg
  go_region_held3 (fun W => W.cell? ⟨g, 2, none⟩ = some (.int .u64 (x : Int)))
    (first | exact box2_of hA.drew | exact box2_of hA1 | exact box2_of hA2)
    (first
      | (go_at_call 50; (with_reducible refine (Hx2.out _ _ hg1.own HB1.out).mono ?_); rintro e X2 ⟨v2, rfl, hg2⟩; (have hA2 := hg2.whole hA1 hvg1))
      | (go_at_call 50; refine (Hx1.out _ hO.drew HB0.out).mono ?_; rintro e X1 ⟨v1, rfl, hg1⟩; (have hA1 := hg1.whole hA.drew hvg); (have hvg1 := hg1.away hvg hA.lt); (have HB1 := Lib.hid (Nat.le_trans HB0.out hg1.only.size))))
  have hg3 := hg1.undrew.trans hg2
  rw [HW0.out, List.append_assoc] at hg3
  have HG5 := Lib.hid (hg3.boxed H.out)
  clear hg3 hg1 hg2 hA hA1 hA2 hO Hx1 Hx2
  go_wp2_with fail
  go_ret
  exact ⟨_, rfl, HG5.out⟩

theorem shr_byte (x k : Nat) : ((x : Int) / 2 ^ (8 * k)) % 256 = ((x / 256 ^ k % 256 : Nat) : Int) := by
  rw [Int.natCast_emod, Int.natCast_ediv, Int.natCast_pow, Int.pow_mul]; rfl

set_option maxHeartbeats 4000000 in
theorem putField_fix8 (base : Nat) (v : Value) (l : List Nat) (num : Int) (x : Nat) (s : Value) (w : World) (h : Own8 w base v l) (hl : l.length ≤ 100000000) (hB : base ≤ w.heap.size)
    (hx : x < 18446744073709551616) (hn : -9223372036854775808 ≤ num ∧ num < 9223372036854775808) (hs : ∃ a n c, s = .slice a n c) :
    Calls Tryd.prog 38 #[v, .agg #[.int .i64 num, .int .i64 1, .int .u64 (x : Int), s]] w (AddPost w base v (l ++ (vb (headOf num 1) ++ fx x 8))) := by
  obtain ⟨a, n, c, rfl⟩ := hs
  obtain ⟨i0, hi0, hz0, hz1, hz2⟩ := info_parts u8info
  have hh : Hid (bits .or .u64 (IntKind.u64.wrap (bits .and .u64 (IntKind.u64.wrap num) 536870911 * 8)) 1 = ((headOf num 1 : Nat) : Int)) := head_sum num 1 (by omega)
  have hhl := headOf_lt num 1 (by omega)
  generalize headOf num 1 = hd0 at *
  have hv10 := vb_len10 hhl
  have Hx1 : Hid (∀ W, Own8 W base v l → base ≤ W.heap.size → Calls Tryd.prog 50 #[v, .int .u64 (hd0 : Int)] W (AddPost W base v (l ++ vb hd0))) := fun W h1 h2 => add_any base v l hd0 W h1 hhl (by omega) h2
  have hA := Whole.new w 43 #[.int .i64 num, .int .i64 1, .int .u64 (x : Int), .slice a n c]
  have hO := Own8.alloc h (.cells #[.int .i64 num, .int .i64 1, .int .u64 (x : Int), .slice a n c] 43)
  have hvg : v.ownBlock ≠ some w.heap.size := fun e => by have := (h.lt _ e).2; omega
  have hLl : (l ++ vb hd0).length ≤ 100000010 := by simp; omega
  have H := Lib.hid h
  have hn1 := hn.1
  have hn2 := hn.2
  clear hn h hv10
  go_enter Tryd.func38, Tryd.ntmps38
  go_upto_region 12 with (fail)
  rw [hh.out]
  clear hh
  obtain ⟨W0, hW0⟩ : ∃ W0, W0 = w.alloc (.cells #[.int .i64 num, .int .i64 1, .int .u64 (x : Int), .slice a n c] 43) := ⟨_, rfl⟩
  obtain ⟨g, hg⟩ : ∃ g, g = w.heap.size := ⟨_, rfl⟩
  have HB0 : Hid (base ≤ W0.heap.size) := by show _ ≤ _; rw [hW0]; simp; omega
  rw [← hW0, ← hg] at hA
  rw [← hW0] at hO
  rw [← hg] at hvg
  rw [← hW0, ← hg]
  have HW0 := Lib.hid hW0
  have HA := Lib.hid hA
  have HO := Lib.hid hO
  have Hvg := Lib.hid hvg
  clear hW0 hg hA hO hvg
  go_wp2_with fail
  refine (Hx1.out _ HO.out HB0.out).mono ?_
  rintro e X1 ⟨v1, rfl, hg1⟩
  have HG1 := Lib.hid hg1
  clear hg1 Hx1
  go_wp2_with fail
  go_loopw [0, 49] (fun u t W => ∃ k : Nat, t = .int .i64 (k : Int) ∧ k ≤ 8 ∧ Hid (Gone W0 base v (l ++ vb hd0 ++ fx x k) u W)) (fun _ t _ => 8 - (intOf t).toNat)
  case atStart => exact ⟨0, rfl, by omega, by simpa [fx, Hid] using HG1.out⟩
  case round =>
    obtain ⟨k, rfl, hk, hg2⟩ := hrel
    have hW := hg2.out.whole HA.out Hvg.out
    have hlk := fx_length x k
    by_cases hlt : k < 8
    · have c2 := box2_of hW
      have hB2 : base ≤ wr.heap.size := Nat.le_trans HB0.out hg2.out.only.size
      have hown : wr.ownsRow base 5 1 u0 (l ++ vb hd0 ++ fx x k).length (u8s (l ++ vb hd0 ++ fx x k)) := hg2.out.own
      have Hl1 : Hid ((l ++ vb hd0 ++ fx x k).length + 1 ≤ maxLen) := by unfold Hid maxLen; rw [List.length_append]; omega
      have Hl2 : Hid (((l ++ vb hd0 ++ fx x k).length + 1) * 1 ≤ 140737488355328) := by unfold Hid; rw [List.length_append]; omega
      have Hby := Lib.hid (shr_byte x k)
      have Hfx : Hid (l ++ vb hd0 ++ fx x k ++ [x / 256 ^ k % 256] = l ++ vb hd0 ++ fx x (k + 1)) := by show _ = _; rw [fx_snoc]; simp
      clear hW hlk
      go_wp2_with (at_builtin; refine app_one rfl (.tmp 52) (.tmp 59) 26 rfl base 5 i0 _ 1 Tryd.underlying26 hi0 hz0 hz1 hz2 rfl _ _ _ rfl hown _ 1 rfl rfl Hl1.out Hl2.out hB2 ?_)
      intro v2 w2 h2 h3 h5
      have hg3 : Gone wr base u0 (l ++ vb hd0 ++ fx x (k + 1)) v2 w2 := Gone.grown h2 (by rw [← Hfx.out]; simp; omega) (by rw [← Hfx.out, u8s_append _ [_]]; simp [u8s, Hby.out]) h3 h5
      have Hg4 := Lib.hid (hg2.out.trans hg3)
      clear h2 h3 h5 hg3 hown hg2
      go_wp2
      go_roundw
      case rel => exact ⟨k + 1, by go_num, by omega, Hg4⟩
      case measure => simp [intOf] <;> omega
    · obtain rfl : k = 8 := by omega
      have hg5 := hg2.out
      rw [HW0.out, List.append_assoc] at hg5
      have HG5 := Lib.hid (hg5.boxed H.out)
      clear hg5 hW hlk hg2
      go_wp2_with fail
      go_ret
      exact ⟨_, rfl, HG5.out⟩

set_option maxHeartbeats 4000000 in
theorem putField_fix4 (base : Nat) (v : Value) (l : List Nat) (num : Int) (x : Nat) (s : Value) (w : World) (h : Own8 w base v l) (hl : l.length ≤ 100000000) (hB : base ≤ w.heap.size)
    (hx : x < 18446744073709551616) (hn : -9223372036854775808 ≤ num ∧ num < 9223372036854775808) (hs : ∃ a n c, s = .slice a n c) :
    Calls Tryd.prog 38 #[v, .agg #[.int .i64 num, .int .i64 5, .int .u64 (x : Int), s]] w (AddPost w base v (l ++ (vb (headOf num 5) ++ fx x 4))) := by
  obtain ⟨a, n, c, rfl⟩ := hs
  obtain ⟨i0, hi0, hz0, hz1, hz2⟩ := info_parts u8info
  have hh : Hid (bits .or .u64 (IntKind.u64.wrap (bits .and .u64 (IntKind.u64.wrap num) 536870911 * 8)) 5 = ((headOf num 5 : Nat) : Int)) := head_sum num 5 (by omega)
  have hhl := headOf_lt num 5 (by omega)
  generalize headOf num 5 = hd0 at *
  have hv10 := vb_len10 hhl
  have Hx1 : Hid (∀ W, Own8 W base v l → base ≤ W.heap.size → Calls Tryd.prog 50 #[v, .int .u64 (hd0 : Int)] W (AddPost W base v (l ++ vb hd0))) := fun W h1 h2 => add_any base v l hd0 W h1 hhl (by omega) h2
  have hA := Whole.new w 43 #[.int .i64 num, .int .i64 5, .int .u64 (x : Int), .slice a n c]
  have hO := Own8.alloc h (.cells #[.int .i64 num, .int .i64 5, .int .u64 (x : Int), .slice a n c] 43)
  have hvg : v.ownBlock ≠ some w.heap.size := fun e => by have := (h.lt _ e).2; omega
  have hLl : (l ++ vb hd0).length ≤ 100000010 := by simp; omega
  have H := Lib.hid h
  have hn1 := hn.1
  have hn2 := hn.2
  clear hn h hv10
  go_enter Tryd.func38, Tryd.ntmps38
  go_upto_region 12 with (fail)
  rw [hh.out]
  clear hh
  obtain ⟨W0, hW0⟩ : ∃ W0, W0 = w.alloc (.cells #[.int .i64 num, .int .i64 5, .int .u64 (x : Int), .slice a n c] 43) := ⟨_, rfl⟩
  obtain ⟨g, hg⟩ : ∃ g, g = w.heap.size := ⟨_, rfl⟩
  have HB0 : Hid (base ≤ W0.heap.size) := by show _ ≤ _; rw [hW0]; simp; omega
  rw [← hW0, ← hg] at hA
  rw [← hW0] at hO
  rw [← hg] at hvg
  rw [← hW0, ← hg]
  have HW0 := Lib.hid hW0
  have HA := Lib.hid hA
  have HO := Lib.hid hO
  have Hvg := Lib.hid hvg
  clear hW0 hg hA hO hvg
  go_wp2_with fail
  refine (Hx1.out _ HO.out HB0.out).mono ?_
  rintro e X1 ⟨v1, rfl, hg1⟩
  have HG1 := Lib.hid hg1
  clear hg1 Hx1
  go_wp2_with fail
  go_loopw [0, 49] (fun u t W => ∃ k : Nat, t = .int .i64 (k : Int) ∧ k ≤ 4 ∧ Hid (Gone W0 base v (l ++ vb hd0 ++ fx x k) u W)) (fun _ t _ => 4 - (intOf t).toNat)
  case atStart => exact ⟨0, rfl, by omega, by simpa [fx, Hid] using HG1.out⟩
  case round =>
    obtain ⟨k, rfl, hk, hg2⟩ := hrel
    have hW := hg2.out.whole HA.out Hvg.out
    have hlk := fx_length x k
    by_cases hlt : k < 4
    · have c2 := box2_of hW
      have hB2 : base ≤ wr.heap.size := Nat.le_trans HB0.out hg2.out.only.size
      have hown : wr.ownsRow base 5 1 u0 (l ++ vb hd0 ++ fx x k).length (u8s (l ++ vb hd0 ++ fx x k)) := hg2.out.own
      have Hl1 : Hid ((l ++ vb hd0 ++ fx x k).length + 1 ≤ maxLen) := by unfold Hid maxLen; rw [List.length_append]; omega
      have Hl2 : Hid (((l ++ vb hd0 ++ fx x k).length + 1) * 1 ≤ 140737488355328) := by unfold Hid; rw [List.length_append]; omega
      have Hby := Lib.hid (shr_byte x k)
      have Hfx : Hid (l ++ vb hd0 ++ fx x k ++ [x / 256 ^ k % 256] = l ++ vb hd0 ++ fx x (k + 1)) := by show _ = _; rw [fx_snoc]; simp
      clear hW hlk
      go_wp2_with (at_builtin; refine app_one rfl (.tmp 52) (.tmp 59) 26 rfl base 5 i0 _ 1 Tryd.underlying26 hi0 hz0 hz1 hz2 rfl _ _ _ rfl hown _ 1 rfl rfl Hl1.out Hl2.out hB2 ?_)
      intro v2 w2 h2 h3 h5
      have hg3 : Gone wr base u0 (l ++ vb hd0 ++ fx x (k + 1)) v2 w2 := Gone.grown h2 (by rw [← Hfx.out]; simp; omega) (by rw [← Hfx.out, u8s_append _ [_]]; simp [u8s, Hby.out]) h3 h5
      have Hg4 := Lib.hid (hg2.out.trans hg3)
      clear h2 h3 h5 hg3 hown hg2
      go_wp2
      go_roundw
      case rel => exact ⟨k + 1, by go_num, by omega, Hg4⟩
      case measure => simp [intOf] <;> omega
    · obtain rfl : k = 4 := by omega
      have hg5 := hg2.out
      rw [HW0.out, List.append_assoc] at hg5
      have HG5 := Lib.hid (hg5.boxed H.out)
      clear hg5 hW hlk hg2
      go_wp2_with fail
      go_ret
      exact ⟨_, rfl, HG5.out⟩

set_option maxHeartbeats 1000000 in
theorem putField_none (base : Nat) (v : Value) (l : List Nat) (num kind x : Int) (s : Value) (w : World) (h : Own8 w base v l) (hk : kind ≠ 0 ∧ kind ≠ 1 ∧ kind ≠ 2 ∧ kind ≠ 5) (hs : ∃ a n c, s = .slice a n c)
    (hn : -9223372036854775808 ≤ num ∧ num < 9223372036854775808) (hkb : -9223372036854775808 ≤ kind ∧ kind < 9223372036854775808) :
    Calls Tryd.prog 38 #[v, .agg #[.int .i64 num, .int .i64 kind, .int .u64 x, s]] w (AddPost w base v l) := by
  obtain ⟨a, n, c, rfl⟩ := hs
  have k0 : (kind == 0) = false := by simp [hk.1]
  have k1 : (kind == 1) = false := by simp [hk.2.1]
  have k2 : (kind == 2) = false := by simp [hk.2.2.1]
  have k5 : (kind == 5) = false := by simp [hk.2.2.2]
  have H := Lib.hid h
  have hn1 := hn.1
  have hn2 := hn.2
  clear hk h hn hkb
  go_enter Tryd.func38, Tryd.ntmps38
  go_wp2_with fail
  go_ret
  exact ⟨_, rfl, (Gone.refl (H.out.alloc _)).boxed H.out⟩

/-- A field as bytes, whatever it holds. -/
def pfI (num kind : Int) (int : Nat) (data : List Nat) : List Nat :=
  if kind = 0 then vb (headOf num 0) ++ vb int else if kind = 1 then vb (headOf num 1) ++ fx int 8 else if kind = 2 then vb (headOf num 2) ++ (vb data.length ++ data) else if kind = 5 then vb (headOf num 5) ++ fx int 4 else []

theorem putField_any (base : Nat) (v : Value) (l : List Nat) (num kind : Int) (x : Nat) (a : Option Addr) (c : Nat) (d : List Nat) (w : World) (h : Own8 w base v l) (hl : l.length ≤ 100000000) (hB : base ≤ w.heap.size)
    (hd : Nums .u8 w base a d) (hdl : d.length ≤ 100000000) (hx : x < 18446744073709551616) (hn : -9223372036854775808 ≤ num ∧ num < 9223372036854775808) (hk : -9223372036854775808 ≤ kind ∧ kind < 9223372036854775808) :
    Calls Tryd.prog 38 #[v, .agg #[.int .i64 num, .int .i64 kind, .int .u64 (x : Int), .slice a d.length c]] w (AddPost w base v (l ++ pfI num kind x d)) := by
  by_cases k0 : kind = 0
  · subst k0
    have e : pfI num 0 x d = vb (headOf num 0) ++ vb x := by simp [pfI]
    rw [e]; exact putField_var base v l num x _ w h hl hB hx hn ⟨_, _, _, rfl⟩
  · by_cases k1 : kind = 1
    · subst k1
      have e : pfI num 1 x d = vb (headOf num 1) ++ fx x 8 := by simp [pfI]
      rw [e]; exact putField_fix8 base v l num x _ w h hl hB hx hn ⟨_, _, _, rfl⟩
    · by_cases k2 : kind = 2
      · subst k2
        have e : pfI num 2 x d = vb (headOf num 2) ++ (vb d.length ++ d) := by simp [pfI]
        rw [e]; exact putField_two base v l num x a c d w h hl hB hd hdl hn
      · by_cases k5 : kind = 5
        · subst k5
          have e : pfI num 5 x d = vb (headOf num 5) ++ fx x 4 := by simp [pfI]
          rw [e]; exact putField_fix4 base v l num x _ w h hl hB hx hn ⟨_, _, _, rfl⟩
        · have e : pfI num kind x d = [] := by simp [pfI, k0, k1, k2, k5]
          rw [e, List.append_nil]; exact putField_none base v l num kind x _ w h ⟨k0, k1, k2, k5⟩ ⟨_, _, _, rfl⟩ hn hk
end Go.Proofs.YtdifojeghplpeaaDoor
