/- Walks over layer 7: putField. -/
import Derived.Test.YtdifojeghplpeaaDoorZig
import Derived.Deep.DeepCutAuto
import Derived.Deep.RegionHeld3
namespace Go.Proofs.YtdifojeghplpeaaDoor
open Go.RowKit Var
set_option linter.unusedVariables false
set_option maxRecDepth 100000

/-- A field's first number. -/
def headOf (num : Int) (k : Nat) : Nat := 8 * (num % 536870912).toNat + k
theorem head_sum (num : Int) (k : Nat) (hk : k < 8) :
    bits .or .u64 (IntKind.u64.wrap (bits .and .u64 (IntKind.u64.wrap num) 536870911 * 8)) (k : Int) = ((headOf num k : Nat) : Int) := by
  have e1 : IntKind.u64.wrap num = ((num % 18446744073709551616).toNat : Int) := by rw [IntKind.wrap_u64]; omega
  have e2 : (num % 18446744073709551616).toNat % 536870912 = (num % 536870912).toNat := by omega
  have e3 : ∀ x : Nat, x &&& 536870911 = x % 536870912 := fun x => Nat.and_two_pow_sub_one_eq_mod x 29
  rw [e1, show (536870911 : Int) = ((536870911 : Nat) : Int) from rfl, u64_and_nat _ _ (by omega) (by omega), e3, e2]
  have e4 : IntKind.u64.wrap (((num % 536870912).toNat : Int) * 8) = (((num % 536870912).toNat * 8 : Nat) : Int) := by rw [IntKind.wrap_u64]; omega
  rw [e4, u64_or_nat _ _ (by omega) (by omega)]
  congr 1
  unfold headOf
  have := Nat.shiftLeft_add_eq_or_of_lt (show k < 2 ^ 3 by omega) (num % 536870912).toNat
  rw [Nat.shiftLeft_eq] at this
  rw [← this]; omega
theorem headOf_lt (num : Int) (k : Nat) (hk : k < 8) : headOf num k < 18446744073709551616 := by unfold headOf; omega

theorem box3_of {W : World} {g : Nat} {t : TypeId} {p q r s : Value} (h : Whole W g t #[p, q, r, s]) : W.cell? ⟨g, 3, none⟩ = some s := h.cell 3
theorem Gone.whole {w w' : World} {base g : Nat} {v v' : Value} {l : List Nat} {t : TypeId} {cs : Array Value} (h : Gone w base v l v' w') (hW : Whole w g t cs) (hn : v.ownBlock ≠ some g) : Whole w' g t cs := hW.only h.only hn
theorem Gone.away {w w' : World} {base g : Nat} {v v' : Value} {l : List Nat} (h : Gone w base v l v' w') (hn : v.ownBlock ≠ some g) (hg : g < w.heap.size) : v'.ownBlock ≠ some g := by
  rcases h.at_ with e | ⟨k, e, hk⟩
  · rw [e]; exact hn
  · rw [e]; intro e'; injection e' with e'; omega
/-- The box of a struct that the call made for itself is no row of bytes. -/
theorem Gone.boxed {w w' : World} {base : Nat} {v v' : Value} {l m : List Nat} {t : TypeId} {cs : Array Value} (hown : Own8 w base v m) (h : Gone (w.alloc (.cells cs t)) base v l v' w') : Gone w base v l v' w' :=
  ⟨h.own, ((Only.refl (fun k => v.ownBlock = some k) w).alloc _).trans h.only (fun _ _ e => e), by
    rcases h.at_ with e | ⟨k, e, hk⟩
    · exact .inl e
    · exact .inr ⟨k, e, by simp at hk; omega⟩⟩

set_option maxHeartbeats 4000000 in
theorem putField_two (base : Nat) (v : Value) (l : List Nat) (num : Int) (x : Int) (a : Option Addr) (c : Nat) (d : List Nat) (w : World) (h : Own8 w base v l) (hl : l.length ≤ 100000000) (hB : base ≤ w.heap.size)
    (hd : Nums .u8 w base a d) (hdl : d.length ≤ 100000000) (hn : -9223372036854775808 ≤ num ∧ num < 9223372036854775808) :
    Calls Tryd.prog 38 #[v, .agg #[.int .i64 num, .int .i64 2, .int .u64 x, .slice a d.length c]] w (AddPost w base v (l ++ (vb (headOf num 2) ++ (vb d.length ++ d)))) := by
  have hh : Hid (bits .or .u64 (IntKind.u64.wrap (bits .and .u64 (IntKind.u64.wrap num) 536870911 * 8)) 2 = ((headOf num 2 : Nat) : Int)) := head_sum num 2 (by omega)
  have hhl := headOf_lt num 2 (by omega)
  have hd1 : d.length < 18446744073709551616 := by omega
  generalize headOf num 2 = hd0 at *
  obtain ⟨i0, hi0, hz0, hz1, hz2⟩ := info_parts u8info
  have hv10 := vb_len10 hhl
  have hv11 := vb_len10 hd1
  have Hx1 : Hid (∀ W, Own8 W base v l → base ≤ W.heap.size → Calls Tryd.prog 50 #[v, .int .u64 (hd0 : Int)] W (AddPost W base v (l ++ vb hd0))) := fun W h1 h2 => add_any base v l hd0 W h1 hhl (by omega) h2
  have Hx2 : Hid (∀ W v1, Own8 W base v1 (l ++ vb hd0) → base ≤ W.heap.size → Calls Tryd.prog 50 #[v1, .int .u64 (d.length : Int)] W (AddPost W base v1 (l ++ vb hd0 ++ vb d.length))) := fun W v1 h1 h2 => add_any base v1 _ d.length W h1 hd1 (by simp; omega) h2
  have hA := Whole.new w 43 #[.int .i64 num, .int .i64 2, .int .u64 x, .slice a d.length c]
  have hO := Own8.alloc h (.cells #[.int .i64 num, .int .i64 2, .int .u64 x, .slice a d.length c] 43)
  have hvg : v.ownBlock ≠ some w.heap.size := fun e => by have := (h.lt _ e).2; omega
  have Hlen : Hid ((l ++ vb hd0 ++ vb d.length).length + d.length ≤ 300000000) := by show _ ≤ _; simp; omega
  have HD := Lib.hid hd
  obtain ⟨L, hL⟩ : ∃ L, L = d.length := ⟨_, rfl⟩
  rw [← hL] at hd1 Hx2 hA hO Hlen ⊢
  have HL := Lib.hid hL
  have H := Lib.hid h
  have hn1 := hn.1
  have hn2 := hn.2
  clear hn hdl hL h hd hv10 hv11
  go_enter Tryd.func38, Tryd.ntmps38
  go_upto_region 9 with (fail)
  rw [hh.out]
  clear hh
  obtain ⟨W0, hW0⟩ : ∃ W0, W0 = w.alloc (.cells #[.int .i64 num, .int .i64 2, .int .u64 x, .slice a L c] 43) := ⟨_, rfl⟩
  obtain ⟨g, hg⟩ : ∃ g, g = w.heap.size := ⟨_, rfl⟩
  have HB0 : Hid (base ≤ W0.heap.size) := by show _ ≤ _; rw [hW0]; simp; omega
  rw [← hW0, ← hg] at hA
  rw [← hW0] at hO
  rw [← hg] at hvg
  rw [← hW0, ← hg]
  have HW0 := Lib.hid hW0
  have Hg := Lib.hid hg
  clear hW0 hg
  have hwrL : IntKind.u64.wrap (L : Int) = (L : Int) := IntWalk.u64_in _ ⟨by omega, by omega⟩
  go_region_held3 (fun W => W.cell? ⟨g, 3, none⟩ = some (.slice a L c))
    (first | exact box3_of hA.drew | exact box3_of hA1 | exact box3_of hA2)
    (first
      | (go_at_call 50; (with_reducible refine (Hx2.out _ _ hg1.own HB1.out).mono ?_); rintro e X2 ⟨v2, rfl, hg2⟩; (have hA2 := hg2.whole hA1 hvg1))
      | (go_at_call 50; refine (Hx1.out _ hO.drew HB0.out).mono ?_; rintro e X1 ⟨v1, rfl, hg1⟩; (have hA1 := hg1.whole hA.drew hvg); (have hvg1 := hg1.away hvg hA.lt); (have HB1 := Lib.hid (Nat.le_trans HB0.out hg1.only.size))))
  clear hwrL
  have hg3 := hg1.undrew.trans hg2
  have c3 := box3_of hA2
  have HA2 := Lib.hid hA2
  have HO := Lib.hid hO
  clear hA hA1 hA2 hO hg1 hg2 Hx1 Hx2
  have hdV : Vals X2 base 1 a L (u8s d) := by
    have h1 : Vals w base 1 a L (u8s d) := by have := Vals.of_nums HD.out; rw [← HL.out] at this; exact this
    have h2 : Below base w W0 := by rw [HW0.out]; exact (Below.refl _ _).alloc hB _
    exact (h1.below h2).below (hg3.below HO.out HB0.out)
  have hB2 : base ≤ X2.heap.size := Nat.le_trans HB0.out hg3.only.size
  have hown : X2.ownsRow base 5 1 v2 (l ++ vb hd0 ++ vb L).length (u8s (l ++ vb hd0 ++ vb L)) := hg3.own
  have Hl1 : Hid ((l ++ vb hd0 ++ vb L).length + L ≤ maxLen) := by have := Hlen.out; unfold Hid maxLen; omega
  have Hl2 : Hid (((l ++ vb hd0 ++ vb L).length + L) * 1 ≤ 140737488355328) := by have := Hlen.out; unfold Hid; omega
  have Hone := Lib.hid (u8s_one d)
  have HG3 := Lib.hid hg3
  clear hg3
  go_wp2_with (at_builtin; refine app_vals rfl (.tmp 41) (.tmp 43) 26 rfl base 5 i0 _ 1 1 Tryd.underlying26 hi0 hz0 hz1 hz2 rfl (by omega) _ _ _ rfl hown base _ _ _ _ rfl hdV Hone.out Hl1.out Hl2.out hB2 ?_)
  intro v3 w3 h2 h3 h5
  have hg4 : Gone X2 base v2 (l ++ (vb hd0 ++ (vb L ++ d))) v3 w3 := Gone.grown h2 (by simp [HL.out]; omega) (by rw [← u8s_append]; simp) h3 (by
    rcases h5 with h5 | h5
    · exact .inl h5
    · exact .inr ⟨_, h5, Nat.le_refl _⟩)
  have hg5 := HG3.out.trans hg4
  rw [HW0.out] at hg5
  have HG5 := Lib.hid (hg5.boxed H.out)
  clear h2 h3 h5 hg4 hg5 hown hdV
  go_wp2
  go_ret
  exact ⟨_, rfl, HG5.out⟩
end Go.Proofs.YtdifojeghplpeaaDoor
