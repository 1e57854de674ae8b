/- Walks over layer 7: Unpack, the program's and the reference's; SameInts. -/
import Derived.Test.YtnlbhlobnafggaaPack
namespace Go.Proofs.Ytnlbhlobnafggaa
open Go.RowKit Var
set_option linter.unusedVariables false
set_option maxRecDepth 100000

def UnpPost (w : World) (X : List Nat) (E : Nat) (e : Ending) (w' : World) : Prop := ∃ v, e = .returned (.tuple #[v, .int .i64 (E : Int)]) ∧ Own32 w' w.heap.size v X ∧ Below w.heap.size w w'
theorem below_own32 {w W : World} {v : Value} {l : List Nat} (h : Gone32 w w.heap.size (.slice none 0 0) l v W) : Below w.heap.size w W := h.below (Own32.nil_ w _) (Nat.le_refl _)

set_option maxHeartbeats 4000000 in
theorem unpack_any (a : Option Addr) (c : Nat) (l : List Nat) (w : World) (h : Nums .u8 w w.heap.size a l) (hd : ∀ x ∈ l, x < 256) (hl : l.length ≤ 100000) (f0 : Nat) (X : List Nat) (E : Nat) (hf0 : l.length < f0) (hX : unp l f0 0 [] = (X, E)) :
    Calls Try.prog 26 #[.slice a l.length c] w (UnpPost w X E) := by
  obtain ⟨i0, hi0, hz0, hz1, hz2⟩ := info_parts u32info
  have H8 : Hid (∀ W, Below w.heap.size w W → ∀ p, p ≤ l.length → Calls Try.prog 9 #[.slice a l.length c, .int .i64 (p : Int)] W (Three (vat l p).1 (vat l p).2.1 (vat l p).2.2 W)) := fun W hb p hp =>
    varint_vat a l c p W (cells8 ((h.below hb).more hb.size) hd) (by omega) hp
  obtain ⟨L, hL⟩ : ∃ L, L = l.length := ⟨_, rfl⟩
  have Hf0 : Hid (L < f0) := by rw [hL]; exact hf0
  have HX := Lib.hid hX
  have Hst : Hid (∀ p, p ≤ L → (vat l p).2.2 = 0 → p < (vat l p).2.1 ∧ (vat l p).2.1 ≤ L) := fun p hp he => by rw [hL] at hp ⊢; exact vat_step hp he
  have Hen : Hid (∀ f acc, unp l (f + 1) L acc = (acc, 0)) := fun f acc => unp_end (by omega)
  have Her : Hid (∀ f p acc, p < L → (vat l p).2.2 ≠ 0 → unp l (f + 1) p acc = ([], (vat l p).2.2)) := fun f p acc hp => unp_err (by omega)
  have Hbg : Hid (∀ f p acc, p < L → (vat l p).2.2 = 0 → 4294967296 ≤ (vat l p).1 → unp l (f + 1) p acc = ([], 3)) := fun f p acc hp => unp_big (by omega)
  have Hmo : Hid (∀ f p acc, p < L → (vat l p).2.2 = 0 → ¬ 4294967296 ≤ (vat l p).1 → unp l (f + 1) p acc = unp l f (vat l p).2.1 (acc ++ [(vat l p).1])) := fun f p acc hp => unp_more (by omega)
  have Hbd : Hid (∀ p, (vat l p).1 < 18446744073709551616) := fun p => vat_bound l p
  rw [← hL] at hl H8 ⊢
  clear hL h hd hf0 hX
  go_enter Try.func26, Try.ntmps26
  go_wp2_with fail
  go_loopw [4, 5] (fun u t W => ∃ (p f : Nat) (acc : List Nat), t = .int .i64 (p : Int) ∧ p ≤ L ∧ acc.length ≤ p ∧ Hid (unp l f p acc = (X, E)) ∧ Hid (L - p < f) ∧ Hid (Gone32 w w.heap.size (.slice none 0 0) acc u W)) (fun _ t _ => L - (intOf t).toNat)
  case atStart => exact ⟨0, f0, [], rfl, Nat.zero_le _, by simp, HX, by have := Hf0.out; show L - 0 < f0; omega, Gone32.refl (Own32.nil_ _ _)⟩
  case round =>
    obtain ⟨p, f, acc, rfl, hp, hal, hu, hf, hg⟩ := hrel
    obtain ⟨f, rfl⟩ : ∃ g, f = g + 1 := ⟨f - 1, by have := hf.out; omega⟩
    have hb : Hid (Below w.heap.size w wr) := below_own32 hg.out
    by_cases hlt : p < L
    · have hV := Lib.hid (H8.out wr hb.out p hp)
      have h1 := Her.out f p acc hlt
      have h2 := Hbg.out f p acc hlt
      have h3 := Hmo.out f p acc hlt
      have h4 := Hst.out p hp
      have h5 := Hbd.out p
      have H1 := Lib.hid h1; have H2 := Lib.hid h2; have H3 := Lib.hid h3; have H4 := Lib.hid h4
      clear h1 h2 h3 h4
      generalize (vat l p).1 = x at *
      generalize (vat l p).2.1 = y at *
      generalize (vat l p).2.2 = z at *
      by_cases hz : z = 0
      · subst hz
        obtain ⟨hpy, hyL⟩ := H4.out rfl
        by_cases hbig : 4294967296 ≤ x
        · have hE : ([], 3) = (X, E) := (H2.out rfl hbig).symm.trans hu.out
          have HE := Lib.hid hE
          have hbI : decide ((4294967296 : Int) ≤ (x : Int)) = true := decide_eq_true (by omega)
          have hbJ : decide ((4294967295 : Int) < (x : Int)) = true := decide_eq_true (by omega)
          have hz : ((0 : Int) != 0) = false := by decide
          clear hE hu H1 H2 H3 H4
          go_wp2_with fail
          refine hV.out.mono ?_
          rintro e W ⟨rfl, rfl⟩
          go_wp2_with fail
          go_ret2
          have h := HE.out
          injection h with h1 h2
          subst h1 h2
          exact ⟨_, rfl, Own32.nil_ _ _, hb.out⟩
        · have hE := (H3.out rfl hbig).symm.trans hu.out
          have HE := Lib.hid hE
          have hbI : decide ((4294967296 : Int) ≤ (x : Int)) = false := decide_eq_false (by omega)
          have hbJ : decide ((4294967295 : Int) < (x : Int)) = false := decide_eq_false (by omega)
          have hz : ((0 : Int) != 0) = false := by decide
          have hx32 : x < 4294967296 := by omega
          have HF : Hid (L - y < f) := by have := hf.out; show L - y < f; omega
          have Hl1 : Hid (acc.length + 1 ≤ maxLen) := by unfold Hid maxLen; omega
          have Hl2 : Hid ((acc.length + 1) * 4 ≤ 140737488355328) := by unfold Hid; omega
          have hown : wr.ownsRow w.heap.size 65 1 u4 acc.length (u32s acc) := hg.out.own
          have hbs : w.heap.size ≤ wr.heap.size := hg.out.only.size
          clear hE hu H1 H2 H3 H4 hf hbig h5
          go_wp2_with fail
          refine hV.out.mono ?_
          rintro e W ⟨rfl, rfl⟩
          clear hV
          go_wp2_with (at_builtin; refine app_one rfl (.tmp 25) (.tmp 28) 45 rfl w.heap.size 65 i0 _ 4 Try.underlying45 hi0 hz0 hz1 hz2 rfl _ _ _ rfl hown _ 1 rfl rfl Hl1.out Hl2.out hbs ?_)
          intro v1 w1 g2 g3 g5
          have hg2 : Gone32 wr w.heap.size u4 (acc ++ [x]) v1 w1 := Gone32.grown g2 (by simp) (by rw [u32s_append]; simp [u32s]) g3 g5
          have Hg3 := Lib.hid (hg.out.trans hg2)
          clear g2 g3 g5 hg2 hown hg
          go_wp2
          go_roundw
          case rel => exact ⟨y, f, acc ++ [x], rfl, hyL, by simp; omega, HE, HF, Hg3⟩
          case measure => simp [intOf]; omega
      · have hE : ([], z) = (X, E) := (H1.out hz).symm.trans hu.out
        have HE := Lib.hid hE
        have hz0 : ((z : Int) != 0) = true := by simp; omega
        have hz1 : ((z : Int) == 0) = false := by simp; omega
        clear hE hu H1 H2 H3 H4 hz
        go_wp2_with fail
        refine hV.out.mono ?_
        rintro e W ⟨rfl, rfl⟩
        go_wp2_with fail
        go_ret2
        have h := HE.out
        injection h with h1 h2
        subst h1 h2
        exact ⟨_, rfl, Own32.nil_ _ _, hb.out⟩
    · obtain rfl : p = L := by omega
      have hE := (Hen.out f acc).symm.trans hu.out
      have HE := Lib.hid hE
      clear hE hu
      go_wp2_with fail
      go_ret2
      have h := HE.out
      injection h with h1 h2
      subst h1 h2
      exact ⟨_, rfl, hg.out.own, hb.out⟩

set_option maxHeartbeats 4000000 in
theorem refUnpack_any (a : Option Addr) (c : Nat) (l : List Nat) (w : World) (h : Nums .u8 w w.heap.size a l) (hd : ∀ x ∈ l, x < 256) (hl : l.length ≤ 100000) (f0 : Nat) (X : List Nat) (E : Nat) (hf0 : l.length < f0) (hX : unp l f0 0 [] = (X, E)) :
    Calls Try.prog 27 #[.slice a l.length c] w (UnpPost w X E) := by
  obtain ⟨i0, hi0, hz0, hz1, hz2⟩ := info_parts u32info
  have H8 : Hid (∀ W, Below w.heap.size w W → ∀ p, p ≤ l.length → Calls Try.prog 10 #[.slice a l.length c, .int .i64 (p : Int)] W (Three (vat l p).1 (vat l p).2.1 (vat l p).2.2 W)) := fun W hb p hp =>
    refVarint_vat a l c p W (cells8 ((h.below hb).more hb.size) hd) (by omega) hp
  obtain ⟨L, hL⟩ : ∃ L, L = l.length := ⟨_, rfl⟩
  have Hf0 : Hid (L < f0) := by rw [hL]; exact hf0
  have HX := Lib.hid hX
  have Hst : Hid (∀ p, p ≤ L → (vat l p).2.2 = 0 → p < (vat l p).2.1 ∧ (vat l p).2.1 ≤ L) := fun p hp he => by rw [hL] at hp ⊢; exact vat_step hp he
  have Hen : Hid (∀ f acc, unp l (f + 1) L acc = (acc, 0)) := fun f acc => unp_end (by omega)
  have Her : Hid (∀ f p acc, p < L → (vat l p).2.2 ≠ 0 → unp l (f + 1) p acc = ([], (vat l p).2.2)) := fun f p acc hp => unp_err (by omega)
  have Hbg : Hid (∀ f p acc, p < L → (vat l p).2.2 = 0 → 4294967296 ≤ (vat l p).1 → unp l (f + 1) p acc = ([], 3)) := fun f p acc hp => unp_big (by omega)
  have Hmo : Hid (∀ f p acc, p < L → (vat l p).2.2 = 0 → ¬ 4294967296 ≤ (vat l p).1 → unp l (f + 1) p acc = unp l f (vat l p).2.1 (acc ++ [(vat l p).1])) := fun f p acc hp => unp_more (by omega)
  have Hbd : Hid (∀ p, (vat l p).1 < 18446744073709551616) := fun p => vat_bound l p
  rw [← hL] at hl H8 ⊢
  clear hL h hd hf0 hX
  go_enter Try.func27, Try.ntmps27
  go_wp2_with fail
  go_loopw [4, 5] (fun u t W => ∃ (p f : Nat) (acc : List Nat), t = .int .i64 (p : Int) ∧ p ≤ L ∧ acc.length ≤ p ∧ Hid (unp l f p acc = (X, E)) ∧ Hid (L - p < f) ∧ Hid (Gone32 w w.heap.size (.slice none 0 0) acc u W)) (fun _ t _ => L - (intOf t).toNat)
  case atStart => exact ⟨0, f0, [], rfl, Nat.zero_le _, by simp, HX, by have := Hf0.out; show L - 0 < f0; omega, Gone32.refl (Own32.nil_ _ _)⟩
  case round =>
    obtain ⟨p, f, acc, rfl, hp, hal, hu, hf, hg⟩ := hrel
    obtain ⟨f, rfl⟩ : ∃ g, f = g + 1 := ⟨f - 1, by have := hf.out; omega⟩
    have hb : Hid (Below w.heap.size w wr) := below_own32 hg.out
    by_cases hlt : p < L
    · have hV := Lib.hid (H8.out wr hb.out p hp)
      have h1 := Her.out f p acc hlt
      have h2 := Hbg.out f p acc hlt
      have h3 := Hmo.out f p acc hlt
      have h4 := Hst.out p hp
      have h5 := Hbd.out p
      have H1 := Lib.hid h1; have H2 := Lib.hid h2; have H3 := Lib.hid h3; have H4 := Lib.hid h4
      clear h1 h2 h3 h4
      generalize (vat l p).1 = x at *
      generalize (vat l p).2.1 = y at *
      generalize (vat l p).2.2 = z at *
      by_cases hz : z = 0
      · subst hz
        obtain ⟨hpy, hyL⟩ := H4.out rfl
        by_cases hbig : 4294967296 ≤ x
        · have hE : ([], 3) = (X, E) := (H2.out rfl hbig).symm.trans hu.out
          have HE := Lib.hid hE
          have hbI : decide ((4294967296 : Int) ≤ (x : Int)) = true := decide_eq_true (by omega)
          have hbJ : decide ((4294967295 : Int) < (x : Int)) = true := decide_eq_true (by omega)
          have hz : ((0 : Int) != 0) = false := by decide
          clear hE hu H1 H2 H3 H4
          go_wp2_with fail
          refine hV.out.mono ?_
          rintro e W ⟨rfl, rfl⟩
          go_wp2_with fail
          go_ret2
          have h := HE.out
          injection h with h1 h2
          subst h1 h2
          exact ⟨_, rfl, Own32.nil_ _ _, hb.out⟩
        · have hE := (H3.out rfl hbig).symm.trans hu.out
          have HE := Lib.hid hE
          have hbI : decide ((4294967296 : Int) ≤ (x : Int)) = false := decide_eq_false (by omega)
          have hbJ : decide ((4294967295 : Int) < (x : Int)) = false := decide_eq_false (by omega)
          have hz : ((0 : Int) != 0) = false := by decide
          have hx32 : x < 4294967296 := by omega
          have HF : Hid (L - y < f) := by have := hf.out; show L - y < f; omega
          have Hl1 : Hid (acc.length + 1 ≤ maxLen) := by unfold Hid maxLen; omega
          have Hl2 : Hid ((acc.length + 1) * 4 ≤ 140737488355328) := by unfold Hid; omega
          have hown : wr.ownsRow w.heap.size 65 1 u4 acc.length (u32s acc) := hg.out.own
          have hbs : w.heap.size ≤ wr.heap.size := hg.out.only.size
          clear hE hu H1 H2 H3 H4 hf hbig h5
          go_wp2_with fail
          refine hV.out.mono ?_
          rintro e W ⟨rfl, rfl⟩
          clear hV
          go_wp2_with (at_builtin; refine app_one rfl (.tmp 25) (.tmp 28) 45 rfl w.heap.size 65 i0 _ 4 Try.underlying45 hi0 hz0 hz1 hz2 rfl _ _ _ rfl hown _ 1 rfl rfl Hl1.out Hl2.out hbs ?_)
          intro v1 w1 g2 g3 g5
          have hg2 : Gone32 wr w.heap.size u4 (acc ++ [x]) v1 w1 := Gone32.grown g2 (by simp) (by rw [u32s_append]; simp [u32s]) g3 g5
          have Hg3 := Lib.hid (hg.out.trans hg2)
          clear g2 g3 g5 hg2 hown hg
          go_wp2
          go_roundw
          case rel => exact ⟨y, f, acc ++ [x], rfl, hyL, by simp; omega, HE, HF, Hg3⟩
          case measure => simp [intOf]; omega
      · have hE : ([], z) = (X, E) := (H1.out hz).symm.trans hu.out
        have HE := Lib.hid hE
        have hz0 : ((z : Int) != 0) = true := by simp; omega
        have hz1 : ((z : Int) == 0) = false := by simp; omega
        clear hE hu H1 H2 H3 H4 hz
        go_wp2_with fail
        refine hV.out.mono ?_
        rintro e W ⟨rfl, rfl⟩
        go_wp2_with fail
        go_ret2
        have h := HE.out
        injection h with h1 h2
        subst h1 h2
        exact ⟨_, rfl, Own32.nil_ _ _, hb.out⟩
    · obtain rfl : p = L := by omega
      have hE := (Hen.out f acc).symm.trans hu.out
      have HE := Lib.hid hE
      clear hE hu
      go_wp2_with fail
      go_ret2
      have h := HE.out
      injection h with h1 h2
      subst h1 h2
      exact ⟨_, rfl, hg.out.own, hb.out⟩

end Go.Proofs.Ytnlbhlobnafggaa
