/- Walks over layer 7: Get. -/
import Derived.Test.YtdifojeghplpeaaDoorFields
namespace Go.Proofs.YtdifojeghplpeaaDoor
open Go.RowKit Var
set_option linter.unusedVariables false
set_option maxRecDepth 100000

def GetPost (w : World) (X : List F) (E : Nat) (e : Ending) (w' : World) : Prop := ∃ v, e = .returned (.tuple #[v, .int .i64 (E : Int)]) ∧ OwnF w' w.heap.size v X ∧ Below w.heap.size w w'

set_option maxHeartbeats 4000000 in
theorem get_any (a : Option Addr) (c : Nat) (l : List Nat) (w : World) (h : Nums .u8 w w.heap.size a l) (hd : ∀ x ∈ l, x < 256) (hlc : l.length ≤ c) (hl : l.length ≤ 100000) (f0 : Nat) (X : List F) (E : Nat) (hf0 : l.length < f0) (hX : gets l f0 0 [] = (X, E)) :
    Calls Tryd.prog 28 #[.slice a l.length c] w (GetPost w X E) := by
  have H8 : Hid (∀ W, Below w.heap.size w W → ∀ p, p < l.length → Calls Tryd.prog 42 #[.slice a l.length c, .int .i64 (p : Int)] W (FldPost W (fld l p))) := fun W hb p hp =>
    field_any a l c p W ((h.below hb).more hb.size) hd hlc hp (by omega)
  obtain ⟨L, hL⟩ : ∃ L, L = l.length := ⟨_, rfl⟩
  have Hf0 : Hid (L < f0) := by rw [hL]; exact hf0
  have HX := Lib.hid hX
  have Hst : Hid (∀ p, p < L → (fld l p).1 = 0 → p < (fld l p).2.2 ∧ (fld l p).2.2 ≤ L) := fun p hp he => by rw [hL] at hp ⊢; exact fld_step hp he
  have Hen : Hid (∀ f acc, gets l (f + 1) L acc = (acc, 0)) := fun f acc => gets_end (by omega)
  have Her : Hid (∀ f p acc, p < L → (fld l p).1 ≠ 0 → gets l (f + 1) p acc = ([], (fld l p).1)) := fun f p acc hp => gets_err (by omega)
  have Hmo : Hid (∀ f p acc, p < L → (fld l p).1 = 0 → gets l (f + 1) p acc = gets l f (fld l p).2.2 (acc ++ [(fld l p).2.1])) := fun f p acc hp => gets_more (by omega)
  rw [← hL] at hl H8 ⊢
  clear hL h hd hf0 hX hlc
  go_enter Tryd.func28, Tryd.ntmps28
  go_wp2_with fail
  go_loopw [4, 5] (fun u t W => ∃ (p f : Nat) (acc : List F), t = .int .i64 (p : Int) ∧ p ≤ L ∧ acc.length ≤ p ∧ Hid (gets l f p acc = (X, E)) ∧ Hid (L - p < f) ∧ Hid (GoneF w w.heap.size (.slice none 0 0) acc u W)) (fun _ t _ => L - (intOf t).toNat)
  case atStart => exact ⟨0, f0, [], rfl, Nat.zero_le _, by simp, HX, by have := Hf0.out; show L - 0 < f0; omega, GoneF.refl (OwnF.nil_ _ _)⟩
  case round =>
    obtain ⟨p, f, acc, rfl, hp, hal, hu, hf, hg⟩ := hrel
    obtain ⟨f, rfl⟩ : ∃ g, f = g + 1 := ⟨f - 1, by have := hf.out; omega⟩
    have hb : Hid (Below w.heap.size w wr) := hg.out.below (OwnF.nil_ w _) (Nat.le_refl _)
    by_cases hlt : p < L
    · have hV := Lib.hid (H8.out wr hb.out p hlt)
      have h1 := Her.out f p acc hlt
      have h3 := Hmo.out f p acc hlt
      have h4 := Hst.out p hlt
      have H1 := Lib.hid h1; have H3 := Lib.hid h3; have H4 := Lib.hid h4
      clear h1 h3 h4
      generalize fld l p = R at *
      obtain ⟨z, g, y⟩ := R
      by_cases hz : z = 0
      · subst hz
        obtain ⟨hpy, hyL⟩ := H4.out rfl
        have hE := (H3.out rfl).symm.trans hu.out
        have HE := Lib.hid hE
        have hz : ((0 : Int) != 0) = false := by decide
        simp only at hpy hyL
        have HF : Hid (L - y < f) := by have := hf.out; show L - y < f; omega
        clear hE hu H1 H3 H4 hf
        go_wp2_with fail
        refine hV.out.mono ?_
        rintro e W1 ⟨a1, c1, rfl, hN1, hlo, hb1⟩
        have Hd : Hid (∀ o, DataAt (W1.alloc o) u4.ownBlock a1 g.data) := fun o => DataAt.of_nums (hN1.below ((Below.refl _ _).alloc (Nat.le_refl _) o)) (by simp) (fun x hx _ e => by
          have := (hg.out.own.lt _ e).2; have := hlo x hx; omega)
        have hown : Hid (∀ o, OwnF (W1.alloc o) w.heap.size u4 acc) := fun o => hg.out.own.below ((hb1).alloc (by have := hb1.size; omega) o)
        have hbs : Hid (∀ o, w.heap.size ≤ (W1.alloc o).heap.size) := fun o => by
          show _ ≤ _
          have h1 := hb.out.size
          have h2 := hb1.size
          simp
          omega
        have Hb1 := Lib.hid hb1
        clear hV hN1 hlo hb1
        go_wp2_with (at_builtin; refine app_f rfl (.tmp 23) (.tmp 25) rfl w.heap.size _ acc rfl (hown.out _) g a1 c1 1 (W1.heap.size + 1) (by simp) rfl (Hd.out _) (by omega) (hbs.out _) ?_)
        intro v2 W2 hg2
        have Hg3 := Lib.hid (hg.out.trans ((GoneF.of_below hg.out.own (Hb1.out.alloc (by have := Hb1.out.size; omega) _)).trans hg2))
        clear hg2 hown Hd hg
        go_wp2
        go_roundw
        case rel => exact ⟨y, f, acc ++ [g], rfl, hyL, by simp; omega, HE, HF, Hg3⟩
        case measure => simp [intOf]; omega
      · have hE : ([], z) = (X, E) := (H1.out hz).symm.trans hu.out
        have HE := Lib.hid hE
        have hz0 : ((z : Int) != 0) = true := by simp; omega
        clear hE hu H1 H3 H4 hz
        go_wp2_with fail
        refine hV.out.mono ?_
        rintro e W1 ⟨a1, c1, rfl, hN1, hlo, hb1⟩
        have Hb1 : Hid (Below w.heap.size w W1) := hb.out.trans (hb1.mono hb.out.size)
        clear hV hN1 hlo hb1
        go_wp2_with fail
        go_ret2
        have h := HE.out
        injection h with h1 h2
        subst h1 h2
        exact ⟨_, rfl, OwnF.nil_ _ _, Hb1.out.alloc Hb1.out.size _⟩
    · obtain rfl : p = L := by omega
      have hE := (Hen.out f acc).symm.trans hu.out
      have HE := Lib.hid hE
      clear hE hu
      go_wp2_with fail
      go_ret2
      have h := HE.out
      injection h with h1 h2
      subst h1 h2
      exact ⟨_, rfl, hg.out.own, hb.out⟩
end Go.Proofs.YtdifojeghplpeaaDoor
