/- Walks over layer 7: the reference's Get. -/
import Derived.Test.YtdifojeghplpeaaDoorGet
import Derived.Test.YtdifojeghplpeaaDoorFldCases
namespace Go.Proofs.YtdifojeghplpeaaDoor
open Go.RowKit Var
set_option linter.unusedVariables false
set_option maxRecDepth 100000

theorem eight (X : Nat) : X % 8 = 0 ∨ X % 8 = 1 ∨ X % 8 = 2 ∨ X % 8 = 5 ∨ X % 8 = 3 ∨ X % 8 = 4 ∨ X % 8 = 6 ∨ X % 8 = 7 := by omega

set_option maxHeartbeats 40000000 in
theorem refGet_any (a : Option Addr) (c : Nat) (l : List Nat) (w : World) (h : Nums .u8 w w.heap.size a l) (hd : ∀ x ∈ l, x < 256) (hlc : l.length ≤ c) (hl : l.length ≤ 100000) (f0 : Nat) (XX : List F) (EE : Nat) (hf0 : l.length < f0) (hX : gets l f0 0 [] = (XX, EE)) :
    Calls Tryd.prog 31 #[.slice a l.length c] w (GetPost w XX EE) := by
  have H8 : Hid (∀ W, Below w.heap.size w W → ∀ p, p ≤ l.length → Calls Tryd.prog 45 #[.slice a l.length c, .int .i64 (p : Int)] W (Three (vat l p).1 (vat l p).2.1 (vat l p).2.2 W)) := fun W hb p hp =>
    refVarint_vat a l c p W (cells8 ((h.below hb).more hb.size) hd) (by omega) hp
  have HNb : Hid (∀ W b off, a = some ⟨b, off, none⟩ → b < w.heap.size → Below w.heap.size w W → ∀ q n, q + n ≤ l.length → n ≤ 8 → Calls Tryd.prog 46 #[.slice (some ⟨b, off + q, none⟩) n (c - q)] W fun e w' => e = .returned (.int .u64 ((le (cut l q n) : Nat) : Int)) ∧ W = w') := fun W b off e hbl hb q n hq hn => by
    subst e
    have hcl := cut_length hq
    have hN : Nums .u8 W W.heap.size (some ⟨b, off + q, none⟩) (cut l q n) := by
      refine nums_cut (fun i hi => ?_) (Nat.lt_of_lt_of_le hbl hb.size) hq
      obtain ⟨b', off', e', _, hc'⟩ := h (by omega)
      injection e' with e'
      injection e' with e1 e2
      subst e1 e2
      exact (hb.cell (p := ⟨b, off + i, none⟩) hbl).trans (hc' i hi)
    have := number_any (some ⟨b, off + q, none⟩) (cut l q n) (c - q) W (cells8 hN (cut_lt q n hd)) (cut_lt q n hd) (by omega)
    rwa [hcl] at this
  have HDa : Hid (∀ W own b off q n, a = some ⟨b, off, none⟩ → b < w.heap.size → Below w.heap.size w W → (∀ k, own = some k → w.heap.size ≤ k) → q + n ≤ l.length → DataAt W own (some ⟨b, off + q, none⟩) (cut l q n)) := fun W own b off q n e hbl hb ho hq => by
    subst e
    refine DataAt.of_nums (B := w.heap.size) (nums_cut (fun i hi => ?_) hbl hq) hb.size (fun x hx hxb e => by have := ho _ e; omega)
    obtain ⟨b', off', e', _, hc'⟩ := h (by omega)
    injection e' with e'
    injection e' with e1 e2
    subst e1 e2
    exact (hb.cell (p := ⟨b, off + i, none⟩) hbl).trans (hc' i hi)
  have Hcl : Hid (∀ q n, q + n ≤ l.length → (cut l q n).length = n) := fun q n hq => cut_length hq
  have Hab : Hid (0 < l.length → ∃ b off, a = some ⟨b, off, none⟩ ∧ b < w.heap.size) := fun h0 => by
    obtain ⟨b, off, e, hb, _⟩ := h h0
    exact ⟨b, off, e, hb⟩
  obtain ⟨L, hL⟩ : ∃ L, L = l.length := ⟨_, rfl⟩
  have HL : Hid (L = l.length) := hL
  have Hf0 : Hid (L < f0) := by rw [hL]; exact hf0
  have HX := Lib.hid hX
  have Hen : Hid (∀ f acc, gets l (f + 1) L acc = (acc, 0)) := fun f acc => gets_end (by omega)
  have Her : Hid (∀ f p acc, p < L → ∀ zz g yy, fld l p = (zz, g, yy) → zz ≠ 0 → gets l (f + 1) p acc = ([], zz)) := fun f p acc hp zz g yy hg hz => by
    have := gets_err (l := l) (f := f) (p := p) (acc := acc) (by omega) (by rw [hg]; exact hz)
    rwa [hg] at this
  have Hmo : Hid (∀ f p acc, p < L → ∀ g yy, fld l p = (0, g, yy) → gets l (f + 1) p acc = gets l f yy (acc ++ [g])) := fun f p acc hp g yy hg => by
    have := gets_more (l := l) (f := f) (p := p) (acc := acc) (by omega) (by rw [hg])
    rwa [hg] at this
  have Hvs : Hid (∀ p X y, p ≤ L → vat l p = (X, y, 0) → p < y ∧ y ≤ L) := fun p X y hp e => by
    have := vat_step (l := l) (p := p) (by omega) (by rw [e])
    rw [e] at this
    rw [hL]; exact this
  have Hvb : Hid (∀ p X y z, vat l p = (X, y, z) → X < 18446744073709551616) := fun p X y z e => by have := vat_bound l p; rw [e] at this; exact this
  rw [← hL] at hl H8 HNb HDa Hcl Hab hlc ⊢
  clear hL h hd hf0 hX
  go_enter Tryd.func31, Tryd.ntmps31
  go_wp2_with fail
  go_loopw [4, 5] (fun u t W => ∃ (p f : Nat) (acc : List F), t = .int .i64 (p : Int) ∧ p ≤ L ∧ acc.length ≤ p ∧ Hid (gets l f p acc = (XX, EE)) ∧ Hid (L - p < f) ∧ Hid (GoneF w w.heap.size (.slice none 0 0) acc u W)) (fun _ t _ => L - (intOf t).toNat)
  case atStart => exact ⟨0, f0, [], rfl, Nat.zero_le _, by simp, HX, by have := Hf0.out; show L - 0 < f0; omega, GoneF.refl (OwnF.nil_ _ _)⟩
  case round =>
    obtain ⟨p, f, acc, rfl, hp, hal, hu, hf, hg⟩ := hrel
    obtain ⟨f, rfl⟩ : ∃ g, f = g + 1 := ⟨f - 1, by have := hf.out; omega⟩
    have hb : Hid (Below w.heap.size w wr) := hg.out.below (OwnF.nil_ w _) (Nat.le_refl _)
    by_cases hlt : p < L
    · have HER : Hid (∀ zz g yy, fld l p = (zz, g, yy) → zz ≠ 0 → (([] : List F), zz) = (XX, EE)) := fun zz g yy h1 h2 => (Her.out f p acc hlt zz g yy h1 h2).symm.trans hu.out
      have HMO : Hid (∀ g yy, fld l p = (0, g, yy) → gets l f yy (acc ++ [g]) = (XX, EE)) := fun g yy h1 => (Hmo.out f p acc hlt g yy h1).symm.trans hu.out
      have Hown : Hid (∀ W, Below wr.heap.size wr W → OwnF W w.heap.size u4 acc) := fun W h => hg.out.own.below h
      have Hsz : Hid (∀ W, Below wr.heap.size wr W → w.heap.size ≤ W.heap.size) := fun W h => Nat.le_trans hb.out.size h.size
      have HG : Hid (∀ W W2 v2 l2, Below wr.heap.size wr W → GoneF W w.heap.size u4 l2 v2 W2 → GoneF w w.heap.size (.slice none 0 0) l2 v2 W2) := fun W W2 v2 l2 h1 h2 => hg.out.trans ((GoneF.of_below hg.out.own h1).trans h2)
      have Hlo : Hid (∀ k, u4.ownBlock = some k → w.heap.size ≤ k) := fun k e => (hg.out.own.lt k e).1
      have HbW : Hid (∀ W, Below wr.heap.size wr W → Below w.heap.size w W) := fun W h => hb.out.trans (h.mono hb.out.size)
      obtain ⟨b, off, rfl, hbl⟩ := Hab.out (by omega)
      obtain ⟨⟨X, y, z⟩, hvp⟩ : ∃ r, vat l p = r := ⟨_, rfl⟩
      have HVp : Hid (∀ W, Below wr.heap.size wr W → Calls Tryd.prog 45 #[.slice (some ⟨b, off, none⟩) L c, .int .i64 (p : Int)] W (Three X y z W)) := fun W h => by
        have := H8.out W (HbW.out W h) p hp
        rwa [hvp] at this
      have hXb := Hvb.out p X y z hvp
      have Hvp := Lib.hid hvp
      have HF : ∀ yy, p < yy → Hid (L - yy < f) := fun yy hy => by have := hf.out; show L - yy < f; omega
      have HF' := Lib.hid HF
      have Hbl := Lib.hid hbl
      clear hvp hu hg hf HF hbl
      by_cases hz : z = 0
      · subst hz
        obtain ⟨hpy, hyL⟩ := Hvs.out p X y hp Hvp.out
        have hz : ((0 : Int) != 0) = false := by decide
        obtain ⟨⟨v, q, E⟩, hvy⟩ : ∃ r, vat l y = r := ⟨_, rfl⟩
        have HVy : Hid (∀ W, Below wr.heap.size wr W → Calls Tryd.prog 45 #[.slice (some ⟨b, off, none⟩) L c, .int .i64 (y : Int)] W (Three v q E W)) := fun W h => by
          have := H8.out W (HbW.out W h) y hyL
          rwa [hvy] at this
        have hvb := Hvb.out y v q E hvy
        have Hvy := Lib.hid hvy
        clear hvy
        rcases (show X / 8 < 1 ∨ (¬ X / 8 < 1 ∧ 536870911 < X / 8) ∨ (¬ X / 8 < 1 ∧ ¬ 536870911 < X / 8) by omega) with hn | ⟨hn, hn2⟩ | ⟨hn, hn2⟩
        · have g1 : decide ((X : Int) / 8 < 1) = true := decide_eq_true (by omega)
          have HE := Lib.hid (HER.out _ _ _ (fld_cform Hvp.out (.inl hn)) (by omega))
          clear hn
          go_wp2_with fail
          refine (HVp.out _ (Below.refl _ _)).mono ?_
          rintro e W ⟨rfl, rfl⟩
          go_wp2_with fail
          go_ret2
          have h := HE.out
          injection h with h1 h2
          subst h1 h2
          exact ⟨_, rfl, OwnF.nil_ _ _, HbW.out _ (by go_grown)⟩
        · have g1 : decide ((X : Int) / 8 < 1) = false := decide_eq_false (by omega)
          have g2 : decide ((536870911 : Int) < (X : Int) / 8) = true := decide_eq_true (by omega)
          have HE := Lib.hid (HER.out _ _ _ (fld_cform Hvp.out (.inr hn2)) (by omega))
          clear hn hn2
          go_wp2_with fail
          refine (HVp.out _ (Below.refl _ _)).mono ?_
          rintro e W ⟨rfl, rfl⟩
          go_wp2_with fail
          go_ret2
          have h := HE.out
          injection h with h1 h2
          subst h1 h2
          exact ⟨_, rfl, OwnF.nil_ _ _, HbW.out _ (by go_grown)⟩
        · have hnn : ¬ (X / 8 < 1 ∨ 536870911 < X / 8) := by omega
          have Hnn := Lib.hid hnn
          have g1 : decide ((X : Int) / 8 < 1) = false := decide_eq_false (by omega)
          have g2 : decide ((536870911 : Int) < (X : Int) / 8) = false := decide_eq_false (by omega)
          have hdiv : (X : Int) / 8 = ((X / 8 : Nat) : Int) := by omega
          obtain ⟨D, hD⟩ : ∃ D, D = X / 8 := ⟨_, rfl⟩
          have hDn : (1 : Int) ≤ (D : Int) ∧ (D : Int) ≤ 536870911 := by omega
          rw [← hD] at hdiv
          have HD := Lib.hid hD
          have hD1 := hDn.1
          have hD2 := hDn.2
          clear hn hn2 hnn hD hDn
          rcases eight X with hk | hk | hk | hk | hk | hk | hk | hk
          · have hmod : (X : Int) % 8 = 0 := by omega
            by_cases hE : E = 0
            · subst hE
              obtain ⟨hyq, hqL⟩ := Hvs.out y v q hyL Hvy.out
              have HE : Hid (gets l f q (acc ++ [⟨D, 0, v, []⟩]) = (XX, EE)) := by rw [HD.out]; exact HMO.out _ _ (fld_cv Hvp.out Hnn.out hk Hvy.out)
              clear hk
              go_wp2_with fail
              refine (HVp.out _ (Below.refl _ _)).mono ?_
              rintro e W ⟨rfl, rfl⟩
              go_wp2_with fail
              refine (HVy.out _ (by go_grown)).mono ?_
              rintro e W ⟨rfl, rfl⟩
              go_wp2_with (at_builtin; refine app_f rfl (.tmp 111) (.tmp 113) rfl w.heap.size _ acc rfl (Hown.out _ (by go_grown)) ⟨D, 0, v, []⟩ none 0 1 (wr.heap.size + 1) (by simp) rfl (.inl rfl) (by omega) (Hsz.out _ (by go_grown)) ?_)
              intro v2 W2 hg2
              have Hg3 := Lib.hid (HG.out _ _ _ _ (by go_grown) hg2)
              clear hg2
              go_wp2
              go_roundw
              case rel => exact ⟨q, f, acc ++ [⟨D, 0, v, []⟩], by go_num, by omega, by simp; omega, HE, HF'.out _ (by omega), Hg3⟩
              case measure => simp [intOf]; omega
            · have HE := Lib.hid (HER.out _ _ _ (fld_cve Hvp.out Hnn.out (.inl hk) Hvy.out hE) hE)
              have hE0 : ((E : Int) != 0) = true := by simp; omega
              clear hk hE
              go_wp2_with fail
              refine (HVp.out _ (Below.refl _ _)).mono ?_
              rintro e W ⟨rfl, rfl⟩
              go_wp2_with fail
              refine (HVy.out _ (by go_grown)).mono ?_
              rintro e W ⟨rfl, rfl⟩
              go_wp2_with fail
              go_ret2
              have h := HE.out
              injection h with h1 h2
              subst h1 h2
              exact ⟨_, rfl, OwnF.nil_ _ _, HbW.out _ (by go_grown)⟩
          · have hmod : (X : Int) % 8 = 1 := by omega
            by_cases hs : L - y < 8
            · have HE := Lib.hid (HER.out _ _ _ (fld_c8s Hvp.out Hnn.out hk (by have := HL.out; omega)) (by omega))
              have hs1 : decide ((L : Int) - (y : Int) < 8) = true := decide_eq_true (by omega)
              clear hk hs
              go_wp2_with fail
              refine (HVp.out _ (Below.refl _ _)).mono ?_
              rintro e W ⟨rfl, rfl⟩
              go_wp2_with fail
              go_ret2
              have h := HE.out
              injection h with h1 h2
              subst h1 h2
              exact ⟨_, rfl, OwnF.nil_ _ _, HbW.out _ (by go_grown)⟩
            · have HE : Hid (gets l f (y + 8) (acc ++ [⟨D, 1, le (cut l y 8), []⟩]) = (XX, EE)) := by rw [HD.out]; exact HMO.out _ _ (fld_c8 Hvp.out Hnn.out hk (by have := HL.out; omega))
              have hs1 : decide ((L : Int) - (y : Int) < 8) = false := decide_eq_false (by omega)
              have hys : y + 8 ≤ L := by omega
              have hyc : ¬ y = c := by omega
              have hyc2 : y + 8 ≤ c := by omega
              have Hnum : Hid (∀ W, Below wr.heap.size wr W → Calls Tryd.prog 46 #[.slice (some ⟨b, off + y, none⟩) 8 (c - y)] W fun e w' => e = .returned (.int .u64 ((le (cut l y 8) : Nat) : Int)) ∧ W = w') := fun W h => HNb.out W b off rfl Hbl.out (HbW.out W h) y 8 hys (by omega)
              generalize le (cut l y 8) = N at *
              clear hk hs
              go_wp2_with fail
              refine (HVp.out _ (Below.refl _ _)).mono ?_
              rintro e W ⟨rfl, rfl⟩
              go_wp2_with fail
              refine (Hnum.out _ (by go_grown)).mono ?_
              rintro e W ⟨rfl, rfl⟩
              go_wp2_with (at_builtin; refine app_f rfl (.tmp 111) (.tmp 113) rfl w.heap.size _ acc rfl (Hown.out _ (by go_grown)) ⟨D, 1, N, []⟩ none 0 1 (wr.heap.size + 1) (by simp) rfl (.inl rfl) (by omega) (Hsz.out _ (by go_grown)) ?_)
              intro v2 W2 hg2
              have Hg3 := Lib.hid (HG.out _ _ _ _ (by go_grown) hg2)
              clear hg2
              go_wp2
              go_roundw
              case rel => exact ⟨y + 8, f, acc ++ [⟨D, 1, N, []⟩], by go_num, by omega, by simp; omega, HE, HF'.out _ (by omega), Hg3⟩
              case measure => simp [intOf]; omega
          · have hmod : (X : Int) % 8 = 2 := by omega
            by_cases hE : E = 0
            · subst hE
              obtain ⟨hyq, hqL⟩ := Hvs.out y v q hyL Hvy.out
              by_cases hs : L - q < v
              · have HE := Lib.hid (HER.out _ _ _ (fld_cbs Hvp.out Hnn.out hk Hvy.out (by have := HL.out; omega)) (by omega))
                have hs1 : decide ((L : Int) - (q : Int) < (v : Int)) = true := decide_eq_true (by omega)
                clear hk hs
                go_wp2_with fail
                refine (HVp.out _ (Below.refl _ _)).mono ?_
                rintro e W ⟨rfl, rfl⟩
                go_wp2_with fail
                refine (HVy.out _ (by go_grown)).mono ?_
                rintro e W ⟨rfl, rfl⟩
                go_wp2_with fail
                go_ret2
                have h := HE.out
                injection h with h1 h2
                subst h1 h2
                exact ⟨_, rfl, OwnF.nil_ _ _, HbW.out _ (by go_grown)⟩
              · have HE : Hid (gets l f (q + v) (acc ++ [⟨D, 2, 0, cut l q v⟩]) = (XX, EE)) := by rw [HD.out]; exact HMO.out _ _ (fld_cb Hvp.out Hnn.out hk Hvy.out (by have := HL.out; omega))
                have hs1 : decide ((L : Int) - (q : Int) < (v : Int)) = false := decide_eq_false (by omega)
                have hqv : q + v ≤ L := by omega
                have hlen := Hcl.out q v hqv
                by_cases hqc : q = c
                · subst hqc
                  obtain rfl : v = 0 := by omega
                  have hce : cut l q 0 = [] := cut_nought l q
                  rw [hce] at HE
                  clear hk hs
                  go_wp2_with fail
                  refine (HVp.out _ (Below.refl _ _)).mono ?_
                  rintro e W ⟨rfl, rfl⟩
                  go_wp2_with fail
                  refine (HVy.out _ (by go_grown)).mono ?_
                  rintro e W ⟨rfl, rfl⟩
                  go_wp2_with (at_builtin; refine app_f rfl (.tmp 111) (.tmp 113) rfl w.heap.size _ acc rfl (Hown.out _ (by go_grown)) ⟨D, 2, 0, []⟩ (some ⟨b, off, none⟩) 0 1 (wr.heap.size + 1) (by simp) rfl (.inl rfl) (by omega) (Hsz.out _ (by go_grown)) ?_)
                  intro v2 W2 hg2
                  have Hg3 := Lib.hid (HG.out _ _ _ _ (by go_grown) hg2)
                  clear hg2
                  go_wp2
                  go_roundw
                  case rel => exact ⟨q, f, acc ++ [⟨D, 2, 0, []⟩], by go_num, by omega, by simp; omega, HE, HF'.out _ (by omega), Hg3⟩
                  case measure => simp [intOf]; omega
                · have Hda : Hid (∀ W, Below wr.heap.size wr W → DataAt W u4.ownBlock (some ⟨b, off + q, none⟩) (cut l q v)) := fun W h => HDa.out W _ b off q v rfl Hbl.out (HbW.out W h) Hlo.out hqv
                  have hqc2 : q + v ≤ c := by omega
                  clear hk hs
                  go_wp2_with fail
                  refine (HVp.out _ (Below.refl _ _)).mono ?_
                  rintro e W ⟨rfl, rfl⟩
                  go_wp2_with fail
                  refine (HVy.out _ (by go_grown)).mono ?_
                  rintro e W ⟨rfl, rfl⟩
                  generalize hcut : cut l q v = dd at *
                  subst hlen
                  go_wp2_with (at_builtin; refine app_f rfl (.tmp 111) (.tmp 113) rfl w.heap.size _ acc rfl (Hown.out _ (by go_grown)) ⟨D, 2, 0, dd⟩ (some ⟨b, off + q, none⟩) (c - q) 1 (wr.heap.size + 1) (by simp) rfl (Hda.out _ (by go_grown)) (by omega) (Hsz.out _ (by go_grown)) ?_)
                  intro v2 W2 hg2
                  have Hg3 := Lib.hid (HG.out _ _ _ _ (by go_grown) hg2)
                  clear hg2
                  go_wp2
                  go_roundw
                  case rel => exact ⟨q + dd.length, f, acc ++ [⟨D, 2, 0, dd⟩], by go_num, by omega, by simp; omega, HE, HF'.out _ (by omega), Hg3⟩
                  case measure => simp [intOf]; omega
            · have HE := Lib.hid (HER.out _ _ _ (fld_cve Hvp.out Hnn.out (.inr hk) Hvy.out hE) hE)
              have hE0 : ((E : Int) != 0) = true := by simp; omega
              clear hk hE
              go_wp2_with fail
              refine (HVp.out _ (Below.refl _ _)).mono ?_
              rintro e W ⟨rfl, rfl⟩
              go_wp2_with fail
              refine (HVy.out _ (by go_grown)).mono ?_
              rintro e W ⟨rfl, rfl⟩
              go_wp2_with fail
              go_ret2
              have h := HE.out
              injection h with h1 h2
              subst h1 h2
              exact ⟨_, rfl, OwnF.nil_ _ _, HbW.out _ (by go_grown)⟩
          · have hmod : (X : Int) % 8 = 5 := by omega
            by_cases hs : L - y < 4
            · have HE := Lib.hid (HER.out _ _ _ (fld_c4s Hvp.out Hnn.out hk (by have := HL.out; omega)) (by omega))
              have hs1 : decide ((L : Int) - (y : Int) < 4) = true := decide_eq_true (by omega)
              clear hk hs
              go_wp2_with fail
              refine (HVp.out _ (Below.refl _ _)).mono ?_
              rintro e W ⟨rfl, rfl⟩
              go_wp2_with fail
              go_ret2
              have h := HE.out
              injection h with h1 h2
              subst h1 h2
              exact ⟨_, rfl, OwnF.nil_ _ _, HbW.out _ (by go_grown)⟩
            · have HE : Hid (gets l f (y + 4) (acc ++ [⟨D, 5, le (cut l y 4), []⟩]) = (XX, EE)) := by rw [HD.out]; exact HMO.out _ _ (fld_c4 Hvp.out Hnn.out hk (by have := HL.out; omega))
              have hs1 : decide ((L : Int) - (y : Int) < 4) = false := decide_eq_false (by omega)
              have hys : y + 4 ≤ L := by omega
              have hyc : ¬ y = c := by omega
              have hyc2 : y + 4 ≤ c := by omega
              have Hnum : Hid (∀ W, Below wr.heap.size wr W → Calls Tryd.prog 46 #[.slice (some ⟨b, off + y, none⟩) 4 (c - y)] W fun e w' => e = .returned (.int .u64 ((le (cut l y 4) : Nat) : Int)) ∧ W = w') := fun W h => HNb.out W b off rfl Hbl.out (HbW.out W h) y 4 hys (by omega)
              generalize le (cut l y 4) = N at *
              clear hk hs
              go_wp2_with fail
              refine (HVp.out _ (Below.refl _ _)).mono ?_
              rintro e W ⟨rfl, rfl⟩
              go_wp2_with fail
              refine (Hnum.out _ (by go_grown)).mono ?_
              rintro e W ⟨rfl, rfl⟩
              go_wp2_with (at_builtin; refine app_f rfl (.tmp 111) (.tmp 113) rfl w.heap.size _ acc rfl (Hown.out _ (by go_grown)) ⟨D, 5, N, []⟩ none 0 1 (wr.heap.size + 1) (by simp) rfl (.inl rfl) (by omega) (Hsz.out _ (by go_grown)) ?_)
              intro v2 W2 hg2
              have Hg3 := Lib.hid (HG.out _ _ _ _ (by go_grown) hg2)
              clear hg2
              go_wp2
              go_roundw
              case rel => exact ⟨y + 4, f, acc ++ [⟨D, 5, N, []⟩], by go_num, by omega, by simp; omega, HE, HF'.out _ (by omega), Hg3⟩
              case measure => simp [intOf]; omega
          · have hmod : (X : Int) % 8 = 3 := by omega
            have HE := Lib.hid (HER.out _ _ _ (fld_cother Hvp.out (by omega)) (by omega))
            clear hk
            go_wp2_with fail
            refine (HVp.out _ (Below.refl _ _)).mono ?_
            rintro e W ⟨rfl, rfl⟩
            go_wp2_with fail
            go_ret2
            have h := HE.out
            injection h with h1 h2
            subst h1 h2
            exact ⟨_, rfl, OwnF.nil_ _ _, HbW.out _ (by go_grown)⟩
          · have hmod : (X : Int) % 8 = 4 := by omega
            have HE := Lib.hid (HER.out _ _ _ (fld_cother Hvp.out (by omega)) (by omega))
            clear hk
            go_wp2_with fail
            refine (HVp.out _ (Below.refl _ _)).mono ?_
            rintro e W ⟨rfl, rfl⟩
            go_wp2_with fail
            go_ret2
            have h := HE.out
            injection h with h1 h2
            subst h1 h2
            exact ⟨_, rfl, OwnF.nil_ _ _, HbW.out _ (by go_grown)⟩
          · have hmod : (X : Int) % 8 = 6 := by omega
            have HE := Lib.hid (HER.out _ _ _ (fld_cother Hvp.out (by omega)) (by omega))
            clear hk
            go_wp2_with fail
            refine (HVp.out _ (Below.refl _ _)).mono ?_
            rintro e W ⟨rfl, rfl⟩
            go_wp2_with fail
            go_ret2
            have h := HE.out
            injection h with h1 h2
            subst h1 h2
            exact ⟨_, rfl, OwnF.nil_ _ _, HbW.out _ (by go_grown)⟩
          · have hmod : (X : Int) % 8 = 7 := by omega
            have HE := Lib.hid (HER.out _ _ _ (fld_cother Hvp.out (by omega)) (by omega))
            clear hk
            go_wp2_with fail
            refine (HVp.out _ (Below.refl _ _)).mono ?_
            rintro e W ⟨rfl, rfl⟩
            go_wp2_with fail
            go_ret2
            have h := HE.out
            injection h with h1 h2
            subst h1 h2
            exact ⟨_, rfl, OwnF.nil_ _ _, HbW.out _ (by go_grown)⟩
      · have HE := Lib.hid (HER.out _ _ _ (fld_c0 Hvp.out hz) hz)
        have hz0 : ((z : Int) != 0) = true := by simp; omega
        clear hz
        go_wp2_with fail
        refine (HVp.out _ (Below.refl _ _)).mono ?_
        rintro e W ⟨rfl, rfl⟩
        go_wp2_with fail
        go_ret2
        have h := HE.out
        injection h with h1 h2
        subst h1 h2
        exact ⟨_, rfl, OwnF.nil_ _ _, HbW.out _ (by go_grown)⟩
    · obtain rfl : p = L := by omega
      have hE := (Hen.out f acc).symm.trans hu.out
      have HE := Lib.hid hE
      clear hE hu
      go_wp2_with fail
      go_ret2
      have h := HE.out
      injection h with h1 h2
      subst h1 h2
      exact ⟨_, rfl, hg.out.own, hb.out⟩
end Go.Proofs.YtdifojeghplpeaaDoor
