/- Layer 9: the reader's methods: add, points. -/
import Derived.Test.YtohgdlhijgjdkaaPathRd1
namespace Go.Proofs.Ytohgdlhijgjdkaa
open Go.RowKit
set_option linter.unusedVariables false
set_option maxRecDepth 100000

theorem crd_cons {x y : Int} {l r : List Nat} (h : crd x l = .ok (y, r)) : ∃ a, l = a :: r := by
  cases l with
  | nil => simp [crd] at h
  | cons a l =>
    simp only [crd] at h
    split at h
    · injection h with h; injection h with h1 h2; exact ⟨a, by rw [h2]⟩
    · cases h
theorem RS.set1 {w : World} {base g : Nat} {l : List Nat} {p : P2} (h : RS w base g l p) (hg : base ≤ g) (x : Int) : RS (w.setCell ⟨g, 1, none⟩ (.int .i64 x)) base g l (x, p.2) ∧ Only (fun b => b = g) w (w.setCell ⟨g, 1, none⟩ (.int .i64 x)) := by
  obtain ⟨a, c, h1, h2, h3, h4⟩ := h
  exact ⟨⟨a, c, by simpa using h1.set 1 (.int .i64 x), h2.below ((Below.refl base w).setCell (p := ⟨g, 1, none⟩) hg _), h3, h4⟩, Only.setCell (S := fun b => b = g) (Only.refl _ _) (p := ⟨g, 1, none⟩) (fun _ => rfl) _⟩
theorem RS.set2 {w : World} {base g : Nat} {l : List Nat} {p : P2} (h : RS w base g l p) (hg : base ≤ g) (y : Int) : RS (w.setCell ⟨g, 2, none⟩ (.int .i64 y)) base g l (p.1, y) ∧ Only (fun b => b = g) w (w.setCell ⟨g, 2, none⟩ (.int .i64 y)) := by
  obtain ⟨a, c, h1, h2, h3, h4⟩ := h
  exact ⟨⟨a, c, by simpa using h1.set 2 (.int .i64 y), h2.below ((Below.refl base w).setCell (p := ⟨g, 2, none⟩) hg _), h3, h4⟩, Only.setCell (S := fun b => b = g) (Only.refl _ _) (p := ⟨g, 2, none⟩) (fun _ => rfl) _⟩
theorem RS.cells {w : World} {base g : Nat} {l : List Nat} {p : P2} (h : RS w base g l p) : w.cell? ⟨g, 1, none⟩ = some (.int .i64 p.1) ∧ w.cell? ⟨g, 2, none⟩ = some (.int .i64 p.2) ∧ w.frozen? ⟨g, 1, none⟩ = false ∧ w.frozen? ⟨g, 2, none⟩ = false := by
  obtain ⟨a, c, h1, _⟩ := h
  exact ⟨h1.cell 1, h1.cell 2, h1.frozen 1, h1.frozen 2⟩
def AddOk (base g : Nat) (v : Value) (w : World) (a : List P2 × List Nat × P2) (e : Ending) (w' : World) : Prop :=
  ∃ v', e = .returned v' ∧ OwnP w' base v' a.1 ∧ RS w' base g a.2.1 a.2.2 ∧ Only (fun b => b = g ∨ v.ownBlock = some b) w w' ∧ (v'.ownBlock = v.ownBlock ∨ ∃ k, v'.ownBlock = some k ∧ w.heap.size ≤ k) ∧ v'.ownBlock ≠ some g
set_option maxHeartbeats 16000000 in
theorem add_any (base g : Nat) (v : Value) (acc : List P2) (n : Nat) (l : List Nat) (p : P2) (w : World) (hR : RS w base g l p) (hO : OwnP w base v acc) (hvg : v.ownBlock ≠ some g) (hg : base ≤ g) (hB : base ≤ w.heap.size)
    (hp : inP p) (hn : n ≤ 536870912) (hlen : acc.length + l.length ≤ 1000000) (hl : ∀ x ∈ l, x < 4294967296) :
    Calls Try.prog 30 #[.pointer (some ⟨g, 0, none⟩), v, .int .i64 (n : Int)] w (MPost base w (ptsM n l p acc) (AddOk base g v w)) := by
  obtain ⟨i0, hi0, hz0, hz1, hz2⟩ := info_parts ptinfo
  obtain ⟨R, hRe⟩ : ∃ R, ptsM n l p acc = R := ⟨_, rfl⟩
  rw [hRe]
  have HRe := Lib.hid hRe
  have HR0 := Lib.hid hR
  have HO0 := Lib.hid hO
  have HV0 := Lib.hid hvg
  have Hp := Lib.hid hp
  have HL0 := Lib.hid hlen
  have Hl0 := Lib.hid hl
  have hltg := hR.lt
  have hbelow : ∀ W, Only (fun b => b = g ∨ v.ownBlock = some b) w W → Below base w W := fun W h => h.below (fun b hlt hS => by
    rcases hS with hS | hS
    · omega
    · have := (hO.lt b hS).1; omega) hB
  have HBW := Lib.hid fun W (h : Only (fun b => b = g ∨ v.ownBlock = some b) w W) => hbelow W h
  clear hRe hR hO hp hlen hl hbelow
  go_enter Try.func30, Try.ntmps30
  go_wp2_with fail
  go_loopw [1, 8] (fun v' c W => ∃ (k : Nat) (lk : List Nat) (pk : P2) (m : List P2) (v1 : Value), k ≤ n ∧ c = .int .i64 (k : Int) ∧ v1 = v' ∧ Hid (OwnP W base v1 m) ∧ Hid (RS W base g lk pk) ∧ Hid (Only (fun b => b = g ∨ v.ownBlock = some b) w W) ∧ Hid (v1.ownBlock = v.ownBlock ∨ ∃ j, v1.ownBlock = some j ∧ w.heap.size ≤ j) ∧ Hid (v1.ownBlock ≠ some g) ∧ Hid (ptsM (n - k) lk pk m = R) ∧ Hid (inP pk) ∧ Hid (m.length + lk.length ≤ 1000000) ∧ Hid (∀ x ∈ lk, x < 4294967296)) (fun _ c _ => n - (intOf c).toNat)
  case atStart => exact ⟨0, l, p, acc, v, Nat.zero_le _, rfl, rfl, HO0, HR0, Only.refl _ _, .inl rfl, HV0, HRe, Hp, HL0, Hl0⟩
  case round =>
    obtain ⟨k, lk, pk, m, v1, hk, rfl, rfl, HO, HR, HOn, HAt, HVg, HPt, Hpk, HLn, Hl⟩ := hrel
    clear HR0 HO0 HV0 HRe Hp HL0 Hl0
    by_cases hlt : k < n
    · obtain ⟨j, hj⟩ : ∃ j, n - k = j + 1 := ⟨n - k - 1, by omega⟩
      have hpt := HPt.out
      rw [hj] at hpt
      obtain ⟨c1, c2, f1, f2⟩ := HR.out.cells
      have hBw : base ≤ wr.heap.size := Nat.le_trans hB HOn.out.size
      have HC := Lib.hid (coordinate_any base g pk.1 lk pk wr HR.out hg hBw Hpk.out.1 Hl.out)
      cases h1 : crd pk.1 lk with
      | error e1 =>
        rw [ptsM_err _ _ _ _ h1] at hpt
        subst hpt
        rw [h1] at HC
        have HBf := Lib.hid (HBW.out _ HOn.out)
        clear h1 HO HR HOn HAt HVg HPt Hpk HLn Hl
        go_wp2_with fail
        refine HC.out.mono ?_
        rintro e W ⟨rfl, hb⟩
        exact ⟨rfl, rfl, HBf.out.trans hb⟩
      | ok q1 =>
        obtain ⟨x, r1⟩ := q1
        rw [h1] at HC
        have hin1 := crd_in h1
        obtain ⟨a1, ha1⟩ := crd_cons h1
        go_wp2_with fail
        refine HC.out.mono ?_
        rintro e W1 ⟨rfl, hR1, hO1⟩
        obtain ⟨d1, d2, g1, g2⟩ := hR1.cells
        obtain ⟨hR2, hO2⟩ := hR1.set1 hg x
        obtain ⟨k1, k2, k3, k4⟩ := hR2.cells
        have hOa := hO1.trans hO2 (fun _ _ h => h)
        obtain ⟨W2, hW2⟩ : ∃ z, z = W1.setCell ⟨g, 1, none⟩ (.int .i64 x) := ⟨_, rfl⟩
        go_upto_region 4 with (fail)
        rw [← hW2] at hR2 hOa k1 k2 k3 k4 ⊢
        have HR2 := Lib.hid hR2
        have HOa := Lib.hid hOa
        have hBw2 : base ≤ W2.heap.size := Nat.le_trans hBw HOa.out.size
        have HC2 := Lib.hid (coordinate_any base g pk.2 r1 (x, pk.2) W2 hR2 hg hBw2 Hpk.out.2 (fun z hz => Hl.out z (by rw [ha1]; exact List.mem_cons_of_mem _ hz)))
        clear hR1 hO1 d1 d2 g1 g2 hR2 hO2 hOa hW2 c1 c2 f1 f2 HC k1
        cases h2 : crd pk.2 r1 with
        | error e1 =>
          rw [ptsM_err2 _ _ _ _ _ h1 h2] at hpt
          subst hpt
          rw [h2] at HC2
          have HBf := Lib.hid (HBW.out _ (HOn.out.trans HOa.out (fun _ _ h => .inl h)))
          clear h1 h2 HO HR HOn HAt HVg HPt Hpk HLn Hl ha1 hin1
          go_wp2_with fail
          refine HC2.out.mono ?_
          rintro e W ⟨rfl, hb⟩
          exact ⟨rfl, rfl, HBf.out.trans hb⟩
        | ok q2 =>
          obtain ⟨y, r2⟩ := q2
          rw [h2] at HC2
          have hin2 := crd_in h2
          obtain ⟨a2, ha2⟩ := crd_cons h2
          rw [ptsM_ok _ _ _ _ _ _ h1 h2] at hpt
          have HPt2 := Lib.hid hpt
          go_wp2_with fail
          refine HC2.out.mono ?_
          rintro e W3 ⟨rfl, hR1, hO1⟩
          obtain ⟨d1, d2, g1, g2⟩ := hR1.cells
          obtain ⟨hR2, hO2⟩ := hR1.set2 hg y
          obtain ⟨e1, e2, e3, e4⟩ := hR2.cells
          have hOb := HOa.out.trans (hO1.trans hO2 (fun _ _ h => h)) (fun _ _ h => h)
          obtain ⟨X, hX⟩ : ∃ z, z = W3.setCell ⟨g, 2, none⟩ (.int .i64 y) := ⟨_, rfl⟩
          go_upto_region 5 with (fail)
          rw [← hX] at hR2 hOb e1 e2 e3 e4 ⊢
          have HR3 := Lib.hid hR2
          have HOb := Lib.hid hOb
          have hownv : OwnP X base v1 m := HO.out.only hOb (fun b hb e => HVg.out (by rw [hb, e]))
          have HOv := Lib.hid hownv
          have hown : X.ownsRow base 42 2 v1 m.length (pts m) := hownv
          have hBX : base ≤ X.heap.size := Nat.le_trans hBw HOb.out.size
          have hml : m.length ≤ 1000000 := by have := HLn.out; omega
          clear hR1 hO1 d1 d2 g1 g2 hR2 hO2 hOb hX HC2 k2 k3 k4 h1 h2 hpt hownv HOa HR2
          go_wp2_with (at_builtin; refine app_rec rfl (.tmp 32) (.tmp 37) 43 rfl base 42 i0 _ 2 16 Try.underlying43 hi0 hz0 hz1 hz2 rfl (by decide) v1 _ _ rfl hown [.int .i64 x, .int .i64 y] rfl 1 rfl (pts_one [(x, y)]) (by unfold maxLen; omega) (by omega) hBX ?_)
          intro v3 w3 h2 h3 h5
          have hG : GoneP X base v1 (m ++ [(x, y)]) v3 w3 := GoneP.grown h2 (by simp) (by rw [pts_append]; rfl) h3 h5
          have hAt3 : v3.ownBlock = v.ownBlock ∨ ∃ j, v3.ownBlock = some j ∧ w.heap.size ≤ j := by
            have hs1 := HOn.out.size
            have hs2 := HOb.out.size
            rcases hG.at_ with e | ⟨i, e, hi⟩
            · rw [e]; exact HAt.out
            · exact .inr ⟨i, e, by omega⟩
          have hOn3 : Only (fun b => b = g ∨ v.ownBlock = some b) w w3 := by
            refine (HOn.out.trans HOb.out (fun _ _ h => .inl h)).trans hG.only (fun b hb hS => ?_)
            rcases HAt.out with e | ⟨i, e, hi⟩
            · exact .inr (by rw [← e]; exact hS)
            · rw [e] at hS; injection hS with hS; omega
          have hVg3 : v3.ownBlock ≠ some g := fun e => by
            rcases hG.at_ with e1 | ⟨i, e1, hi⟩
            · rw [e1] at e; exact HVg.out e
            · rw [e1] at e; injection e with e
              have := HR3.out.lt; omega
          have hR3 : RS w3 base g r2 (x, y) := HR3.out.only hG.only (fun e => HVg.out e) (fun b hb => (HOv.out.lt b hb).1) hBX
          have hown3 : OwnP w3 base v3 (m ++ [(x, y)]) := hG.own
          have HA := Lib.hid hAt3
          have HB' := Lib.hid hOn3
          have HC' := Lib.hid hVg3
          have HD := Lib.hid hR3
          have HE := Lib.hid hown3
          have hlens : (m ++ [(x, y)]).length + r2.length ≤ 1000000 := by have := HLn.out; rw [ha1, ha2] at this; simp at this ⊢; omega
          have HF := Lib.hid hlens
          have hll : ∀ z ∈ r2, z < 4294967296 := fun z hz => Hl.out z (by rw [ha1, ha2]; exact List.mem_cons_of_mem _ (List.mem_cons_of_mem _ hz))
          have HG' := Lib.hid hll
          have hjj : j = n - (k + 1) := by omega
          clear h2 h3 h5 hG hown hAt3 hOn3 hVg3 hR3 hown3 hlens hll HO HR HOn HAt HVg HPt HLn Hl HR3 HOb HOv ha1 ha2
          go_wp2_with fail
          go_roundw
          case rel => exact ⟨k + 1, r2, (x, y), m ++ [(x, y)], v3, hlt, by go_num, rfl, HE, HD, HB', HA, HC', by rw [← hjj]; exact HPt2, ⟨hin1, hin2⟩, HF, HG'⟩
          case measure => simp [intOf]; omega
    · have hkn : k = n := by omega
      subst hkn
      have hpt := HPt.out
      rw [Nat.sub_self] at hpt
      simp only [ptsM] at hpt
      subst hpt
      go_wp2_with fail
      go_ret
      exact ⟨_, rfl, HO.out, HR.out, HOn.out, HAt.out, HVg.out⟩
end Go.Proofs.Ytohgdlhijgjdkaa
