/- The statement WireJoins: the law's walk. -/
import Derived.Test.YtnlbhlobnafggaaJoinApp
namespace Go.Proofs.Ytnlbhlobnafggaa
open Go.RowKit Var
set_option linter.unusedVariables false
set_option maxRecDepth 100000

theorem wireJoins_big (l : List Nat) (a0 : Option Addr) (c0 : Nat) (m : List Nat) (a1 : Option Addr) (c1 : Nat) (w : World) (hbig : 300 < l.length ∨ 300 < m.length) :
    Calls Try.prog 7 #[.slice a0 l.length c0, .slice a1 m.length c1] w fun e w' => e = .returned (.bool true) ∧ Below w.heap.size w w' := by
  have hcase : 300 < l.length ∨ (¬ 300 < l.length ∧ 300 < m.length) := by omega
  clear hbig
  have Hlive := Lib.hid (live_any w)
  rcases hcase with h1 | ⟨h1, h2⟩
  all_goals
    go_enter Try.func7, Try.ntmps7
    go_wp2_with fail
    refine Hlive.out.mono ?_
    rintro e w1 ⟨rfl, hb⟩
    go_wp2_with fail
    go_ret
    exact ⟨rfl, hb⟩

set_option maxHeartbeats 8000000 in
theorem wireJoins_walk (l : List Nat) (a0 : Option Addr) (c0 : Nat) (m : List Nat) (a1 : Option Addr) (c1 : Nat) (w : World)
    (hld : ∀ x ∈ l, x < 256) (hlc : l.length ≤ c0) (hcm : c0 ≤ maxLen) (hN : Nums .u8 w w.heap.size a0 l)
    (hmd : ∀ x ∈ m, x < 256) (hmc : m.length ≤ c1) (hcm1 : c1 ≤ maxLen) (hM : Nums .u8 w w.heap.size a1 m) :
    Calls Try.prog 7 #[.slice a0 l.length c0, .slice a1 m.length c1] w fun e w' => e = .returned (.bool true) ∧ Below w.heap.size w w' := by
  by_cases hbig : 300 < l.length ∨ 300 < m.length
  · exact wireJoins_big l a0 c0 m a1 c1 w hbig
  · have h1 : ¬ 300 < l.length := by omega
    have h2 : ¬ 300 < m.length := by omega
    clear hbig
    obtain ⟨X, E1, hX⟩ : ∃ X E, gets l (l.length + 1) 0 [] = (X, E) := ⟨_, _, rfl⟩
    obtain ⟨Y, E2, hY⟩ : ∃ X E, gets m (m.length + 1) 0 [] = (X, E) := ⟨_, _, rfl⟩
    obtain ⟨Z, E3, hZ⟩ : ∃ X E, gets (l ++ m) (l.length + m.length + 1) 0 [] = (X, E) := ⟨_, _, rfl⟩
    have hXl : X.length ≤ 400 := by have h := gets_len l (l.length + 1) 0 []; rw [hX] at h; simp at h; omega
    have hYl : Y.length ≤ 400 := by have h := gets_len m (m.length + 1) 0 []; rw [hY] at h; simp at h; omega
    have hXe : E1 ≠ 0 → X = [] := fun h => by have := gets_err0 l (l.length + 1) 0 [] (by rw [hX]; exact h); rwa [hX] at this
    have hZe : E1 = 0 → E3 = E2 ∧ Z = (if E2 = 0 then X ++ Y else []) := fun h => by
      subst h
      have := gets_join hX hY (by omega) (by omega) (show l.length + m.length < l.length + m.length + 1 by omega)
      rw [hZ] at this
      injection this with e1 e2
      exact ⟨e2, e1⟩
    have hG1 := Lib.hid (get_any a0 c0 l w hN hld hlc (by omega) _ X E1 (by omega) hX)
    have hG2 : Hid (∀ W, Below w.heap.size w W → Calls Try.prog 18 #[.slice a1 m.length c1] W (GetPost W Y E2)) := fun W h =>
      get_any a1 c1 m W ((hM.below h).more h.size) hmd hmc (by omega) _ Y E2 (by omega) hY
    have hG3 : Hid (∀ W v, Own8 W W.heap.size v (l ++ m) ∨ (∃ B, Own8 W B v (l ++ m)) → Calls Try.prog 18 #[v] W (GetPost W Z E3)) := fun W v h => by
      obtain ⟨B, h⟩ : ∃ B, Own8 W B v (l ++ m) := by rcases h with h | h; exact ⟨_, h⟩; exact h
      obtain ⟨a, c, rfl, hc, _, _, hn⟩ := h.nums
      exact get_any a c (l ++ m) W hn (by
        intro x hx
        simp only [List.mem_append] at hx
        rcases hx with hx | hx
        · exact hld x hx
        · exact hmd x hx) hc (by simp; omega) _ Z E3 (by simp) hZ
    have hT : Hid (∀ W, Below w.heap.size w W → ∃ v1 w1 v2 w2, (Builtin.append_ #[23, 23] 23 #[.slice (some ⟨W.heap.size, 0, none⟩) 0 0, .slice a0 l.length c0]).run Try.prog (W.alloc (.cells #[] 5)) = .ok v1 w1 ∧
      (Builtin.append_ #[23, 23] 23 #[v1, .slice a1 m.length c1]).run Try.prog w1 = .ok v2 w2 ∧ Own8 w2 W.heap.size v2 (l ++ m) ∧ Below W.heap.size W w2) := fun W h =>
      two8 W l m a0 a1 c0 c1 ((hN.below h).more h.size) ((hM.below h).more h.size) (by omega)
    have hXd : ∀ f ∈ X ++ Y, ∀ x ∈ f.data, x < 256 := fun f hf => by
      have o1 := gets_ok l hld (l.length + 1) 0 [] (by simp)
      have o2 := gets_ok m hmd (m.length + 1) 0 [] (by simp)
      rw [hX] at o1
      rw [hY] at o2
      simp only [List.mem_append] at hf
      rcases hf with hf | hf
      · exact (o1 f hf).data.1
      · exact (o2 f hf).data.1
    have HXd := Lib.hid hXd
    have HXe := Lib.hid hXe
    have HZe := Lib.hid hZe
    have HXl := Lib.hid hXl
    have HYl := Lib.hid hYl
    generalize l.length = L at *
    generalize m.length = M at *
    clear hN hM hld hmd hX hY hZ hXl hYl hlc hcm hmc hcm1 hXe hZe hXd
    go_enter Try.func7, Try.ntmps7
    go_wp2_with fail
    refine hG1.out.mono ?_
    rintro e W1 ⟨v1, rfl, ho1, hb1⟩
    have H1 := Lib.hid ho1
    have B1 := Lib.hid hb1
    clear ho1 hb1 hG1
    go_wp2_with fail
    refine (hG2.out _ B1.out).mono ?_
    rintro e W2 ⟨v2, rfl, ho2, hb2⟩
    have H2 := Lib.hid ho2
    have B2 := Lib.hid hb2
    have K2 := Lib.hid (keepBelow hb2 B1.out)
    clear ho2 hb2 hG2
    obtain ⟨u1, V1, u2, V2, r1, r2, hu, hV⟩ := hT.out W2 K2.out
    have R1 := Lib.hid r1
    have R2 := Lib.hid r2
    have HU := Lib.hid hu
    have HV := Lib.hid hV
    clear r1 r2 hu hV
    go_wp2_with (first | (at_builtin; refine app_run rfl (.tmp 31) (.tmp 32) 23 rfl _ _ u1 rfl rfl R1.out ?_) | (at_builtin; refine app_run rfl (.tmp 33) (.tmp 34) 23 rfl _ _ u2 rfl rfl R2.out ?_))
    refine (hG3.out V2 u2 (.inr ⟨_, HU.out⟩)).mono ?_
    rintro e W3 ⟨v3, rfl, ho3, hb3⟩
    have B3 := Lib.hid hb3
    have K3 := Lib.hid (keepBelow hb3 (keepBelow HV.out K2.out))
    have B23 := Lib.hid (keepBelow hb3 HV.out)
    have Ho3 := Lib.hid ho3
    clear hb3 ho3
    by_cases hE1 : E1 = 0
    · subst hE1
      obtain ⟨rfl, hZ⟩ := HZe.out rfl
      by_cases hE2 : E3 = 0
      · subst hE2
        rw [if_pos rfl] at hZ
        subst hZ
        obtain ⟨ax, cx, rfl, _⟩ := H1.out.len
        obtain ⟨ay, cy, rfl, _⟩ := H2.out.len
        obtain ⟨az, cz, rfl, _, hfz⟩ := Ho3.out.fat
        have B13 : Hid (Below W1.heap.size W1 W3) := keepBelow B23.out B2.out
        obtain ⟨q1, Q1, q2, Q2, r1, r2, hq, hQ⟩ := twoF W3 X Y ax ay cx cy
          (fun w' own h ho => H1.out.src (keepBelow h B13.out) own (fun k e => Nat.le_trans B13.out.size (ho k e)))
          (fun w' own h ho => H2.out.src (keepBelow h B23.out) own (fun k e => Nat.le_trans B23.out.size (ho k e))) (by have := HXl.out; have := HYl.out; omega)
        have R3 := Lib.hid r1
        have R4 := Lib.hid r2
        have K4 := Lib.hid (keepBelow hQ K3.out)
        obtain ⟨aq, cq, rfl, _, hfq⟩ := hq.fat
        have hsame := sameF_eq az aq cz cq (X ++ Y) Q2 ((hfz.below hQ).more hQ.size) hfq (by have := HXl.out; have := HYl.out; simp; omega) HXd.out
        have Hsame := Lib.hid hsame
        generalize (X ++ Y).length = N at *
        generalize X.length = NX at *
        generalize Y.length = NY at *
        have hz0 : ((0 : Int) != 0) = false := by decide
        clear r1 r2 hq hQ hfz hfq hsame R1 R2
        go_wp2_with (first
          | (go_at_call 13; (with_reducible refine (code_any _ _).mono ?_); rintro e w' ⟨rfl, rfl⟩)
          | (at_builtin; refine app_run rfl (.tmp 69) (.tmp 70) 36 rfl _ _ q1 rfl rfl R3.out ?_)
          | (at_builtin; refine app_run rfl (.tmp 71) (.tmp 72) 36 rfl _ _ _ rfl rfl R4.out ?_))
        refine Hsame.out.mono ?_
        rintro e W5 ⟨rfl, hb5⟩
        have K5 := Lib.hid (keepBelow hb5 K4.out)
        clear hb5
        go_wp2_with fail
        refine (live_any _).mono ?_
        rintro e W6 ⟨rfl, hb6⟩
        go_wp2_with fail
        go_ret
        exact ⟨rfl, keepBelow hb6 K5.out⟩
      · rw [if_neg hE2] at hZ
        subst hZ
        obtain ⟨az, cz, rfl, _⟩ := Ho3.out.len
        have hz0 : ((0 : Int) != 0) = false := by decide
        have hz1 : ((E3 : Int) != 0) = true := by simp; omega
        have hz2 : ((E3 : Int) == 0) = false := by simp; omega
        clear hE2 R1 R2
        go_wp2_with (go_at_call 13; (with_reducible refine (code_any _ _).mono ?_); rintro e w' ⟨rfl, rfl⟩)
        refine (live_any _).mono ?_
        rintro e W4 ⟨rfl, hb4⟩
        go_wp2_with fail
        go_ret
        exact ⟨rfl, keepBelow hb4 K3.out⟩
    · have hX := HXe.out hE1
      subst hX
      obtain ⟨ax, cx, rfl, _⟩ := H1.out.len
      have hz1 : ((E1 : Int) != 0) = true := by simp; omega
      clear hE1 R1 R2
      go_wp2_with (go_at_call 13; (with_reducible refine (code_any _ _).mono ?_); rintro e w' ⟨rfl, rfl⟩)
      refine (live_any _).mono ?_
      rintro e W4 ⟨rfl, hb4⟩
      go_wp2_with fail
      go_ret
      exact ⟨rfl, keepBelow hb4 K3.out⟩
end Go.Proofs.Ytnlbhlobnafggaa
