/- Walks over layer 9: which paths are the same. -/
import Derived.Test.YtnajladngpphkaaPP
namespace Go.Proofs.Ytnajladngpphkaa
open Go.RowKit
set_option linter.unusedVariables false
set_option maxRecDepth 100000

theorem take_next {α : Type} {l m : List α} {k : Nat} (hl : k < l.length) (hm : k < m.length) (h : l.take k = m.take k) (he : l[k] = m[k]) : l.take (k + 1) = m.take (k + 1) := by
  rw [List.take_succ_eq_append_getElem hl, List.take_succ_eq_append_getElem hm, h, he]
theorem take_all {α : Type} {l m : List α} (hlen : l.length = m.length) (h : l.take l.length = m.take l.length) : l = m := by
  rw [List.take_length, hlen, List.take_length] at h
  exact h
theorem eq_bits (x y x' y' : Int) : (x', y') ≠ (x, y) → ((x' : Int) == x) = false ∨ (x' = x ∧ ((y' : Int) == y) = false) := fun h => by
  by_cases e : x' = x
  · subst e
    exact .inr ⟨rfl, beq_eq_false_iff_ne.mpr (fun e => h (by rw [e]))⟩
  · exact .inl (beq_eq_false_iff_ne.mpr e)

set_option maxHeartbeats 8000000 in
theorem refSame_any (u v : Value) (l m : List (List P2)) (w : World) (hu : RdPP w w.heap.size u l) (hv : RdPP w w.heap.size v m) :
    Calls Try.prog 8 #[u, v] w fun e w' => e = .returned (.bool (decide (l = m))) ∧ Below w.heap.size w w' := by
  obtain ⟨a, c, rfl, hc1, hc2, ha⟩ := hu.at
  obtain ⟨b, d, rfl, hd1, hd2, hb⟩ := hv.at
  unfold maxLen at hc2 hd2
  clear hu hv
  by_cases hne : l.length = m.length
  · obtain ⟨L, hL⟩ : ∃ L, L = l.length := ⟨_, rfl⟩
    have HA := Lib.hid ha
    have HB := Lib.hid hb
    have HL := Lib.hid hL
    have HM := Lib.hid (hL.trans hne)
    have Hne := Lib.hid hne
    rw [← hne, ← hL]
    have hLm : (L : Int) ≤ 9223372036854775807 := by omega
    clear hL ha hb hne hc1 hc2 hd1 hd2
    go_enter Try.func8, Try.ntmps8
    go_wp2_with fail
    go_loopw [5] (fun i W => ∃ k : Nat, k ≤ L ∧ i = .int .i64 (k : Int) ∧ Hid (Below w.heap.size w W) ∧ Hid (l.take k = m.take k)) (fun i _ => L - (intOf i).toNat)
    case atStart => exact ⟨0, Nat.zero_le _, rfl, Below.refl _ _, Lib.hid rfl⟩
    case round =>
      obtain ⟨k, hk, rfl, hbw, ht⟩ := hrel
      by_cases hlt : k < L
      · have hkl : k < l.length := by have := HL.out; omega
        have hkm : k < m.length := by have := HM.out; omega
        obtain ⟨b1, o1, u1, rfl, h1, p0, r1⟩ := HA.out k hkl
        obtain ⟨b2, o2, u2, rfl, h2, q0, r2⟩ := HB.out k hkm
        have hn := take_next hkl hkm ht.out
        have hf : l[k] ≠ m[k] → decide (l = m) = false := fun h => decide_eq_false (fun e => by subst e; exact h rfl)
        generalize l[k]'hkl = f at *
        generalize m[k]'hkm = g at *
        obtain ⟨a1, c1, rfl, x1, x2, hp⟩ := r1
        obtain ⟨a2, c2, rfl, y1, y2, hq⟩ := r2
        unfold maxLen at x2 y2
        have hk0 : (0 : Int) ≤ (k : Int) := by omega
        have hk1 : (k : Int) < (L : Int) := by omega
        have Hn := Lib.hid hn
        have Hf := Lib.hid hf
        have P0 : Hid (∀ X, Below w.heap.size w X → X.cell? ⟨b1, o1 + k, none⟩ = some (.slice a1 f.length c1) ∧ X.cell? ⟨b2, o2 + k, none⟩ = some (.slice a2 g.length c2)) := fun X hb => ⟨(hb.cell h1).trans p0, (hb.cell h2).trans q0⟩
        have HP := Lib.hid hp
        have HQ := Lib.hid hq
        clear hn hf p0 q0 h1 h2 hp hq
        by_cases hfg : f.length = g.length
        · obtain ⟨M, hM⟩ : ∃ M, M = f.length := ⟨_, rfl⟩
          have HMf := Lib.hid hM
          have HMg := Lib.hid (hM.trans hfg)
          have Hfg := Lib.hid hfg
          rw [← hfg, ← hM] at P0
          have hMm : (M : Int) ≤ 9223372036854775807 := by omega
          clear hM hfg x1 x2 y1 y2
          obtain ⟨p0, q0⟩ := P0.out _ hbw.out
          go_wp2_with fail
          go_quiet (fail)
          clear p0 q0
          go_wp2_with fail
          go_loopw [6] (fun i W => ∃ j : Nat, j ≤ M ∧ i = .int .i64 (j : Int) ∧ Hid (Below w.heap.size w W) ∧ Hid (f.take j = g.take j)) (fun i _ => M - (intOf i).toNat)
          case atStart => exact ⟨0, Nat.zero_le _, rfl, Lib.hid (below_drawnP hbw.out _), Lib.hid rfl⟩
          case round =>
            obtain ⟨j, hj, rfl, hbx, htj⟩ := hrel
            obtain ⟨p0, q0⟩ := P0.out _ hbx.out
            by_cases hlj : j < M
            · have hjf : j < f.length := by have := HMf.out; omega
              have hjg : j < g.length := by have := HMg.out; omega
              obtain ⟨b3, o3, rfl, h3, z0, z1⟩ := (HP.out.below hbx.out).at j hjf
              obtain ⟨b4, o4, rfl, h4, t0, t1⟩ := (HQ.out.below hbx.out).at j hjg
              have hnj := take_next hjf hjg htj.out
              have hfj : f[j] ≠ g[j] → f ≠ g := fun h e => by subst e; exact h rfl
              generalize f[j]'hjf = F at *
              generalize g[j]'hjg = G at *
              obtain ⟨x', y'⟩ := F
              obtain ⟨x, y⟩ := G
              simp only at z0 z1 t0 t1
              have hj0 : (0 : Int) ≤ (j : Int) := by omega
              have hj1 : (j : Int) < (M : Int) := by omega
              have Hnj := Lib.hid hnj
              have Hfj := Lib.hid hfj
              clear hnj hfj
              by_cases e : (x', y') = (x, y)
              · injection e with e1 e2
                have e3 := e1.symm
                have e4 := e2.symm
                subst e3 e4
                have Hn2 := Lib.hid (Hnj.out rfl)
                clear e1 e2 Hnj Hfj htj
                go_wp2_with fail
                go_quiet (fail)
                go_wp2_with fail
                go_roundw
                case rel => exact ⟨j + 1, hlj, by go_num, below_drawnP hbx.out _, Hn2⟩
                case measure => simp [intOf]; omega
              · have HF2 := Lib.hid (Hf.out (Hfj.out e))
                rcases eq_bits x y x' y' e with m1 | ⟨e1, m1⟩
                · have m2 : ((x' : Int) != x) = true := by simp [bne, m1]
                  clear e Hnj Hfj htj
                  go_wp2_with fail
                  go_quiet (fail)
                  go_wp2_with fail
                  go_ret
                  exact ⟨by rw [HF2.out]; rfl, below_drawnP hbx.out _⟩
                · have e3 := e1.symm
                  subst e3
                  have m2 : ((y' : Int) != y) = true := by simp [bne, m1]
                  clear e Hnj Hfj htj e1
                  go_wp2_with fail
                  go_quiet (fail)
                  go_wp2_with fail
                  go_ret
                  exact ⟨by rw [HF2.out]; rfl, below_drawnP hbx.out _⟩
            · obtain rfl : M = j := by omega
              have he : f = g := take_all Hfg.out (by rw [← HMf.out]; exact htj.out)
              have Hn2 := Lib.hid (Hn.out he)
              clear he htj
              go_wp2_with fail
              go_roundw
              case rel => exact ⟨k + 1, hlt, by go_num, hbx, Hn2⟩
              case measure => simp [intOf]; omega
        · have HF2 := Lib.hid (Hf.out (fun e => hfg (by rw [e])))
          obtain ⟨p0, q0⟩ := P0.out _ hbw.out
          obtain ⟨M1, hM1⟩ : ∃ M, f.length = M := ⟨_, rfl⟩
          obtain ⟨M2, hM2⟩ : ∃ M, g.length = M := ⟨_, rfl⟩
          rw [hM1] at p0 hfg
          rw [hM2] at q0 hfg
          have n1 : ((M1 : Int) != (M2 : Int)) = true := by simp [bne]; omega
          have n2 : ((M1 : Int) == (M2 : Int)) = false := beq_eq_false_iff_ne.mpr (by omega)
          clear hM1 hM2 hfg x1 x2 y1 y2 Hn Hf ht
          go_wp2_with fail
          go_quiet (fail)
          go_wp2_with fail
          go_ret
          exact ⟨by rw [HF2.out]; rfl, below_drawnP hbw.out _⟩
      · obtain rfl : L = k := by omega
        have he : l = m := take_all Hne.out (by rw [← HL.out]; exact ht.out)
        have Hd : Hid (decide (l = m) = true) := decide_eq_true he
        clear he ht
        go_wp2_with fail
        go_ret
        exact ⟨by rw [Hd.out]; rfl, hbw.out⟩
  · have e : decide (l = m) = false := decide_eq_false (fun e => hne (by rw [e]))
    rw [e]
    have n1 : ((l.length : Int) != (m.length : Int)) = true := by simp [bne]; omega
    have n2 : ((l.length : Int) == (m.length : Int)) = false := beq_eq_false_iff_ne.mpr (by omega)
    obtain ⟨L, hL⟩ : ∃ L, l.length = L := ⟨_, rfl⟩
    obtain ⟨M, hM⟩ : ∃ M, m.length = M := ⟨_, rfl⟩
    rw [hL] at n1 n2 ⊢
    rw [hM] at n1 n2 ⊢
    clear ha hb hne e hL hM hc1 hd1
    go_enter Try.func8, Try.ntmps8
    go_wp2_with fail
    go_ret
    exact ⟨rfl, Below.refl _ _⟩

theorem wrap64_one (x : Int) : wrap64 x = IntKind.i64.wrap x := (IntWalk.i64_left x).symm
theorem wrap64_is {N M : Int} : IntKind.i64.wrap (IntKind.i64.wrap (N + 1) + M) = wrap64 (wrap64 (N + 1) + M) := by rw [wrap64_one, wrap64_one]
def muchE (tot : Nat) : Nat → Int → List (List P2) → Bool
  | _, _, [] => decide (40 < tot)
  | i, n, l :: r => if i < 40 then (if 300 < IntKind.i64.wrap (IntKind.i64.wrap (n + 1) + (l.length : Int)) then true else muchE tot (i + 1) (IntKind.i64.wrap (IntKind.i64.wrap (n + 1) + (l.length : Int))) r) else decide (40 < tot)
end Go.Proofs.Ytnajladngpphkaa
