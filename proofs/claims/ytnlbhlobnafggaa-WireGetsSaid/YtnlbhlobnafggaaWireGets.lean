/- The statement WireGets: the law's walk. -/
import Derived.Test.YtnlbhlobnafggaaPut
import Derived.Test.YtnlbhlobnafggaaRefGet
import Derived.Test.YtnlbhlobnafggaaHeld
namespace Go.Proofs.Ytnlbhlobnafggaa
open Go.RowKit Var
set_option linter.unusedVariables false
set_option maxRecDepth 100000

set_option maxHeartbeats 8000000 in
theorem wireGets_walk (l : List Nat) (a0 : Option Addr) (c0 : Nat) (w : World) (hld : ∀ x ∈ l, x < 256) (hlc : l.length ≤ c0) (hcm : c0 ≤ maxLen) (hN : Nums .u8 w w.heap.size a0 l) :
    Calls Try.prog 4 #[.slice a0 l.length c0] w fun e w' => e = .returned (.bool true) ∧ Below w.heap.size w w' := by
  by_cases h1 : 500 < l.length
  · have Hlive := Lib.hid (live_any w)
    clear hN hld
    go_enter Try.func4, Try.ntmps4
    go_wp2_with fail
    refine Hlive.out.mono ?_
    rintro e w1 ⟨rfl, hb⟩
    go_wp2_with fail
    go_ret
    exact ⟨rfl, hb⟩
  · obtain ⟨X, E, hX⟩ : ∃ X E, gets l (l.length + 1) 0 [] = (X, E) := ⟨_, _, rfl⟩
    have hXl : X.length ≤ 501 := by have h := gets_len l (l.length + 1) 0 []; rw [hX] at h; simp at h; omega
    have hXo : ∀ f ∈ X, FOk f l.length := by have h := gets_ok l hld (l.length + 1) 0 [] (by simp); rw [hX] at h; exact h
    have hXd : ∀ f ∈ X, ∀ x ∈ f.data, x < 256 := fun f hf => (hXo f hf).data.1
    have hXp : E = 0 → (pfs X).length ≤ l.length := fun h => by
      have := gets_least l (l.length + 1) 0 [] (Nat.zero_le _) (by simp [pfs]) (by rw [hX]; exact h)
      rw [hX] at this; exact this
    have hG1 := Lib.hid (get_any a0 c0 l w hN hld hlc (by omega) _ X E (by omega) hX)
    have hG2 : Hid (∀ W, Below w.heap.size w W → Calls Try.prog 19 #[.slice a0 l.length c0] W (GetPost W X E)) := fun W h =>
      refGet_any a0 c0 l W ((hN.below h).more h.size) hld hlc (by omega) _ X E (by omega) hX
    have hback : gets (pfs X) ((pfs X).length + 1) 0 [] = (X, 0) := by
      have := gets_pfs l.length (by omega) X [] [] hXo ((pfs X).length + 1) (by omega)
      simpa using this
    have hpl : ∀ x ∈ pfs X, x < 256 := by
      rw [← pgs_pfs l.length X hXo]
      intro x hx
      simp only [pgs, List.mem_flatten, List.mem_map] at hx
      obtain ⟨bs, ⟨g, ⟨f, hf, rfl⟩, rfl⟩, hx⟩ := hx
      rw [fbytes f l.length (hXo f hf)] at hx
      have hfx := hXd f hf
      unfold pf at hx
      split at hx
      · simp only [List.mem_append] at hx; rcases hx with hx | hx <;> exact vb_lt _ _ hx
      · split at hx
        · simp only [List.mem_append] at hx; rcases hx with hx | hx; exact vb_lt _ _ hx; exact fx_lt _ _ _ hx
        · split at hx
          · simp only [List.mem_append] at hx; rcases hx with hx | hx | hx; exact vb_lt _ _ hx; exact vb_lt _ _ hx; exact hfx x hx
          · split at hx
            · simp only [List.mem_append] at hx; rcases hx with hx | hx; exact vb_lt _ _ hx; exact fx_lt _ _ _ hx
            · simp at hx
    have HXo := Lib.hid hXo
    have HXd := Lib.hid hXd
    have HXp := Lib.hid hXp
    have HXl := Lib.hid hXl
    have Hback := Lib.hid hback
    have Hpl := Lib.hid hpl
    have hl500 : l.length ≤ 500 := by omega
    have hgp := Lib.hid (pgs_pfs l.length X hXo)
    have hgo : Hid (∀ g ∈ X.map Var.F.g, g.ok) := by
      intro g hg
      simp only [List.mem_map] at hg
      obtain ⟨f, hf, rfl⟩ := hg
      exact fgok f l.length (hXo f hf) (by omega)
    generalize l.length = L at *
    clear hN hld hX hXl hXo hXd hXp hback hlc hcm hpl
    go_enter Try.func4, Try.ntmps4
    go_wp2_with fail
    refine hG1.out.mono ?_
    rintro e W1 ⟨v1, rfl, ho1, hb1⟩
    have H1 := Lib.hid ho1
    have B1 := Lib.hid hb1
    clear ho1 hb1 hG1
    go_wp2_with fail
    refine (hG2.out _ B1.out).mono ?_
    rintro e W2 ⟨v2, rfl, ho2, hb2⟩
    have K2 := Lib.hid (keepBelow hb2 B1.out)
    obtain ⟨a1, c1, rfl, _, hf1⟩ := (H1.out.below hb2).fat
    obtain ⟨a2, c2, rfl, _, hf2⟩ := ho2.fat
    have Hsame := Lib.hid (sameF_eq a1 a2 c1 c2 X W2 hf1 hf2 (by have := HXl.out; omega) HXd.out)
    have HF1 := Lib.hid hf1
    clear ho2 hb2 hf1 hf2 hG2
    obtain ⟨N, hN⟩ : ∃ N, N = X.length := ⟨_, rfl⟩
    have HN := Lib.hid hN
    rw [← hN] at Hsame ⊢
    clear hN
    go_wp2_with fail
    refine Hsame.out.mono ?_
    rintro e W3 ⟨rfl, hb3⟩
    have K3 := Lib.hid (keepBelow hb3 K2.out)
    have HF3 := Lib.hid ((HF1.out.below hb3).more hb3.size)
    have heE : ((E : Int) != (E : Int)) = false := by simp
    clear hb3 Hsame
    by_cases hE : E = 0
    · subst hE
      have hple := HXp.out rfl
      have hput := put_any a1 c1 (X.map Var.F.g) W3 HF3.out.g hgo.out (by have := HXl.out; simp; omega) (by rw [hgp.out]; omega)
      rw [hgp.out, List.length_map, ← HN.out] at hput
      have Hput := Lib.hid hput
      have hz0 : ((0 : Int) != 0) = false := by decide
      clear hput
      go_wp2_with (go_at_call 13; (with_reducible refine (code_any _ _).mono ?_); rintro e w' ⟨rfl, rfl⟩)
      refine Hput.out.mono ?_
      rintro e W4 ⟨v4, rfl, ho4, hb4⟩
      obtain ⟨a4, c4, rfl, hc4, _, _, hn4⟩ := ho4.nums
      have hget := get_any a4 c4 (pfs X) W4 hn4 Hpl.out hc4 (by omega) _ X 0 (by omega) Hback.out
      obtain ⟨M, hM⟩ : ∃ M, M = (pfs X).length := ⟨_, rfl⟩
      rw [← hM] at hget hple ⊢
      have Hget := Lib.hid hget
      have K4 := Lib.hid (keepBelow hb4 K3.out)
      have HF4 := Lib.hid ((HF3.out.below hb4).more hb4.size)
      clear hget ho4 hb4 hn4 hM Hput
      go_wp2_with fail
      refine Hget.out.mono ?_
      rintro e W5 ⟨v5, rfl, ho5, hb5⟩
      obtain ⟨a5, c5, rfl, _, hf5⟩ := ho5.fat
      have hs2 := sameF_eq a5 a1 c5 c1 X W5 hf5 ((HF4.out.below hb5).more hb5.size) (by have := HXl.out; omega) HXd.out
      rw [← HN.out] at hs2 ⊢
      have Hs2 := Lib.hid hs2
      have K5 := Lib.hid (keepBelow hb5 K4.out)
      clear hs2 hf5 ho5 hb5 Hget
      go_wp2_with (first
        | (go_at_call 13; (with_reducible refine (code_any _ _).mono ?_); rintro e w' ⟨rfl, rfl⟩))
      refine Hs2.out.mono ?_
      rintro e W6 ⟨rfl, hb6⟩
      have K6 := Lib.hid (keepBelow hb6 K5.out)
      clear hb6
      go_wp2_with fail
      refine (live_any _).mono ?_
      rintro e W7 ⟨rfl, hb7⟩
      go_wp2_with fail
      go_ret
      exact ⟨rfl, keepBelow hb7 K6.out⟩
    · have hz1 : ((E : Int) != 0) = true := by simp; omega
      clear hE
      go_wp2_with (go_at_call 13; (with_reducible refine (code_any _ _).mono ?_); rintro e w' ⟨rfl, rfl⟩)
      refine (live_any _).mono ?_
      rintro e W4 ⟨rfl, hb4⟩
      go_wp2_with fail
      go_ret
      exact ⟨rfl, keepBelow hb4 K3.out⟩
end Go.Proofs.Ytnlbhlobnafggaa
