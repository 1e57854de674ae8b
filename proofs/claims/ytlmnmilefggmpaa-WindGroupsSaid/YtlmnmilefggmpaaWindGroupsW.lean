/- Layer 27: the walk of WindGroups. -/
import Derived.Test.YtlmnmilefggmpaaWG3
namespace Go.Proofs.Ytlmnmilefggmpaa
open Go.RowKit
set_option linter.unusedVariables false
set_option maxRecDepth 100000

set_option maxHeartbeats 8000000 in
theorem windGroups_walk (v : Value) (w : World) (H : ∃ ll, RdPP w w.heap.size v ll) :
    Calls Try.prog 5 #[v] w fun e w' => e = .returned (.bool true) ∧ Below w.heap.size w w' := by
  obtain ⟨ll, H⟩ := H
  obtain ⟨a, c, rfl⟩ := H.form_
  obtain ⟨L, hLL⟩ : ∃ z, z = ll.length := ⟨_, rfl⟩
  have H2 := H
  rw [← hLL] at H2
  have HR := Lib.hid H2
  clear H2
  have HL := Lib.hid hLL
  rw [← hLL]
  have hLm : L ≤ maxLen := by obtain ⟨a', c', xs, e, h1, h2, _⟩ := H; rw [hLL]; exact Nat.le_trans h1 h2
  have HG1 := Lib.hid fun W (h : RdPP W W.heap.size (.slice a ll.length c) ll) (h1 : ll.length ≤ 30) (h2 : ∀ l ∈ ll, l.length ≤ 50) => groups_any _ ll W h h1 h2
  have HG2 := Lib.hid fun W (h : RdPP W W.heap.size (.slice a ll.length c) ll) (h1 : ll.length ≤ 30) (h2 : ∀ l ∈ ll, l.length ≤ 50) => refGroups_any _ ll W h h1 h2
  rw [← hLL] at HG1 HG2
  by_cases hl : 30 < L
  · have hl2 : (30 : Int) < (L : Int) := by omega
    have d2 : decide (30 < L) = true := decide_eq_true hl
    clear H hLL HG1 HG2
    go_enter Try.func5, Try.ntmps5
    go_wp2_with fail
    refine (live27_any w).mono ?_
    rintro e X ⟨rfl, hX⟩
    have HX := Lib.hid hX
    clear hX
    go_wp2_with fail
    go_ret
    exact ⟨rfl, HX.out⟩
  · have hl2 : ¬ ((30 : Int) < (L : Int)) := by omega
    have d2 : decide (30 < L) = false := decide_eq_false hl
    clear H hLL
    go_enter Try.func5, Try.ntmps5
    go_wp2_with fail
    go_loopw [3] (fun x W => ∃ k : Nat, k ≤ L ∧ x = .int .i64 (k : Int) ∧ W = w ∧ Hid (∀ l ∈ ll.take k, l.length ≤ 50)) (fun x _ => L - (intOf x).toNat)
    case atStart => exact ⟨0, Nat.zero_le _, rfl, rfl, by intro l hl; simp at hl⟩
    case round =>
      obtain ⟨k, hk, rfl, rfl, HT⟩ := hrel
      by_cases hlt : k < L
      · have hkl : k < ll.length := by have := HL.out; omega
        obtain ⟨b1, o1, a1, c1, rfl, hb1, p0, hrd⟩ := HR.out.el_ k hkl
        have hk0 : (0 : Int) ≤ (k : Int) := by omega
        have hk1 : (k : Int) < (L : Int) := by omega
        have hm1 : ll[k].length ≤ maxLen := by obtain ⟨_, _, e, h1, h2, _⟩ := hrd; exact Nat.le_trans h1 h2
        by_cases hm : 50 < (ll[k]'hkl).length
        · generalize (ll[k]'hkl).length = m1 at *
          have hm2 : (50 : Int) < (m1 : Int) := by omega
          have hm3 : decide (50 < m1) = true := decide_eq_true hm
          clear hrd hkl HG1 HG2 hm1
          go_wp2_with fail
          refine (live27_any _).mono ?_
          rintro e X ⟨rfl, hX⟩
          have HX := Lib.hid hX
          clear hX
          go_wp2_with fail
          go_ret
          exact ⟨rfl, HX.out⟩
        · have HT2 : Hid (∀ l ∈ ll.take (k + 1), l.length ≤ 50) := by
            intro l hl
            rw [List.take_succ_eq_append_getElem hkl] at hl
            simp only [List.mem_append, List.mem_singleton] at hl
            rcases hl with hl | rfl
            · exact HT.out l hl
            · omega
          generalize (ll[k]'hkl).length = m1 at *
          have hm2 : ¬ ((50 : Int) < (m1 : Int)) := by omega
          have hm3 : decide (50 < m1) = false := decide_eq_false hm
          clear hrd hkl HG1 HG2 HT hm1
          go_wp2_with fail
          go_roundw
          case rel => exact ⟨k + 1, by omega, by go_num, by first | rfl | trivial, HT2⟩
          case measure => simp [intOf] <;> omega
      · have hkL : k = L := by omega
        subst hkL
        have Hall : Hid (∀ l ∈ ll, l.length ≤ 50) := by
          intro l hl
          refine HT.out l ?_
          rw [HL.out, List.take_length]; exact hl
        clear HT
        obtain ⟨SL, hSL⟩ : ∃ z, z = (gsTo (sgs ll) k) := ⟨_, rfl⟩
        have hinv := gs_inv (sgs ll) k
        obtain ⟨G, F⟩ := SL
        rw [← hSL] at HG1 HG2 hinv
        clear hSL
        simp only at HG1 HG2 hinv
        obtain ⟨_, hGl, hGm⟩ := hinv
        have hG30 : G.length ≤ 30 := by omega
        have HGm : Hid (∀ x ∈ G, x.length ≤ 30) := fun x hx => by have := hGm x hx; omega
        clear hGl hGm
        go_wp2_with fail
        refine (HG1.out _ HR.out (by have := HL.out; omega) Hall.out).mono ?_
        rintro e X ⟨v1, us1, rfl, hO1, hX⟩
        have HO1 := Lib.hid hO1
        have HX := Lib.hid hX
        clear hO1 hX HG1
        go_wp2_with fail
        refine (HG2.out X ((HR.out.below HX.out).more HX.out.size) (by have := HL.out; omega) Hall.out).mono ?_
        rintro e Y ⟨v2, us2, rfl, hO2, hY⟩
        have HR1 := Lib.hid ((HO1.out.below (hY.mono (Nat.le_refl _))).rd)
        have HR2 := Lib.hid hO2.rd
        have HY := Lib.hid (HX.out.trans (hY.mono HX.out.size))
        clear hO2 hY HG2 HO1 HX HR Hall
        obtain ⟨ga, gc, us3, rfl, hg1, hg2, _⟩ := HR1.out
        obtain ⟨ha, hc, us4, rfl, hh1, hh2, _⟩ := HR2.out
        obtain ⟨n, hn⟩ : ∃ z, z = G.length := ⟨_, rfl⟩
        have Hn := Lib.hid hn
        rw [← hn] at HR1 HR2 hg1 hh1 hG30 ⊢
        have hnm : n ≤ maxLen := by omega
        clear hn
        go_wp2_with fail
        go_loopw [8] (fun x W => ∃ i : Nat, i ≤ n ∧ x = .int .i64 (i : Int) ∧ Hid (Below Y.heap.size Y W)) (fun x _ => n - (intOf x).toNat)
        case atStart => exact ⟨0, Nat.zero_le _, rfl, Below.refl _ _⟩
        case round =>
          obtain ⟨i, hi, rfl, HB⟩ := hrel
          by_cases hin : i < n
          · have hiG : i < G.length := by have := Hn.out; omega
            obtain ⟨b3, o3, a3, c3, rfl, hb3, p3, hN3⟩ := HR1.out.at i hiG
            obtain ⟨b4, o4, a4, c4, rfl, hb4, p4, hN4⟩ := HR2.out.at i hiG
            have P3 := Lib.hid p3
            have P4 := Lib.hid p4
            have HN3 := Lib.hid hN3
            have HN4 := Lib.hid hN4
            have q3 := (HB.out.cell (p := ⟨b3, o3 + i, none⟩) hb3).trans p3
            have q4 := (HB.out.cell (p := ⟨b4, o4 + i, none⟩) hb4).trans p4
            have hi0 : (0 : Int) ≤ (i : Int) := by omega
            have hi1 : (i : Int) < (n : Int) := by omega
            have hgm := HGm.out _ (List.getElem_mem hiG)
            generalize G[i]'hiG = g at *
            obtain ⟨m, hm⟩ : ∃ z, z = g.length := ⟨_, rfl⟩
            have Hm := Lib.hid hm
            rw [← hm] at P3 P4 q3 q4 hgm
            clear p3 p4 hN3 hN4 hm hiG
            go_wp2_with fail
            go_quiet (fail)
            go_wp2_with fail
            go_loopw [9] (fun x W => ∃ k : Nat, k ≤ m ∧ x = .int .i64 (k : Int) ∧ Hid (Below Y.heap.size Y W)) (fun x _ => m - (intOf x).toNat)
            case atStart => exact ⟨0, Nat.zero_le _, rfl, ⟨HB.out.os, HB.out.tape, HB.out.output, HB.out.size, HB.out.block⟩⟩
            case round =>
              obtain ⟨k, hk, rfl, HB2⟩ := hrel
              have q5 := (HB2.out.cell (p := ⟨b3, o3 + i, none⟩) hb3).trans P3.out
              have q6 := (HB2.out.cell (p := ⟨b4, o4 + i, none⟩) hb4).trans P4.out
              clear q3 q4 HB
              by_cases hkm : k < m
              · have hkg : k < g.length := by have := Hm.out; omega
                obtain ⟨b7, o7, rfl, hb7, hc7⟩ := HN3.out (by omega)
                obtain ⟨b8, o8, rfl, hb8, hc8⟩ := HN4.out (by omega)
                have q7 := (HB2.out.cell (p := ⟨b7, o7 + k, none⟩) hb7).trans (hc7 k hkg)
                have q8 := (HB2.out.cell (p := ⟨b8, o8 + k, none⟩) hb8).trans (hc8 k hkg)
                have hk0 : (0 : Int) ≤ (k : Int) := by omega
                have hk1 : (k : Int) < (m : Int) := by omega
                generalize g.getD k 0 = y at *
                clear hc7 hc8
                go_wp2_with fail
                go_quiet (fail)
                go_wp2_with fail
                go_roundw
                case rel => exact ⟨k + 1, by omega, by go_num, ⟨HB2.out.os, HB2.out.tape, HB2.out.output, HB2.out.size, HB2.out.block⟩⟩
                case measure => simp [intOf] <;> omega
              · have hkm2 : k = m := by omega
                subst hkm2
                go_wp2_with fail
                go_roundw
                case rel => exact ⟨i + 1, by omega, by go_num, ⟨HB2.out.os, HB2.out.tape, HB2.out.output, HB2.out.size, HB2.out.block⟩⟩
                case measure => simp [intOf] <;> omega
          · have hin2 : i = n := by omega
            subst hin2
            go_wp2_with fail
            refine (live27_any _).mono ?_
            rintro e Z ⟨rfl, hZ⟩
            have hBY := HB.out
            have HZ := Lib.hid ((HY.out.trans (hBY.mono HY.out.size)).trans (hZ.mono (Nat.le_trans HY.out.size hBY.size)))
            clear hZ hBY
            go_wp2_with fail
            go_ret
            exact ⟨rfl, HZ.out⟩
end Go.Proofs.Ytlmnmilefggmpaa
