/- Layer 13: the reference's Right. -/
import Derived.Test.YtlbplefmpbpchaaArch3
namespace Go.Proofs.Ytlbplefmpbpchaa
open Go.RowKit
set_option linter.unusedVariables false
set_option maxRecDepth 100000

def formA (h : Hd) : Bool := decide ((h.inn = 1 ∨ h.inn = 2) ∧ (h.out = 1 ∨ h.out = 2) ∧ h.kind = 1)
theorem formD_parts (h : Hd) : formD h = (formA h && (zoomsD h && cornersD h)) := by
  unfold formD formA
  by_cases a : h.inn = 1 ∨ h.inn = 2 <;> by_cases b : h.out = 1 ∨ h.out = 2 <;> by_cases c : h.kind = 1 <;> simp [a, b, c]
set_option maxHeartbeats 16000000 in
theorem rright_any (h : Hd) (n : Int) (w : World) (hn : -9223372036854775808 ≤ n ∧ n < 9223372036854775808) :
    Calls Try.prog 11 #[hdV h, .int .i64 n] w fun e w' => e = .returned (.int .i64 (rightD h n)) ∧ Below w.heap.size w w' := by
  obtain ⟨r, hr⟩ : ∃ r, r = rightD h n := ⟨_, rfl⟩
  rw [← hr]
  unfold rightD at hr
  rw [formD_parts] at hr
  have Hr := Lib.hid hr
  clear hr
  obtain ⟨b, hb⟩ : ∃ z, z = w.heap.size := ⟨_, rfl⟩
  obtain ⟨X0, hX0⟩ : ∃ z, z = w.alloc (.cells h.cells 29) := ⟨_, rfl⟩
  have hO : One w b h.cells X0 := by rw [hX0, hb]; exact ⟨Whole.new w _ _, (Below.refl _ _).alloc (Nat.le_refl _) _⟩
  have HO := Lib.hid hO
  have HX0 := Lib.hid hX0
  have Hb := Lib.hid hb
  clear hX0 hb hO
  unfold hdV
  go_enter Try.func11, Try.ntmps11
  go_upto_region 1 with (fail)
  rw [← HX0.out, ← Hb.out]
  clear HX0 Hb
  obtain ⟨q, hq⟩ : ∃ q, q = formA h := ⟨_, rfl⟩
  rw [← hq] at Hr
  unfold formA at hq
  have Hq := Lib.hid hq
  clear hq
  go_cut [6, 7, 8, 9, 10, 11, 12, 13, 14, 15, 16, 17, 18, 19, 20, 21, 22, 23, 24, 25, 26, 27, 28] (fun x6 x7 x8 x9 x10 x11 x12 x13 x14 x15 x16 x17 x18 x19 x20 x21 x22 x23 x24 x25 x26 x27 x28 W => x28 = .bool (!q) ∧ Hid (One w b h.cells W))
  case first =>
    as_aux_lemma =>
      have hq := Hq.out
      have q12 : X0.cell? ⟨b, 12, none⟩ = some (.int .i64 h.inn) := HO.out.a.cell 12
      have q13 : X0.cell? ⟨b, 13, none⟩ = some (.int .i64 h.out) := HO.out.a.cell 13
      have q14 : X0.cell? ⟨b, 14, none⟩ = some (.int .i64 h.kind) := HO.out.a.cell 14
      by_cases g0 : h.inn < 1
      · have d0 : decide (h.inn < 1) = true := decide_eq_true g0
        have hv : Hid (q = false) := by show _ = _; rw [hq]; exact decide_eq_false (by omega)
        obtain rfl := hv.out
        clear hq hv
        go_wp2_with fail
        go_meet
        exact ⟨by first | rfl | simp, HO.out⟩
      · have d0 : decide (h.inn < 1) = false := decide_eq_false g0
        by_cases g1 : 2 < h.inn
        · have d1 : decide (2 < h.inn) = true := decide_eq_true g1
          have hv : Hid (q = false) := by show _ = _; rw [hq]; exact decide_eq_false (by omega)
          obtain rfl := hv.out
          clear hq hv
          go_wp2_with fail
          go_meet
          exact ⟨by first | rfl | simp, HO.out⟩
        · have d1 : decide (2 < h.inn) = false := decide_eq_false g1
          by_cases g2 : h.out < 1
          · have d2 : decide (h.out < 1) = true := decide_eq_true g2
            have hv : Hid (q = false) := by show _ = _; rw [hq]; exact decide_eq_false (by omega)
            obtain rfl := hv.out
            clear hq hv
            go_wp2_with fail
            go_meet
            exact ⟨by first | rfl | simp, HO.out⟩
          · have d2 : decide (h.out < 1) = false := decide_eq_false g2
            by_cases g3 : 2 < h.out
            · have d3 : decide (2 < h.out) = true := decide_eq_true g3
              have hv : Hid (q = false) := by show _ = _; rw [hq]; exact decide_eq_false (by omega)
              obtain rfl := hv.out
              clear hq hv
              go_wp2_with fail
              go_meet
              exact ⟨by first | rfl | simp, HO.out⟩
            · have d3 : decide (2 < h.out) = false := decide_eq_false g3
              by_cases g4 : h.kind = 1
              · have d4 : (h.kind == 1) = true := by rw [g4]; rfl
                have d4' : (h.kind != 1) = false := by rw [g4]; rfl
                have hv : Hid (q = true) := by show _ = _; rw [hq]; exact decide_eq_true (by omega)
                obtain rfl := hv.out
                clear hq hv g4
                go_wp2_with fail
                go_meet
                exact ⟨by first | rfl | simp, HO.out⟩
              · have d4 : (h.kind == 1) = false := beq_eq_false_iff_ne.mpr g4
                have d4' : (h.kind != 1) = true := by simp [g4]
                have hv : Hid (q = false) := by show _ = _; rw [hq]; exact decide_eq_false (by omega)
                obtain rfl := hv.out
                clear hq hv g4
                go_wp2_with fail
                go_meet
                exact ⟨by first | rfl | simp, HO.out⟩
  case rest =>
    obtain ⟨rfl, HO1⟩ := hcut
    clear HO Hq
    cases q with
    | false =>
      have hr2 : Hid (r = 3) := by show _ = _; rw [Hr.out]; rfl
      go_wp2_with fail
      go_ret
      exact ⟨by rw [hr2.out]; rfl, HO1.out.k⟩
    | true =>
      obtain ⟨q, hq⟩ : ∃ q, q = zoomsD h := ⟨_, rfl⟩
      rw [← hq] at Hr
      unfold zoomsD at hq
      have Hq := Lib.hid hq
      clear hq
      go_upto_region 3 with (fail)
      go_cut [29, 30, 31, 32, 33, 34, 35, 36, 37, 38, 39, 40, 41, 42, 43, 44, 45, 46, 47, 48, 49, 50, 51, 52, 53] (fun x29 x30 x31 x32 x33 x34 x35 x36 x37 x38 x39 x40 x41 x42 x43 x44 x45 x46 x47 x48 x49 x50 x51 x52 x53 W => x53 = .bool (!q) ∧ Hid (One w b h.cells W))
      case first =>
        as_aux_lemma =>
          have hq := Hq.out
          have q15 : wc.cell? ⟨b, 15, none⟩ = some (.int .i64 h.zmin) := HO1.out.a.cell 15
          have q16 : wc.cell? ⟨b, 16, none⟩ = some (.int .i64 h.zmax) := HO1.out.a.cell 16
          have q23 : wc.cell? ⟨b, 23, none⟩ = some (.int .i64 h.mid) := HO1.out.a.cell 23
          by_cases g0 : h.zmin < 0
          · have d0 : decide (h.zmin < 0) = true := decide_eq_true g0
            have hv : Hid (q = false) := by show _ = _; rw [hq]; exact decide_eq_false (by omega)
            obtain rfl := hv.out
            clear hq hv
            go_wp2_with fail
            go_meet
            exact ⟨by first | rfl | simp, HO1.out⟩
          · have d0 : decide (h.zmin < 0) = false := decide_eq_false g0
            by_cases g1 : h.zmax < h.zmin
            · have d1 : decide (h.zmax < h.zmin) = true := decide_eq_true g1
              have hv : Hid (q = false) := by show _ = _; rw [hq]; exact decide_eq_false (by omega)
              obtain rfl := hv.out
              clear hq hv
              go_wp2_with fail
              go_meet
              exact ⟨by first | rfl | simp, HO1.out⟩
            · have d1 : decide (h.zmax < h.zmin) = false := decide_eq_false g1
              by_cases g2 : 30 < h.zmax
              · have d2 : decide (30 < h.zmax) = true := decide_eq_true g2
                have hv : Hid (q = false) := by show _ = _; rw [hq]; exact decide_eq_false (by omega)
                obtain rfl := hv.out
                clear hq hv
                go_wp2_with fail
                go_meet
                exact ⟨by first | rfl | simp, HO1.out⟩
              · have d2 : decide (30 < h.zmax) = false := decide_eq_false g2
                by_cases g3 : h.mid < 0
                · have d3 : decide (h.mid < 0) = true := decide_eq_true g3
                  have hv : Hid (q = false) := by show _ = _; rw [hq]; exact decide_eq_false (by omega)
                  obtain rfl := hv.out
                  clear hq hv
                  go_wp2_with fail
                  go_meet
                  exact ⟨by first | rfl | simp, HO1.out⟩
                · have d3 : decide (h.mid < 0) = false := decide_eq_false g3
                  by_cases g4 : 30 < h.mid
                  · have d4 : decide (30 < h.mid) = true := decide_eq_true g4
                    have hv : Hid (q = false) := by show _ = _; rw [hq]; exact decide_eq_false (by omega)
                    obtain rfl := hv.out
                    clear hq hv
                    go_wp2_with fail
                    go_meet
                    exact ⟨by first | rfl | simp, HO1.out⟩
                  · have d4 : decide (30 < h.mid) = false := decide_eq_false g4
                    have hv : Hid (q = true) := by show _ = _; rw [hq]; exact decide_eq_true (by omega)
                    obtain rfl := hv.out
                    clear hq hv
                    go_wp2_with fail
                    go_meet
                    exact ⟨by first | rfl | simp, HO1.out⟩
      case rest =>
        obtain ⟨rfl, HO2⟩ := hcut
        clear HO1 Hq
        cases q with
        | false =>
          have hr2 : Hid (r = 3) := by show _ = _; rw [Hr.out]; rfl
          go_wp2_with fail
          go_ret
          exact ⟨by rw [hr2.out]; rfl, HO2.out.k⟩
        | true =>
          obtain ⟨q, hq⟩ : ∃ q, q = cornersD h := ⟨_, rfl⟩
          rw [← hq] at Hr
          unfold cornersD at hq
          have HE1 := Lib.hid fun W => spot_any h.x0 h.y0 W
          have HE2 := Lib.hid fun W => spot_any h.x1 h.y1 W
          have HE3 := Lib.hid fun W => spot_any h.cx h.cy W
          obtain ⟨b1, hb1⟩ : ∃ b, b = earth h.x0 h.y0 := ⟨_, rfl⟩
          obtain ⟨b2, hb2⟩ : ∃ b, b = earth h.x1 h.y1 := ⟨_, rfl⟩
          obtain ⟨b3, hb3⟩ : ∃ b, b = earth h.cx h.cy := ⟨_, rfl⟩
          rw [← hb1] at HE1 hq
          rw [← hb2] at HE2 hq
          rw [← hb3] at HE3 hq
          have Hq := Lib.hid hq
          clear hq hb1 hb2 hb3
          go_upto_region 5 with (fail)
          go_cut [54, 55, 56, 57, 58, 59, 60, 61, 62, 63, 64, 65, 66, 67, 68, 69, 70, 71, 72, 73, 74, 75, 76, 77, 78, 79, 80, 81, 82, 83, 84, 85, 86, 87] (fun x54 x55 x56 x57 x58 x59 x60 x61 x62 x63 x64 x65 x66 x67 x68 x69 x70 x71 x72 x73 x74 x75 x76 x77 x78 x79 x80 x81 x82 x83 x84 x85 x86 x87 W => x87 = .bool (!q) ∧ Hid (One w b h.cells W))
          case first =>
            as_aux_lemma =>
              have q17 : wc.cell? ⟨b, 17, none⟩ = some (.int .i64 h.x0) := HO2.out.a.cell 17
              have q18 : wc.cell? ⟨b, 18, none⟩ = some (.int .i64 h.y0) := HO2.out.a.cell 18
              have q19 : wc.cell? ⟨b, 19, none⟩ = some (.int .i64 h.x1) := HO2.out.a.cell 19
              have q20 : wc.cell? ⟨b, 20, none⟩ = some (.int .i64 h.y1) := HO2.out.a.cell 20
              have q21 : wc.cell? ⟨b, 21, none⟩ = some (.int .i64 h.cx) := HO2.out.a.cell 21
              have q22 : wc.cell? ⟨b, 22, none⟩ = some (.int .i64 h.cy) := HO2.out.a.cell 22
              go_wp2_with fail
              refine (HE1.out _).mono ?_
              rintro e Y1 ⟨rfl, hb⟩
              have HP1 := Lib.hid (HO2.out.step hb)
              clear hb q17 q18 q19 q20 q21 q22
              cases b1 with
              | false =>
                have hv : Hid (q = false) := by show _ = _; rw [Hq.out]; simp
                obtain rfl := hv.out
                clear hv
                go_wp2_with fail
                go_meet
                exact ⟨by first | rfl | simp, HP1.out⟩
              | true =>
                have q17 : Y1.cell? ⟨b, 17, none⟩ = some (.int .i64 h.x0) := HP1.out.a.cell 17
                have q18 : Y1.cell? ⟨b, 18, none⟩ = some (.int .i64 h.y0) := HP1.out.a.cell 18
                have q19 : Y1.cell? ⟨b, 19, none⟩ = some (.int .i64 h.x1) := HP1.out.a.cell 19
                have q20 : Y1.cell? ⟨b, 20, none⟩ = some (.int .i64 h.y1) := HP1.out.a.cell 20
                have q21 : Y1.cell? ⟨b, 21, none⟩ = some (.int .i64 h.cx) := HP1.out.a.cell 21
                have q22 : Y1.cell? ⟨b, 22, none⟩ = some (.int .i64 h.cy) := HP1.out.a.cell 22
                go_wp2_with fail
                refine (HE2.out _).mono ?_
                rintro e Y2 ⟨rfl, hb⟩
                have HP2 := Lib.hid (HP1.out.step hb)
                clear hb q17 q18 q19 q20 q21 q22
                cases b2 with
                | false =>
                  have hv : Hid (q = false) := by show _ = _; rw [Hq.out]; simp
                  obtain rfl := hv.out
                  clear hv
                  go_wp2_with fail
                  go_meet
                  exact ⟨by first | rfl | simp, HP2.out⟩
                | true =>
                  have q17 : Y2.cell? ⟨b, 17, none⟩ = some (.int .i64 h.x0) := HP2.out.a.cell 17
                  have q18 : Y2.cell? ⟨b, 18, none⟩ = some (.int .i64 h.y0) := HP2.out.a.cell 18
                  have q19 : Y2.cell? ⟨b, 19, none⟩ = some (.int .i64 h.x1) := HP2.out.a.cell 19
                  have q20 : Y2.cell? ⟨b, 20, none⟩ = some (.int .i64 h.y1) := HP2.out.a.cell 20
                  have q21 : Y2.cell? ⟨b, 21, none⟩ = some (.int .i64 h.cx) := HP2.out.a.cell 21
                  have q22 : Y2.cell? ⟨b, 22, none⟩ = some (.int .i64 h.cy) := HP2.out.a.cell 22
                  go_wp2_with fail
                  refine (HE3.out _).mono ?_
                  rintro e Y3 ⟨rfl, hb⟩
                  have HP3 := Lib.hid (HP2.out.step hb)
                  clear hb q17 q18 q19 q20 q21 q22
                  cases b3 with
                  | false =>
                    have hv : Hid (q = false) := by show _ = _; rw [Hq.out]; simp
                    obtain rfl := hv.out
                    clear hv
                    go_wp2_with fail
                    go_meet
                    exact ⟨by first | rfl | simp, HP3.out⟩
                  | true =>
                    have q17 : Y3.cell? ⟨b, 17, none⟩ = some (.int .i64 h.x0) := HP3.out.a.cell 17
                    have q18 : Y3.cell? ⟨b, 18, none⟩ = some (.int .i64 h.y0) := HP3.out.a.cell 18
                    have q19 : Y3.cell? ⟨b, 19, none⟩ = some (.int .i64 h.x1) := HP3.out.a.cell 19
                    have q20 : Y3.cell? ⟨b, 20, none⟩ = some (.int .i64 h.y1) := HP3.out.a.cell 20
                    have q21 : Y3.cell? ⟨b, 21, none⟩ = some (.int .i64 h.cx) := HP3.out.a.cell 21
                    have q22 : Y3.cell? ⟨b, 22, none⟩ = some (.int .i64 h.cy) := HP3.out.a.cell 22
                    by_cases g1 : h.x1 < h.x0
                    · have d1 : decide (h.x1 < h.x0) = true := decide_eq_true g1
                      have hv : Hid (q = false) := by show _ = _; rw [Hq.out, decide_eq_false (show ¬ h.x0 ≤ h.x1 by omega)]; simp
                      obtain rfl := hv.out
                      clear hv
                      go_wp2_with fail
                      go_meet
                      exact ⟨by first | rfl | simp, HP3.out⟩
                    · have d1 : decide (h.x1 < h.x0) = false := decide_eq_false g1
                      by_cases g2 : h.y1 < h.y0
                      · have d2 : decide (h.y1 < h.y0) = true := decide_eq_true g2
                        have hv : Hid (q = false) := by show _ = _; rw [Hq.out, decide_eq_false (show ¬ h.y0 ≤ h.y1 by omega)]; simp
                        obtain rfl := hv.out
                        clear hv
                        go_wp2_with fail
                        go_meet
                        exact ⟨by first | rfl | simp, HP3.out⟩
                      · have d2 : decide (h.y1 < h.y0) = false := decide_eq_false g2
                        have hv : Hid (q = true) := by show _ = _; rw [Hq.out, decide_eq_true (show h.x0 ≤ h.x1 by omega), decide_eq_true (show h.y0 ≤ h.y1 by omega)]; rfl
                        obtain rfl := hv.out
                        clear hv
                        go_wp2_with fail
                        go_meet
                        exact ⟨by first | rfl | simp, HP3.out⟩
          case rest =>
            obtain ⟨rfl, HO3⟩ := hcut
            clear HO2 Hq HE1 HE2 HE3
            cases q with
            | false =>
              have hr2 : Hid (r = 3) := by show _ = _; rw [Hr.out]; rfl
              go_wp2_with fail
              go_ret
              exact ⟨by rw [hr2.out]; rfl, HO3.out.k⟩
            | true =>
              obtain ⟨sz, hsz0⟩ : ∃ s, s = n.toNat := ⟨_, rfl⟩
              have hsz : sz < 18446744073709551616 := by omega
              have hr3 : Hid (r = if partsD h sz 0 = true then 0 else 8) := by show _ = _; rw [Hr.out, hsz0]; rfl
              have Hsz0 := Lib.hid hsz0
              clear Hr hsz0
              obtain ⟨cn, hcn⟩ : ∃ c, c = decide (0 < n) := ⟨_, rfl⟩
              have Hcn := Lib.hid hcn
              clear hcn
              go_upto_region 8 with (fail)
              obtain ⟨w0, hw0⟩ : ∃ z, z = wc := ⟨_, rfl⟩
              go_cut [88, 89] (fun x88 x89 W => x89 = .bool cn ∧ w0 = W)
              case first =>
                as_aux_lemma =>
                  go_wp2_with fail
                  go_meet
                  exact ⟨by rw [Hcn.out], hw0⟩
              case rest =>
                obtain ⟨rfl, rfl⟩ := hcut
                subst hw0
                go_upto_if 89 with (fail)
                obtain ⟨w0, hw0⟩ : ∃ z, z = w0 := ⟨_, rfl⟩
                go_cut [5, 90, 91] (fun x5 x90 x91 W => x5 = .int .u64 (sz : Int) ∧ w0 = W)
                case first =>
                  as_aux_lemma =>
                    cases cn with
                    | true =>
                      have h0 := of_decide_eq_true Hcn.out.symm
                      have hu : Hid (IntKind.u64.wrap n = (sz : Int)) := by show _ = _; rw [IntKind.wrap_u64, Hsz0.out]; omega
                      have hn2 : Hid (n = (sz : Int)) := by show _ = _; rw [Hsz0.out]; omega
                      go_wp2_with fail
                      go_meet
                      exact ⟨by first | rw [hu.out] | rw [hn2.out] | exact congrArg (Value.int .u64) hn2.out, hw0⟩
                    | false =>
                      have h0 := of_decide_eq_false Hcn.out.symm
                      have hu : Hid ((0 : Int) = (sz : Int)) := by show _ = _; rw [Hsz0.out]; omega
                      go_wp2_with fail
                      go_meet
                      exact ⟨congrArg (Value.int .u64) hu.out, hw0⟩
                case rest =>
                  obtain ⟨rfl, rfl⟩ := hcut
                  subst hw0
                  clear Hsz0 Hcn
                  obtain ⟨q, hq⟩ : ∃ q, q = partsD h sz 0 := ⟨_, rfl⟩
                  rw [← hq] at hr3
                  unfold partsD at hq
                  have HW1 := Lib.hid fun W => rwithin_any h.r0 h.r1 sz hsz W
                  have HW2 := Lib.hid fun W => rwithin_any h.m0 h.m1 sz hsz W
                  have HW3 := Lib.hid fun W => rwithin_any h.l0 h.l1 sz hsz W
                  have HW4 := Lib.hid fun W => rwithin_any h.d0 h.d1 sz hsz W
                  obtain ⟨b1, hb1⟩ : ∃ b, b = withinD h.r0 h.r1 sz := ⟨_, rfl⟩
                  obtain ⟨b2, hb2⟩ : ∃ b, b = withinD h.m0 h.m1 sz := ⟨_, rfl⟩
                  obtain ⟨b3, hb3⟩ : ∃ b, b = withinD h.l0 h.l1 sz := ⟨_, rfl⟩
                  obtain ⟨b4, hb4⟩ : ∃ b, b = withinD h.d0 h.d1 sz := ⟨_, rfl⟩
                  rw [← hb1] at HW1 hq
                  rw [← hb2] at HW2 hq
                  rw [← hb3] at HW3 hq
                  rw [← hb4] at HW4 hq
                  have Hq := Lib.hid hq
                  clear hq hb1 hb2 hb3 hb4
                  go_upto_region 10 with (fail)
                  go_cut [92, 93, 94, 95, 96, 97, 98, 99, 100, 101, 102, 103, 104, 105, 106, 107, 108, 109, 110, 111, 112, 113, 114, 115, 116, 117, 118, 119, 120, 121, 122, 123, 124, 125, 126, 127, 128, 129, 130, 131, 132, 133] (fun x92 x93 x94 x95 x96 x97 x98 x99 x100 x101 x102 x103 x104 x105 x106 x107 x108 x109 x110 x111 x112 x113 x114 x115 x116 x117 x118 x119 x120 x121 x122 x123 x124 x125 x126 x127 x128 x129 x130 x131 x132 x133 W => x133 = .bool (!q) ∧ Hid (One w b h.cells W))
                  case first =>
                    as_aux_lemma =>
                      have q0 : w0.cell? ⟨b, 0, none⟩ = some (.int .u64 (h.r0 : Int)) := HO3.out.a.cell 0
                      have q1 : w0.cell? ⟨b, 1, none⟩ = some (.int .u64 (h.r1 : Int)) := HO3.out.a.cell 1
                      go_wp2_with fail
                      refine (HW1.out _).mono ?_
                      rintro e Y ⟨rfl, rfl⟩
                      clear q0 q1
                      cases b1 with
                      | false =>
                        have hv : Hid (q = false) := by show _ = _; rw [Hq.out]; simp
                        obtain rfl := hv.out
                        clear hv
                        go_wp2_with fail
                        go_meet
                        exact ⟨by first | rfl | simp, HO3.out⟩
                      | true =>
                        have q2 : w0.cell? ⟨b, 2, none⟩ = some (.int .u64 (h.m0 : Int)) := HO3.out.a.cell 2
                        have q3 : w0.cell? ⟨b, 3, none⟩ = some (.int .u64 (h.m1 : Int)) := HO3.out.a.cell 3
                        go_wp2_with fail
                        refine (HW2.out _).mono ?_
                        rintro e Y ⟨rfl, rfl⟩
                        clear q2 q3
                        cases b2 with
                        | false =>
                          have hv : Hid (q = false) := by show _ = _; rw [Hq.out]; simp
                          obtain rfl := hv.out
                          clear hv
                          go_wp2_with fail
                          go_meet
                          exact ⟨by first | rfl | simp, HO3.out⟩
                        | true =>
                          have q4 : w0.cell? ⟨b, 4, none⟩ = some (.int .u64 (h.l0 : Int)) := HO3.out.a.cell 4
                          have q5 : w0.cell? ⟨b, 5, none⟩ = some (.int .u64 (h.l1 : Int)) := HO3.out.a.cell 5
                          go_wp2_with fail
                          refine (HW3.out _).mono ?_
                          rintro e Y ⟨rfl, rfl⟩
                          clear q4 q5
                          cases b3 with
                          | false =>
                            have hv : Hid (q = false) := by show _ = _; rw [Hq.out]; simp
                            obtain rfl := hv.out
                            clear hv
                            go_wp2_with fail
                            go_meet
                            exact ⟨by first | rfl | simp, HO3.out⟩
                          | true =>
                            have q6 : w0.cell? ⟨b, 6, none⟩ = some (.int .u64 (h.d0 : Int)) := HO3.out.a.cell 6
                            have q7 : w0.cell? ⟨b, 7, none⟩ = some (.int .u64 (h.d1 : Int)) := HO3.out.a.cell 7
                            go_wp2_with fail
                            refine (HW4.out _).mono ?_
                            rintro e Y ⟨rfl, rfl⟩
                            clear q6 q7
                            cases b4 with
                            | false =>
                              have hv : Hid (q = false) := by show _ = _; rw [Hq.out]; simp
                              obtain rfl := hv.out
                              clear hv
                              go_wp2_with fail
                              go_meet
                              exact ⟨by first | rfl | simp, HO3.out⟩
                            | true =>
                              have hv : Hid (q = true) := by show _ = _; rw [Hq.out]; simp
                              obtain rfl := hv.out
                              clear hv
                              go_wp2_with fail
                              go_meet
                              exact ⟨by first | rfl | simp, HO3.out⟩
                  case rest =>
                    obtain ⟨rfl, HO4⟩ := hcut
                    clear HO3 Hq HW1 HW2 HW3 HW4
                    cases q with
                    | false =>
                      have hr4 : Hid (r = 8) := by show _ = _; rw [hr3.out]; rfl
                      go_wp2_with fail
                      go_ret
                      exact ⟨by rw [hr4.out]; rfl, HO4.out.k⟩
                    | true =>
                      have hr4 : Hid (r = 0) := by show _ = _; rw [hr3.out]; rfl
                      go_wp2_with fail
                      go_ret
                      exact ⟨by rw [hr4.out]; rfl, HO4.out.k⟩
end Go.Proofs.Ytlbplefmpbpchaa
