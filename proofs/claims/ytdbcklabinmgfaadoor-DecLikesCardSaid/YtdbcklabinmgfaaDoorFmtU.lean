/- Layer 16: strconv.FormatUint at base 10. -/
import Derived.Test.YtdbcklabinmgfaaDoorDecTextsW
namespace Go.Proofs.YtdbcklabinmgfaaDoor
open Go.RowKit Go.Shelf Go.Sort
set_option linter.unusedVariables false
set_option maxRecDepth 100000

shelf_lay Lays.n283 Nm 283 at Tryd as Tryd.laysSmall
shelf_lay LaysM.n284 Nm 284 at Tryd as Tryd.laysNumDigits
shelf_lay Lays.n285 Nm 285 at Tryd as Tryd.laysFmt10
abbrev u8v : UInt8 → Value := fun b => Value.int .u8 (b.toNat : Int)
set_option maxHeartbeats 8000000 in
theorem fmtuIn_any (u : Nat) (hu : u < 18446744073709551616) (w : World) (ht : Tab w) :
    Calls Tryd.prog 63 #[.int .u64 (u : Int), .int .i64 10] w fun e w' => e = .returned (.string ⟨(Lib.decDigits u).toArray⟩) ∧ Below w.heap.size w w' := by
  by_cases h100 : u < 100
  · have d1 : decide ((u : Int) < 100) = true := decide_eq_true (by omega)
    have HS := Lib.hid fun W => Any.internal_strconv_small Tryd.laysSmall u h100 W
    have hw : wrap64 (u : Int) = (u : Int) := IntWalk.wrap64_in _ ⟨by omega, by omega⟩
    go_enter Tryd.func63, Tryd.ntmps63
    go_wp2_with fail
    refine (HS.out _).mono ?_
    rintro e X ⟨rfl, rfl⟩
    go_wp2_with fail
    go_ret
    exact ⟨rfl, Below.refl _ _⟩
  · have d1 : decide ((u : Int) < 100) = false := decide_eq_false (by omega)
    obtain ⟨nd, hnd⟩ : ∃ n, n = Lib.nDigits u := ⟨_, rfl⟩
    have hnd21 : nd ≤ 21 := by
      have h20 : (10 : Nat) ^ 20 = 100000000000000000000 := by decide
      rw [hnd]
      exact nDigits_le u 20 (by omega)
    have HN := Lib.hid fun W (hW : Tab W) => Any.internal_strconv_numDigits Tryd.laysNumDigits u (by omega) hu W hW
    rw [← hnd] at HN
    go_enter Tryd.func63, Tryd.ntmps63
    go_upto_region 5 with (fail)
    show Code.wp _ _ _ _ (w.alloc (.cells Lib.zeros24 97))
    obtain ⟨g, hg⟩ : ∃ g, g = w.heap.size := ⟨_, rfl⟩
    obtain ⟨X0, hX0⟩ : ∃ X0, X0 = w.alloc (.cells Lib.zeros24 97) := ⟨_, rfl⟩
    have hT0 : Tab X0 := by rw [hX0]; exact Lib.tabIs_alloc ht _
    have hH0 : Holds u8v X0 g 0 (Array.replicate nd (0 : UInt8)) := by rw [hX0, hg]; exact Lib.holds_zero0 w _ nd (by omega)
    have hfmt := Any.internal_strconv_formatBase10 Tryd.laysFmt10 g 0 24 u (Array.replicate nd 0) X0 hH0 (by rw [Array.size_replicate, hnd]; exact Lib.lt_pow_nDigits u) hu (by rw [Array.size_replicate]; omega)
    rw [Array.size_replicate] at hfmt
    have hfin : ∀ (dk : Array UInt8) (k : Nat), Below w.heap.size w ((putRow u8v X0 g 0 dk).drewN k) := fun dk k => by
      rw [hX0, hg]
      obtain ⟨os, e⟩ := Lib.fin_at w (.cells Lib.zeros24 97) dk k 0
      rw [e]
      exact Lib.below_grow _ _ (Nat.le_refl _) _ _
    have hdl : (Lib.decDigits u).length = nd := by rw [Lib.decDigits_length, hnd]
    rw [← hX0, ← hg]
    have Hfmt := Lib.hid hfmt
    have Hfin := Lib.hid hfin
    have HH0 := Lib.hid hH0
    have HT0 := Lib.hid hT0
    have Hnd := Lib.hid hnd
    have Hdl := Lib.hid hdl
    have hsl0 : (0 : Int) ≤ (nd : Int) := by omega
    have hsl1 : (nd : Int) ≤ 24 := by omega
    clear hX0 hg hT0 hH0 hfmt hfin hdl hnd
    go_wp2_with fail
    refine (HN.out _ HT0.out).mono ?_
    rintro e X ⟨rfl, hX⟩
    obtain rfl := hX.symm
    go_upto_region 6 with (fail)
    go_wp2_with fail
    refine Hfmt.out.mono ?_
    rintro e W1 ⟨rfl, k, v', dk, rfl, hF⟩
    have hsz := hF.size
    have hcv : ∀ src dst : TypeId, Tryd.prog.underlying src = some (.slice 5) → Tryd.prog.underlying dst = some .string → (convert src dst (.slice (some ⟨g, 0, none⟩) nd 24)).run Tryd.prog ((putRow u8v X0 g 0 dk).drewN k) = .ok (.string ⟨(Lib.decDigits u).toArray⟩) ((putRow u8v X0 g 0 dk).drewN k) := fun src dst hs hd => by
      have h := run_convert_bytes_back (P := Tryd.prog) ((putRow u8v X0 g 0 dk).drewN k) src dst 5 ⟨g, 0, none⟩ 24 (Lib.decDigits u) hs Tryd.underlying5 hd (fun j hj => by
        have hj2 : j < nd := by rw [Hdl.out] at hj; exact hj
        rw [Hnd.out] at hF
        rw [Lib.row_is_numeral hF j hj, Lib.add_plain, World.cell?_drewN]
        exact cell?_putRow u8v _ g 0 _ dk HH0.out (by rw [hsz, Array.size_replicate]) j (by rw [hsz]; exact hj2))
      rw [Hdl.out] at h
      exact h
    have hcv2 := hcv 78 9 Tryd.underlying78 Tryd.underlying9
    clear hcv hF hsz
    go_upto_region 7 with (fail)
    go_wp2_with fail
    go_ret
    exact ⟨rfl, Hfin.out dk k⟩
theorem fmtu_any (u : Nat) (hu : u < 18446744073709551616) (w : World) (ht : Tab w) :
    Calls Tryd.prog 41 #[.int .u64 (u : Int), .int .i64 10] w fun e w' => e = .returned (.string ⟨(Lib.decDigits u).toArray⟩) ∧ Below w.heap.size w w' := by
  have HF := Lib.hid (fmtuIn_any u hu w ht)
  go_enter Tryd.func41, Tryd.ntmps41
  go_wp2_with fail
  refine HF.out.mono ?_
  rintro e X ⟨rfl, hb⟩
  have HB := Lib.hid hb
  clear hb
  go_wp2_with fail
  go_ret
  exact ⟨rfl, HB.out⟩
end Go.Proofs.YtdbcklabinmgfaaDoor
