/- Layer 16: what Order calls. -/
import Derived.Test.YtdbcklabinmgfaaDoorDec6
import Derived.Lib.Walk
import Derived.Lib.Bytealg
namespace Go.Proofs.YtdbcklabinmgfaaDoor
open Go.RowKit
set_option linter.unusedVariables false
set_option maxRecDepth 100000

def cmpS (s t : ByteArray) : Int := Lib.compareBytes s.data.toList t.data.toList
theorem cmpS_bs (s t : ByteArray) : cmpS s t = cbN (bs s) (bs t) := by
  have : ∀ a b : List UInt8, Lib.compareBytes a b = cbN (a.map UInt8.toNat) (b.map UInt8.toNat) := by
    intro a
    induction a with
    | nil => intro b; cases b <;> rfl
    | cons x l ih =>
      intro b
      cases b with
      | nil => rfl
      | cons y m =>
        unfold Lib.compareBytes
        simp only [UInt8.lt_iff_toNat_lt]
        show _ = (if x.toNat < y.toNat then -1 else if y.toNat < x.toNat then 1 else cbN (l.map UInt8.toNat) (m.map UInt8.toNat))
        rw [← ih m]
  exact this _ _
theorem isNaN_int (a : Int) (w : World) : Calls Tryd.prog 61 #[.int .i64 a] w fun e w' => e = .returned (.bool false) ∧ w = w' := by
  go_enter Tryd.func61, Tryd.ntmps61
  go_wp2_with fail
  go_ret
  exact ⟨rfl, rfl⟩
theorem cmp_int (a b : Int) (w : World) : Calls Tryd.prog 38 #[.int .i64 a, .int .i64 b] w fun e w' => e = .returned (.int .i64 (cmpZ a b)) ∧ w = w' := by
  have HA := Lib.hid fun W => isNaN_int a W
  have HB := Lib.hid fun W => isNaN_int b W
  unfold cmpZ
  by_cases h1 : a < b
  · rw [if_pos h1]
    go_enter Tryd.func38, Tryd.ntmps38
    go_wp2_with fail
    refine (HA.out _).mono ?_
    rintro e X ⟨rfl, rfl⟩
    go_wp2_with fail
    refine (HB.out _).mono ?_
    rintro e X ⟨rfl, rfl⟩
    go_wp2_with fail
    go_ret
    exact ⟨rfl, rfl⟩
  · rw [if_neg h1]
    by_cases h2 : b < a
    · rw [if_pos h2]
      go_enter Tryd.func38, Tryd.ntmps38
      go_wp2_with fail
      refine (HA.out _).mono ?_
      rintro e X ⟨rfl, rfl⟩
      go_wp2_with fail
      refine (HB.out _).mono ?_
      rintro e X ⟨rfl, rfl⟩
      go_wp2_with fail
      go_ret
      exact ⟨rfl, rfl⟩
    · rw [if_neg h2]
      go_enter Tryd.func38, Tryd.ntmps38
      go_wp2_with fail
      refine (HA.out _).mono ?_
      rintro e X ⟨rfl, rfl⟩
      go_wp2_with fail
      refine (HB.out _).mono ?_
      rintro e X ⟨rfl, rfl⟩
      go_wp2_with fail
      go_ret
      exact ⟨rfl, rfl⟩
theorem cmpString_any (a b : ByteArray) (w : World) : Calls Tryd.prog 62 #[.string a, .string b] w fun e w' => e = .returned (.int .i64 (cbN (bs a) (bs b))) ∧ w = w' := by
  go_enter Tryd.func62, Tryd.ntmps62
  go_wp2
  rw [run_callFunc_extern Tryd.func75 (by kernel_rfl) (by kernel_rfl) (by kernel_rfl) (e := Extern.BytealgCompare.compare) (by kernel_rfl), Lib.run_compareString]
  simp only [Result.andThen]
  rw [Oper.upon_value]
  go_wp2
  go_ret
  exact ⟨by rw [← cmpS_bs]; rfl, rfl⟩
theorem strCompare_any (a b : ByteArray) (w : World) : Calls Tryd.prog 40 #[.string a, .string b] w fun e w' => e = .returned (.int .i64 (cbN (bs a) (bs b))) ∧ w = w' := by
  have HA := Lib.hid fun W => cmpString_any a b W
  go_enter Tryd.func40, Tryd.ntmps40
  go_wp2_with fail
  refine (HA.out _).mono ?_
  rintro e X ⟨rfl, rfl⟩
  go_wp2_with fail
  go_ret
  exact ⟨rfl, rfl⟩
set_option maxHeartbeats 4000000 in
theorem or2_any (a b : Int) (g : Nat) (w : World) (h0 : w.cell? ⟨g, 0, none⟩ = some (.int .i64 a)) (h1 : w.cell? ⟨g, 1, none⟩ = some (.int .i64 b)) :
    Calls Tryd.prog 39 #[.slice (some ⟨g, 0, none⟩) 2 2] w fun e w' => e = .returned (.int .i64 (orZ a b)) ∧ w = w' := by
  go_enter Tryd.func39, Tryd.ntmps39
  go_wp2_with fail
  go_loop [8] (fun i => ∃ k : Nat, i = .int .i64 (k : Int) ∧ k ≤ 2 ∧ Hid ((1 ≤ k → a = 0) ∧ (2 ≤ k → b = 0))) (fun i => 2 - (intOf i).toNat)
  case atStart => exact ⟨0, rfl, by omega, fun h => by omega, fun h => by omega⟩
  case round =>
    obtain ⟨k, rfl, hk, HZ⟩ := hrel
    rcases k with _ | _ | _ | k
    · by_cases hz : a = 0
      · subst hz
        go_wp2_with fail
        go_round
        case rel => exact ⟨1, rfl, by omega, fun _ => (by trivial), fun h => by omega⟩
        case measure => simp [intOf]
      · have hz2 : (a == 0) = false := by simpa using hz
        have HE : Hid (orZ a b = a) := by unfold Hid orZ; rw [if_pos hz]
        go_wp2_with fail
        go_ret
        exact ⟨by rw [HE.out]; rfl, rfl⟩
    · have ha := HZ.out.1 (by omega)
      have HE : Hid (orZ a b = b) := by unfold Hid orZ; rw [if_neg (by simp [ha])]
      by_cases hz : b = 0
      · subst hz
        have Ha := Lib.hid ha
        clear ha
        go_wp2_with fail
        go_round
        case rel => exact ⟨2, rfl, by omega, fun _ => Ha.out, fun _ => (by trivial)⟩
        case measure => simp [intOf]
      · have hz2 : (b == 0) = false := by simpa using hz
        clear ha
        go_wp2_with fail
        go_ret
        exact ⟨by rw [HE.out]; rfl, rfl⟩
    · have ha := HZ.out.1 (by omega)
      have hb := HZ.out.2 (by omega)
      have HE : Hid (orZ a b = 0) := by unfold Hid orZ; rw [if_neg (by simp [ha]), hb]
      clear ha hb h0 h1
      go_wp2_with fail
      go_ret
      exact ⟨by rw [HE.out]; rfl, rfl⟩
    · omega
theorem sign_any (ng : Bool) (ds : ByteArray) (x : Int) (w : World) :
    Calls Tryd.prog 37 #[.agg #[.bool ng, .string ds, .int .i64 x]] w fun e w' => e = .returned (.int .i64 (signD (ng, bs ds, x))) ∧ Below w.heap.size w w' := by
  have HB := Lib.hid ((Below.refl w.heap.size w).alloc (Nat.le_refl _) (.cells #[.bool ng, .string ds, .int .i64 x] 24))
  by_cases hd : ds.size = 0
  · have HE : Hid (signD (ng, bs ds, x) = 0) := by show _ = _; rw [bs_zero hd]; rfl
    obtain rfl := byteArray_zero hd
    clear hd
    go_enter Tryd.func37, Tryd.ntmps37
    go_wp2_with fail
    go_ret
    exact ⟨by rw [HE.out]; rfl, HB.out⟩
  · have hne : ds ≠ ⟨#[]⟩ := fun e => hd (by rw [e]; rfl)
    have n1 := str_beq hne
    have n2 := str_nil hne
    have n3 := str_isEmpty hne
    have hb : bs ds ≠ [] := bs_pos (by omega)
    cases ng with
    | true =>
      have HE : Hid (signD (true, bs ds, x) = -1) := by show _ = _; unfold signD; rw [if_neg hb]; rfl
      clear hd hne hb
      go_enter Tryd.func37, Tryd.ntmps37
      go_wp2_with fail
      go_ret
      exact ⟨by rw [HE.out]; rfl, HB.out⟩
    | false =>
      have HE : Hid (signD (false, bs ds, x) = 1) := by show _ = _; unfold signD; rw [if_neg hb]; rfl
      clear hd hne hb
      go_enter Tryd.func37, Tryd.ntmps37
      go_wp2_with fail
      go_ret
      exact ⟨by rw [HE.out]; rfl, HB.out⟩
theorem point_any (ng : Bool) (ds : ByteArray) (x : Int) (w : World) (hs : ds.size ≤ 1000000) (hx : -1000000 ≤ x ∧ x ≤ 1000000) :
    Calls Tryd.prog 29 #[.agg #[.bool ng, .string ds, .int .i64 x]] w fun e w' => e = .returned (.int .i64 (pointD (ng, bs ds, x))) ∧ Below w.heap.size w w' := by
  have HB := Lib.hid ((Below.refl w.heap.size w).alloc (Nat.le_refl _) (.cells #[.bool ng, .string ds, .int .i64 x] 24))
  have HE : Hid (pointD (ng, bs ds, x) = (ds.size : Int) + x) := by show _ = _; unfold pointD; simp only; rw [bs_length]
  have hw : wrap64 ((ds.size : Int) + x) = (ds.size : Int) + x := IntWalk.wrap64_in _ ⟨by omega, by omega⟩
  go_enter Tryd.func29, Tryd.ntmps29
  go_wp2_with fail
  go_ret
  exact ⟨by rw [HE.out]; rfl, HB.out⟩
theorem at_any (ng : Bool) (ds : ByteArray) (x p : Int) (w : World) (hs : ds.size ≤ 1000000) (hx : -1000000 ≤ x ∧ x ≤ 1000000) (hp : -1000000 ≤ p ∧ p ≤ 1000000) :
    Calls Tryd.prog 31 #[.agg #[.bool ng, .string ds, .int .i64 x], .int .i64 p] w fun e w' => e = .returned (.int .i64 (dg (bs ds) x p)) ∧ Below w.heap.size w w' := by
  obtain ⟨X0, hX0⟩ : ∃ X0, X0 = w.alloc (.cells #[.bool ng, .string ds, .int .i64 x] 24) := ⟨_, rfl⟩
  obtain ⟨b, hb⟩ : ∃ b, b = w.heap.size := ⟨_, rfl⟩
  have hO : Whole X0 b 24 #[.bool ng, .string ds, .int .i64 x] := by rw [hX0, hb]; exact Whole.new w _ _
  have hB : Below w.heap.size w X0 := by rw [hX0]; exact (Below.refl _ _).alloc (Nat.le_refl _) _
  have HX0 := Lib.hid hX0
  have Hb := Lib.hid hb
  have HB := Lib.hid hB
  have e1 : X0.cell? ⟨b, 1, none⟩ = some (.string ds) := hO.cell 1
  have e2 : X0.cell? ⟨b, 2, none⟩ = some (.int .i64 x) := hO.cell 2
  clear hX0 hb hO hB
  have w1 : wrap64 ((ds.size : Int) - 1) = (ds.size : Int) - 1 := IntWalk.wrap64_in _ ⟨by omega, by omega⟩
  have w2 : wrap64 (p - x) = p - x := IntWalk.wrap64_in _ ⟨by omega, by omega⟩
  have w3 : wrap64 ((ds.size : Int) - 1 - (p - x)) = (ds.size : Int) - 1 - (p - x) := IntWalk.wrap64_in _ ⟨by omega, by omega⟩
  obtain ⟨i, hi⟩ : ∃ i, i = (ds.size : Int) - 1 - (p - x) := ⟨_, rfl⟩
  obtain ⟨V, hV⟩ : ∃ V, V = dg (bs ds) x p := ⟨_, rfl⟩
  rw [← hV]
  unfold dg at hV
  rw [bs_length, ← hi] at hV
  have Hi := Lib.hid hi
  clear hi
  go_enter Tryd.func31, Tryd.ntmps31
  go_upto_region 1 with (fail)
  rw [← HX0.out, ← Hb.out]
  clear HX0 Hb
  go_cut [5, 6, 7, 8, 9, 10, 11, 12, 13, 14] (fun x5 x6 x7 x8 x9 x10 x11 x12 x13 x14 W => x5 = .int .i64 i ∧ X0 = W)
  case first =>
    as_aux_lemma =>
      go_wp2_with fail
      go_meet
      exact ⟨by rw [Hi.out], rfl⟩
  case rest =>
  obtain ⟨rfl, rfl⟩ := hcut
  clear w1 w2 w3 Hi
  by_cases h1 : i < 0
  · have d1 : decide (i < 0) = true := decide_eq_true h1
    rw [if_neg (by omega)] at hV
    have HE := Lib.hid hV
    clear hV h1
    go_wp2_with fail
    go_ret
    exact ⟨by rw [HE.out]; rfl, HB.out⟩
  · have d1 : decide (i < 0) = false := decide_eq_false h1
    by_cases h2 : (ds.size : Int) ≤ i
    · have d2 : decide ((ds.size : Int) ≤ i) = true := decide_eq_true h2
      rw [if_neg (by omega)] at hV
      have HE := Lib.hid hV
      clear hV h1 h2
      go_wp2_with fail
      go_ret
      exact ⟨by rw [HE.out]; rfl, HB.out⟩
    · have d2 : decide ((ds.size : Int) ≤ i) = false := decide_eq_false h2
      obtain ⟨k, rfl⟩ : ∃ k : Nat, i = (k : Int) := ⟨i.toNat, by omega⟩
      have hk : k < ds.size := by omega
      have k0 : (0 : Int) ≤ (k : Int) := by omega
      have k1 : (k : Int) < (ds.size : Int) := by omega
      obtain ⟨c, hc⟩ : ∃ c, (ds[k]'hk).toNat = c := ⟨_, rfl⟩
      rw [if_pos ⟨k0, k1⟩, Int.toNat_natCast, ← bs_get ds k hk, hc] at hV
      have c8 : c < 256 := by rw [← hc]; exact (ds[k]'hk).toNat_lt
      have w4 : wrap64 ((c : Int) - 48) = (c : Int) - 48 := IntWalk.wrap64_in _ ⟨by omega, by omega⟩
      have HE := Lib.hid hV
      clear hV h1 h2
      go_wp2_with fail
      go_ret
      exact ⟨by rw [HE.out]; rfl, HB.out⟩
end Go.Proofs.YtdbcklabinmgfaaDoor
