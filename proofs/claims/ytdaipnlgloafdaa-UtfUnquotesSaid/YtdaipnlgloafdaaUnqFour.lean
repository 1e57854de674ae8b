/- Walks over layer 15: four digits, whatever stands there. -/
import Derived.Test.YtdaipnlgloafdaaUnqPt
import Derived.Test.YtdaipnlgloafdaaRunes
namespace Go.Proofs.Ytdaipnlgloafdaa
open Go.RowKit Utf
set_option linter.unusedVariables false
set_option maxRecDepth 100000

/-- What digits from a place on spell, and the error. -/
def fourE (l : List Nat) : Nat → Nat → Int → Int × Int
  | 0, _, m => (m, 0)
  | f + 1, k, m => if k < l.length then (if hexN (l.getD k 0) < 0 then (0, 3) else fourE l f (k + 1) (16 * m + hexN (l.getD k 0))) else (0, 2)
theorem hexN_ge (c : Nat) : -1 ≤ hexN c := by
  unfold hexN
  repeat' split
  all_goals omega

def EndPost (w : World) (g : Nat) (b : ByteArray) (k : Nat) (v : Value) (l : List Nat) (e : Ending) (w' : World) : Prop :=
  e = .returned (.tuple #[.int .u8 0, .int .i64 2]) ∧ Rdr w' g b k v l ∧ Only (fun k => k = g) w w'
set_option maxHeartbeats 2000000 in
theorem next_end (g : Nat) (b : ByteArray) (v : Value) (l : List Nat) (w : World) (h : Rdr w g b b.size v l) :
    Calls Try.prog 25 #[.pointer (some ⟨g, 0, none⟩)] w (EndPost w g b b.size v l) := by
  have c0 : w.cell? ⟨g, 0, none⟩ = some (.string b) := h.1.cell 0
  have c1 : w.cell? ⟨g, 1, none⟩ = some (.int .i64 (b.size : Int)) := h.1.cell 1
  have H := Lib.hid h
  clear h
  go_enter Try.func25, Try.ntmps25
  go_wp2_with fail
  go_quiet (fail)
  go_wp2_with fail
  go_ret2
  exact ⟨rfl, H.out.drawn _, (Only.refl (fun k => k = g) w).drewN _⟩

def FourPost (w : World) (g : Nat) (b : ByteArray) (k : Nat) (v : Value) (l : List Nat) (R : Int × Int) (e : Ending) (w' : World) : Prop :=
  e = .returned (.tuple #[.int .i64 R.1, .int .i64 R.2]) ∧ (∃ k', Rdr w' g b k' v l ∧ k' ≤ b.size ∧ (R.2 = 0 → k' = k + 4)) ∧ Only (fun k => k = g) w w'

set_option maxHeartbeats 4000000 in
theorem digits_gen (g : Nat) (b : ByteArray) (k : Nat) (v : Value) (l : List Nat) (w : World) (h : Rdr w g b k v l) (hk : k ≤ b.size) (hs : b.size ≤ 1000000000) (R : Int × Int) (hR : fourE (bs b) 4 k 0 = R) :
    Calls Try.prog 29 #[.pointer (some ⟨g, 0, none⟩)] w (FourPost w g b k v l R) := by
  have Hn := Lib.hid fun (W : World) (i : Nat) (hR : Rdr W g b (k + i) v l) (hi : k + i < b.size) => next_any g b (k + i) v l W hR hi hs
  have He := Lib.hid fun (W : World) (hR : Rdr W g b b.size v l) => next_end g b v l W hR
  have Hlen := Lib.hid (bs_length b)
  have H := Lib.hid h
  have HR := Lib.hid hR
  have Hk := Lib.hid hk
  clear h hk hs hR
  go_enter Try.func29, Try.ntmps29
  go_wp2_with fail
  go_loopw [4, 8] (fun n u X => ∃ (i f : Nat) (m : Int), i + f = 4 ∧ u = .int .i64 (i : Int) ∧ n = .int .i64 m ∧ (0 ≤ m ∧ m < 16 ^ i) ∧ Hid (k + i ≤ b.size) ∧ Hid (fourE (bs b) f (k + i) m = R) ∧ Rdr X g b (k + i) v l ∧ Only (fun k => k = g) w X) (fun _ u _ => 4 - (intOf u).toNat)
  case atStart => exact ⟨0, 4, 0, rfl, rfl, rfl, ⟨by omega, by omega⟩, Hk, HR, H.out, Only.refl _ _⟩
  case round =>
    obtain ⟨i, f, m, hif, rfl, rfl, hb, hki, hv, hRd, hO⟩ := hrel
    rcases f with _ | f
    · have hi : i = 4 := by omega
      subst hi
      have e : (m, (0 : Int)) = R := hv.out
      subst e
      have HRd := Lib.hid hRd
      have HO := Lib.hid hO
      clear hRd hO Hn He hb
      go_wp2_with fail
      go_ret2
      exact ⟨rfl, ⟨_, HRd.out, hki.out, fun _ => rfl⟩, HO.out⟩
    · have hlt : i < 4 := by omega
      have e := hv.out
      simp only [fourE] at e
      have HO := Lib.hid hO
      by_cases hin : k + i < b.size
      · rw [if_pos (by have := Hlen.out; omega)] at e
        have hn := Lib.hid (Hn.out _ i hRd hin)
        have h1 := hexN_lt ((bs b).getD (k + i) 0)
        have hc8 := get_lt b (k + i)
        obtain ⟨c, hcc⟩ : ∃ c, Hid ((bs b).getD (k + i) 0 = c) := ⟨_, rfl⟩
        obtain ⟨d, hdd⟩ : ∃ d, Hid (hexN ((bs b).getD (k + i) 0) = d) := ⟨_, rfl⟩
        rw [hdd.out] at h1 e
        rw [hcc.out] at hc8 hdd
        have Hx : Hid (∀ X, Calls Try.prog 9 #[.int .u8 (c : Int)] X fun e w' => e = .returned (.int .i64 d) ∧ X = w') := fun X => by rw [← hdd.out]; exact hex_any c X hc8
        have Hin := Lib.hid hin
        by_cases h0 : d < 0
        · rw [if_pos h0] at e
          subst e
          have hd0 : decide (d < 0) = true := decide_eq_true h0
          clear hb h1 hRd hO Hn He hdd hin hv HR
          go_wp2_with fail
          refine hn.out.mono ?_
          rintro e X ⟨rfl, hR2, hO3⟩
          have HR2 := Lib.hid hR2
          have HO4 : Hid (Only (fun k => k = g) w X) := HO.out.trans hO3 (fun _ _ h => h)
          clear hR2 hO3 hn
          rw [hcc.out]
          go_wp2_with fail
          refine (Hx.out X).mono ?_
          rintro e Y ⟨rfl, rfl⟩
          go_wp2_with fail
          go_ret2
          exact ⟨rfl, ⟨_, HR2.out, Hin.out, fun h => by cases h⟩, HO4.out⟩
        · rw [if_neg h0] at e
          have h2 : (16 : Int) ^ (i + 1) = 16 * 16 ^ i := by rw [Int.pow_succ, Int.mul_comm]
          have h3 : (16 : Int) ^ (i + 1) ≤ 65536 := by
            have : ∀ i, i < 4 → (16 : Int) ^ (i + 1) ≤ 65536 := by decide
            exact this i hlt
          have hb2 : 0 ≤ 16 * m + d ∧ 16 * m + d < 16 ^ (i + 1) := by omega
          have HB := Lib.hid hb2
          have HE := Lib.hid e
          have hm0 : 0 ≤ m := hb.1
          have hm1 : m < 4096 := by omega
          have hd0 : decide (d < 0) = false := decide_eq_false h0
          have hw1 : IntKind.i64.wrap (16 * m) = 16 * m := IntWalk.i64_in _ ⟨by omega, by omega⟩
          have hw2 : IntKind.i64.wrap (16 * m + d) = 16 * m + d := IntWalk.i64_in _ ⟨by omega, by omega⟩
          clear e hb hb2 h0 h1 h2 h3 hRd hO Hn He hdd hin hv HR
          go_wp2_with fail
          refine hn.out.mono ?_
          rintro e X ⟨rfl, hR2, hO3⟩
          have HR2 := Lib.hid hR2
          have HO4 : Hid (Only (fun k => k = g) w X) := HO.out.trans hO3 (fun _ _ h => h)
          clear hR2 hO3 hn
          rw [hcc.out]
          go_wp2_with fail
          refine (Hx.out X).mono ?_
          rintro e Y ⟨rfl, rfl⟩
          go_wp2_with fail
          go_roundw
          case rel => exact ⟨i + 1, f, _, by omega, by go_num, rfl, HB.out, Lib.hid (by have := Hin.out; omega), HE, by have := HR2.out; rwa [Nat.add_assoc] at this, HO4.out⟩
          case measure => simp [intOf] <;> omega
      · rw [if_neg (by have := Hlen.out; omega)] at e
        subst e
        have hk2 : k + i = b.size := by have := hki.out; omega
        rw [hk2] at hRd
        have hn := Lib.hid (He.out _ hRd)
        clear hb hRd hO Hn He hin hv HR hk2
        go_wp2_with fail
        refine hn.out.mono ?_
        rintro e X ⟨rfl, hR2, hO3⟩
        have HR2 := Lib.hid hR2
        have HO4 : Hid (Only (fun k => k = g) w X) := HO.out.trans hO3 (fun _ _ h => h)
        clear hR2 hO3 hn
        go_wp2_with fail
        go_ret2
        exact ⟨rfl, ⟨_, HR2.out, Nat.le_refl _, fun h => by cases h⟩, HO4.out⟩
end Go.Proofs.Ytdaipnlgloafdaa
