/- Walks over layer 15: the reader's next, digits. -/
import Derived.Test.YtdaipnlgloafdaaUtfHex
namespace Go.Proofs.Ytdaipnlgloafdaa
open Go.RowKit Utf
set_option linter.unusedVariables false
set_option maxRecDepth 100000

/-- Block g is a reader of s, at k; what it has decoded is l. -/
def Rdr (w : World) (g : Nat) (s : ByteArray) (k : Nat) (v : Value) (l : List Nat) : Prop := Whole w g 41 #[.string s, .int .i64 (k : Int), v] ∧ Own8 w 0 v l ∧ v.ownBlock ≠ some g
theorem Rdr.drawn {w : World} {g : Nat} {s : ByteArray} {k : Nat} {v : Value} {l : List Nat} (h : Rdr w g s k v l) (n : Nat) : Rdr (w.drewN n) g s k v l := h
theorem Rdr.step {w : World} {g : Nat} {s : ByteArray} {k : Nat} {v : Value} {l : List Nat} (h : Rdr w g s k v l) (q : Nat) (z : Int) (hz : z = (q : Int)) : Rdr (w.setCell ⟨g, 1, none⟩ (.int .i64 z)) g s q v l := by
  subst hz
  have h1 := h.1.set 1 (.int .i64 (q : Int))
  refine ⟨by simpa using h1, h.2.1.only (Only.setCell (S := fun k => k = g) (Only.refl _ _) (fun _ => rfl) _) (fun b hb e => h.2.2 (by rw [hb, e])), h.2.2⟩

def NextPost (w : World) (g : Nat) (s : ByteArray) (k : Nat) (v : Value) (l : List Nat) (e : Ending) (w' : World) : Prop :=
  e = .returned (.tuple #[.int .u8 (((bs s).getD k 0 : Nat) : Int), .int .i64 0]) ∧ Rdr w' g s (k + 1) v l ∧ Only (fun k => k = g) w w'

set_option maxHeartbeats 2000000 in
theorem next_any (g : Nat) (s : ByteArray) (k : Nat) (v : Value) (l : List Nat) (w : World) (h : Rdr w g s k v l) (hk : k < s.size) (hs : s.size ≤ 1000000000) :
    Calls Try.prog 25 #[.pointer (some ⟨g, 0, none⟩)] w (NextPost w g s k v l) := by
  have c0 : w.cell? ⟨g, 0, none⟩ = some (.string s) := h.1.cell 0
  have c1 : w.cell? ⟨g, 1, none⟩ = some (.int .i64 (k : Int)) := h.1.cell 1
  have f1 := h.1.frozen 1
  have hg := bs_get s k hk
  have H := Lib.hid h
  clear h
  unfold NextPost
  generalize (bs s).getD k 0 = c at *
  have hne : ((k : Int) == (s.size : Int)) = false := beq_eq_false_iff_ne.mpr (by omega)
  go_enter Try.func25, Try.ntmps25
  go_wp2_with fail
  go_quiet (fail)
  go_wp2_with fail
  go_quiet (fail)
  go_wp2_with fail
  go_ret2
  refine ⟨rfl, ?_, ?_⟩
  · exact (H.out.drawn _).step (k + 1) _ (by simp)
  · exact ((Only.refl (fun k => k = g) w).drewN _).setCell (fun _ => rfl) _

/-- The number that digits spell. -/
def vn (l : List Nat) (k : Nat) : Nat → Int
  | 0 => 0
  | i + 1 => 16 * vn l k i + hexN (l.getD (k + i) 0)
theorem hexN_lt (c : Nat) : hexN c < 16 := by unfold hexN; repeat' split
                                              all_goals omega

def DigitsPost (w : World) (g : Nat) (s : ByteArray) (k : Nat) (v : Value) (l : List Nat) (e : Ending) (w' : World) : Prop :=
  e = .returned (.tuple #[.int .i64 (vn (bs s) k 4), .int .i64 0]) ∧ Rdr w' g s (k + 4) v l ∧ Only (fun k => k = g) w w'

set_option maxHeartbeats 1000000 in
theorem digits_any (g : Nat) (s : ByteArray) (k : Nat) (v : Value) (l : List Nat) (w : World) (h : Rdr w g s k v l) (hk : k + 4 ≤ s.size) (hs : s.size ≤ 1000000000) (hd : ∀ i, i < 4 → 0 ≤ hexN ((bs s).getD (k + i) 0)) :
    Calls Try.prog 29 #[.pointer (some ⟨g, 0, none⟩)] w (DigitsPost w g s k v l) := by
  have Hn := Lib.hid fun (W : World) (i : Nat) (hR : Rdr W g s (k + i) v l) (hi : i < 4) => next_any g s (k + i) v l W hR (by omega) hs
  have Hd := Lib.hid hd
  have H := Lib.hid h
  clear h hd hk hs
  go_enter Try.func29, Try.ntmps29
  go_wp2_with fail
  go_loopw [4, 8] (fun n u X => ∃ i : Nat, i ≤ 4 ∧ u = .int .i64 (i : Int) ∧ n = .int .i64 (vn (bs s) k i) ∧ (0 ≤ vn (bs s) k i ∧ vn (bs s) k i < 16 ^ i) ∧ Rdr X g s (k + i) v l ∧ Only (fun k => k = g) w X) (fun _ u _ => 4 - (intOf u).toNat)
  case atStart => exact ⟨0, by omega, rfl, rfl, ⟨by simp [vn], by simp [vn]⟩, H.out, Only.refl _ _⟩
  case round =>
    obtain ⟨i, hi, rfl, rfl, hb, hR, hO⟩ := hrel
    by_cases hlt : i < 4
    · have hn := Lib.hid (Hn.out _ i hR hlt)
      have HO := Lib.hid hO
      have h0 := Hd.out i hlt
      have h1 := hexN_lt ((bs s).getD (k + i) 0)
      have hc8 := get_lt s (k + i)
      obtain ⟨c, hcc⟩ : ∃ c, Hid ((bs s).getD (k + i) 0 = c) := ⟨_, rfl⟩
      obtain ⟨d, hdd⟩ : ∃ d, Hid (hexN ((bs s).getD (k + i) 0) = d) := ⟨_, rfl⟩
      rw [hdd.out] at h0 h1
      have e : vn (bs s) k (i + 1) = 16 * vn (bs s) k i + d := by rw [← hdd.out]; rfl
      have h2 : (16 : Int) ^ (i + 1) = 16 * 16 ^ i := by rw [Int.pow_succ, Int.mul_comm]
      have h3 : (16 : Int) ^ (i + 1) ≤ 65536 := by
        have : ∀ i, i < 4 → (16 : Int) ^ (i + 1) ≤ 65536 := by decide
        exact this i hlt
      rw [hcc.out] at hc8 hdd
      generalize vn (bs s) k i = m at *
      have hb2 : 0 ≤ 16 * m + d ∧ 16 * m + d < 16 ^ (i + 1) := by omega
      have He := Lib.hid e
      have HB := Lib.hid hb2
      have hm0 : 0 ≤ m := hb.1
      have hm1 : m < 4096 := by omega
      have hd0 : decide (d < 0) = false := decide_eq_false (by omega)
      have hw1 : IntKind.i64.wrap (16 * m) = 16 * m := IntWalk.i64_in _ ⟨by omega, by omega⟩
      have hw2 : IntKind.i64.wrap (16 * m + d) = 16 * m + d := IntWalk.i64_in _ ⟨by omega, by omega⟩
      have Hx : Hid (∀ X, Calls Try.prog 9 #[.int .u8 (c : Int)] X fun e w' => e = .returned (.int .i64 d) ∧ X = w') := fun X => by rw [← hdd.out]; exact hex_any c X hc8
      clear e hb hb2 h0 h1 h2 h3 hR hO Hn Hd hdd
      go_wp2_with fail
      refine hn.out.mono ?_
      rintro e X ⟨rfl, hR2, hO3⟩
      have HR2 := Lib.hid hR2
      have HO4 : Hid (Only (fun k => k = g) w X) := HO.out.trans hO3 (fun _ _ h => h)
      clear hR2 hO3 hn
      rw [hcc.out]
      go_wp2_with fail
      refine (Hx.out X).mono ?_
      rintro e Y ⟨rfl, rfl⟩
      go_wp2_with fail
      go_roundw
      case rel => exact ⟨i + 1, hlt, by go_num, by rw [He.out], by rw [He.out]; exact HB.out, by have := HR2.out; rwa [Nat.add_assoc] at this, HO4.out⟩
      case measure => simp [intOf] <;> omega
    · obtain rfl : i = 4 := by omega
      have HR2 := Lib.hid hR
      have HO := Lib.hid hO
      clear hR hO Hn hb
      go_wp2_with fail
      go_ret2
      exact ⟨rfl, HR2.out, HO.out⟩
end Go.Proofs.Ytdaipnlgloafdaa
