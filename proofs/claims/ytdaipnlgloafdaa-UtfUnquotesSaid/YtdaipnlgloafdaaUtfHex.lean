/- Walks over layer 15: the reference's Hex. -/
import Derived.Test.YtdaipnlgloafdaaUtfOne
namespace Go.Proofs.Ytdaipnlgloafdaa
open Go.RowKit Utf
set_option linter.unusedVariables false
set_option maxRecDepth 100000

/-- The sixteen digits, small and great. -/
def smallD : List Nat := [48, 49, 50, 51, 52, 53, 54, 55, 56, 57, 97, 98, 99, 100, 101, 102]
def greatD : List Nat := [48, 49, 50, 51, 52, 53, 54, 55, 56, 57, 65, 66, 67, 68, 69, 70]
def findD (c : Nat) : Nat → Nat → Int
  | 0, _ => -1
  | f + 1, i => if smallD.getD i 0 = c ∨ greatD.getD i 0 = c then (i : Int) else findD c f (i + 1)
theorem findD_hex : ∀ c, c < 256 → findD c 16 0 = hexN c := by decide
theorem small_bs : bs ⟨#[48, 49, 50, 51, 52, 53, 54, 55, 56, 57, 97, 98, 99, 100, 101, 102]⟩ = smallD := by rfl
theorem great_bs : bs ⟨#[48, 49, 50, 51, 52, 53, 54, 55, 56, 57, 65, 66, 67, 68, 69, 70]⟩ = greatD := by rfl
theorem is_at (s : ByteArray) (i c : Nat) (h : i < s.size) (hq : (bs s).getD i 0 = c) : (((s[i]'h).toNat : Int) == (c : Int)) = true := by rw [bs_get s i h, hq]; simp
theorem not_at (s : ByteArray) (i c : Nat) (h : i < s.size) (hq : (bs s).getD i 0 ≠ c) : (((s[i]'h).toNat : Int) == (c : Int)) = false := by rw [bs_get s i h]; exact beq_eq_false_iff_ne.mpr (by omega)

set_option maxHeartbeats 4000000 in
theorem refHex_any (c : Nat) (w : World) (hc : c < 256) : Calls Try.prog 10 #[.int .u8 (c : Int)] w fun e w' => e = .returned (.int .i64 (hexN c)) ∧ w = w' := by
  have HR := Lib.hid (findD_hex c hc)
  generalize hexN c = R at *
  go_enter Try.func10, Try.ntmps10
  go_wp2_with fail
  go_loop [5] (fun u => ∃ (i f : Nat), u = .int .i64 (i : Int) ∧ i + f = 16 ∧ Hid (findD c f i = R)) (fun u => 16 - (intOf u).toNat)
  case atStart => exact ⟨0, 16, rfl, rfl, HR⟩
  case round =>
    obtain ⟨i, f, rfl, hif, hv⟩ := hrel
    rcases f with _ | f
    · have hi : i = 16 := by omega
      subst hi
      have hR : (-1 : Int) = R := hv.out
      subst hR
      go_wp2_with fail
      go_ret
      exact ⟨rfl, rfl⟩
    · have hlt : i < 16 := by omega
      have hs : i < (⟨#[48, 49, 50, 51, 52, 53, 54, 55, 56, 57, 97, 98, 99, 100, 101, 102]⟩ : ByteArray).size := hlt
      have hg : i < (⟨#[48, 49, 50, 51, 52, 53, 54, 55, 56, 57, 65, 66, 67, 68, 69, 70]⟩ : ByteArray).size := hlt
      have e := hv.out
      simp only [findD] at e
      by_cases h1 : smallD.getD i 0 = c
      · rw [if_pos (.inl h1)] at e
        subst e
        have q1 := is_at _ i c hs (by rw [small_bs]; exact h1)
        clear h1 hv HR
        go_wp2_with fail
        go_ret
        exact ⟨rfl, rfl⟩
      · by_cases h2 : greatD.getD i 0 = c
        · rw [if_pos (.inr h2)] at e
          subst e
          have q1 := not_at _ i c hs (by rw [small_bs]; exact h1)
          have q2 := is_at _ i c hg (by rw [great_bs]; exact h2)
          clear h1 h2 hv HR
          go_wp2_with fail
          go_ret
          exact ⟨rfl, rfl⟩
        · rw [if_neg (not_or.mpr ⟨h1, h2⟩)] at e
          have q1 := not_at _ i c hs (by rw [small_bs]; exact h1)
          have q2 := not_at _ i c hg (by rw [great_bs]; exact h2)
          have He := Lib.hid e
          clear h1 h2 hv HR e
          go_wp2_with fail
          go_round
          case rel => exact ⟨i + 1, f, by go_num, by omega, He⟩
          case measure => simp [intOf] <;> omega
end Go.Proofs.Ytdaipnlgloafdaa
