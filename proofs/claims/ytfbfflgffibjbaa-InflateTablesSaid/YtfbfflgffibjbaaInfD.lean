/- Layer 4: Data of at most 4096 bytes. -/
import Derived.Test.YtfbfflgffibjbaaInfC
namespace Go.Proofs.Ytfbfflgffibjbaa
open Go.RowKit Huff Bit
set_option linter.unusedVariables false
set_option maxRecDepth 100000

def inflM (bs : List Nat) (most : Nat) : List Nat × Nat × Nat := Inf.doneM (Inf.loopP most Inf.fuel [] (bitOf bs) (8 * bs.length) 0)
def dataZ (bs : List Nat) (m : Int) : List Nat × Nat × Nat := if m < 0 ∨ 1048576 < m then ([], 0, 1) else inflM bs m.toNat
theorem nil_post (w : World) (n : Nat) (e : Ending) (h : e = .returned (.tuple #[.slice none 0 0, .int .i64 0, .int .i64 (n : Int)])) : AllPost w ([], 0, n) e w := ⟨none, 0, h, fun h => absurd h (by simp), fun _ => ⟨rfl, rfl⟩, Nat.le_refl _, Nat.zero_le _, Below.refl _ _⟩
set_option maxHeartbeats 4000000 in
theorem infl_any (a : Option Addr) (c : Nat) (bs : List Nat) (m : Int) (w : World) (hN : Nums .u8 w w.heap.size a bs) (hz : a = none → c = 0 ∧ bs = []) (hlen : bs.length ≤ 4096) (hb : ∀ x ∈ bs, x < 256) :
    Calls Try.prog 7 #[.slice a bs.length c, .int .i64 m] w (AllPost w (dataZ bs m)) := by
  unfold dataZ
  by_cases h0 : m < 0
  · rw [if_pos (.inl h0)]
    have d1 : decide (m < 0) = true := decide_eq_true h0
    clear hN hz hlen hb
    go_enter Try.func7, Try.ntmps7
    go_wp2_with fail
    go_ret3
    exact nil_post _ 1 _ rfl
  · have d1 : decide (m < 0) = false := decide_eq_false h0
    by_cases h1 : 1048576 < m
    · rw [if_pos (.inr h1)]
      have d2 : decide (1048576 < m) = true := decide_eq_true h1
      clear hN hz hlen hb
      go_enter Try.func7, Try.ntmps7
      go_wp2_with fail
      go_ret3
      exact nil_post _ 1 _ rfl
    · rw [if_neg (by omega)]
      have d2 : decide (1048576 < m) = false := decide_eq_false h1
      obtain ⟨M, rfl⟩ : ∃ M : Nat, m = (M : Int) := ⟨m.toNat, by omega⟩
      rw [Int.toNat_natCast]
      have Hall := Lib.hid (all_any a c bs M w hN hz hlen hb (by omega))
      change Hid (Calls _ _ _ _ (AllPost w (inflM bs M))) at Hall
      obtain ⟨R, hR⟩ : ∃ R, inflM bs M = R := ⟨_, rfl⟩
      rw [hR] at Hall ⊢
      obtain ⟨L, hL⟩ : ∃ L, bs.length = L := ⟨_, rfl⟩
      rw [hL] at Hall hlen ⊢
      have d3 : decide ((4096 : Int) < (L : Int)) = false := decide_eq_false (by omega)
      have d4 : decide (4096 < L) = false := decide_eq_false (by omega)
      clear hN hz hb h0 h1 hR hL
      go_enter Try.func7, Try.ntmps7
      go_wp2_with fail
      go_loopw [7] (fun y W => y = .int .i64 4096 ∧ W = w) (fun _ _ => 0)
      case atStart => exact ⟨rfl, rfl⟩
      case round =>
        obtain ⟨rfl, rfl⟩ := hrel
        go_wp2_with fail
        refine Hall.out.mono ?_
        rintro e W2 ⟨a2, c2, rfl, h⟩
        have H := Lib.hid h
        clear h
        go_wp2_with fail
        go_ret3
        exact ⟨a2, c2, rfl, H.out⟩
end Go.Proofs.Ytfbfflgffibjbaa
