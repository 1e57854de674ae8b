/- The walk over Join. -/
import Derived.Test.YtbldmjmbbjnhdaaCrcOf
import Derived.Test.YtbldmjmbbjnhdaaCrcJoinMath
namespace Go.Proofs.Ytbldmjmbbjnhdaa
open Go.RowKit Crc

def cnt (n : Int) : Nat := (if n ≤ 1048576 then n else 1048576).toNat

theorem u8_of_u32_walk (n m : Nat) (hm : m = n % 256) : ((n : Int) % 256) = (m : Int) := by omega

theorem cnt_le (n : Int) : cnt n ≤ 1048576 := by unfold cnt; split <;> omega

set_option maxRecDepth 100000 in
set_option maxHeartbeats 1000000 in
theorem join_any (a b : Nat) (n : Int) (w : World) (ha : a < 4294967296) (hb : b < 4294967296) (hn0 : -9223372036854775808 ≤ n) (hn1 : n < 9223372036854775808) :
    Calls Try.prog 12 #[.int .u32 (a : Int), .int .u32 (b : Int), .int .i64 n] w fun e w' => e = .returned (.int .u32 (jn a (cnt n) ^^^ b : Nat)) ∧ Below w.heap.size w w' := by
  have hz := (zero_of_info zinfo).1
  rw [tabArr_zero] at hz
  have hsz1 : (Try.prog.info? 25).map (·.size) = some (tabArr 256).size := by rw [tabArr_size 256 (by omega)]; exact (zero_of_info zinfo).2
  have hss : (tabArr 0).size = (tabArr 256).size := by rw [tabArr_size 0 (by omega), tabArr_size 256 (by omega)]
  have hall1 := tabArr_one 256
  have hget := fun i => tabArr_get 256 i
  generalize hT : tabArr 256 = T at *
  have HT := Lib.hid hT; clear hT
  generalize hT0 : tabArr 0 = T0 at *
  have Hsz1 := Lib.hid hsz1; clear hsz1
  have Hss := Lib.hid hss; clear hss
  have Hall1 := Lib.hid hall1; clear hall1
  have Hget := Lib.hid hget; clear hget
  clear hT0
  have hcases : (n ≤ 0 ∧ cnt n = 0) ∨ (0 < n ∧ n ≤ 1048576 ∧ n = (cnt n : Nat)) ∨ (1048576 < n ∧ cnt n = 1048576) := by
    unfold cnt
    split <;> omega
  generalize hcn : cnt n = N at *
  clear hcn
  rcases hcases with ⟨hcase, rfl⟩ | ⟨hnpos, hcase, rfl⟩ | ⟨hcase, hN⟩
  any_goals have HN := Lib.hid hN; clear hN
  all_goals
    go_enter Try.func12, Try.ntmps12
    go_wp2_with fail
    refine (table_any _).mono ?_
    rw [HT.out]
    rintro e w1 ⟨rfl, hb1⟩
    go_wp2_with (refine wpList_store_row rfl 25 (.tmp 7) (.tmp 8) rfl w1.heap.size T rfl rfl 25 T0 (heap_alloc_new _ _) Hsz1.out Hss.out Hall1.out ?_)
    have hw0 : Whole ((w1.alloc (.cells T0 25)).setRow w1.heap.size T) w1.heap.size 25 T := Whole.row (heap_alloc_new _ _) _
    have hb2 : Below w.heap.size w ((w1.alloc (.cells T0 25)).setRow w1.heap.size T) := below_setRow (hb1.alloc hb1.size _) hb1.size _
    generalize hW : ((w1.alloc (.cells T0 25)).setRow w1.heap.size T) = W at *
    clear hW hb1 Hsz1 Hss Hall1 HT hn0 hn1
    generalize w1.heap.size = g at *
  · go_loop [0, 11] (fun x i => x = .int .u32 (jn a 0 : Nat) ∧ i = .int .i64 0) (fun _ _ => 0)
    case atStart => exact ⟨rfl, rfl⟩
    case round =>
      obtain ⟨rfl, rfl⟩ := hrel
      go_wp2
      go_ret
      exact ⟨congrArg (fun x => Ending.returned (.int .u32 x)) (u32_xor_nat a b ha hb), hb2⟩
  all_goals
    go_loop [0, 11] (fun x i => ∃ k : Nat, k ≤ N ∧ x = .int .u32 (jn a k : Nat) ∧ i = .int .i64 k) (fun _ i => N - (intOf i).toNat)
    case atStart => exact ⟨0, Nat.zero_le _, rfl, rfl⟩
    case round =>
      obtain ⟨k, hk, rfl, rfl⟩ := hrel
      have hjl := jn_lt ha k
      have hs := Lib.hid (show jn a (k + 1) = (jn a k / 256) ^^^ its 8 (jn a k % 256) from rfl)
      generalize hg : jn a k = x at *
      have HX := Lib.hid hg; clear hg
      have hkb : (k : Int) ≤ 1048576 := by first | omega | (have := HN.out; omega)
      by_cases hlt : k < N
      · have hm : (x : Int) % 256 = ((x % 256 : Nat) : Int) := by omega
        have hm256 : x % 256 < 256 := by omega
        have hent := ent_lt hm256
        have hcell := (hw0.cell (x % 256)).trans (Hget.out (x % 256) hm256)
        have hs2 : Hid (jn a (k + 1) = (x / 256) ^^^ ent (x % 256)) := hs.out
        have hx2 := Lib.hid (u32_xor_walk x (ent (x % 256)) _ hjl hent rfl)
        have hlt2 : (k : Int) < 1048576 := by first | omega | (have := HN.out; omega)
        generalize x % 256 = m at *
        generalize ent m = en at *
        clear hs
        go_wp2
        go_round
        case rel => exact ⟨k + 1, by omega, by rw [hs2.out]; exact congrArg _ hx2.out, by go_num⟩
        case measure => simp [intOf]; omega
      · have hkN : k = N := by omega
        have HkN := Lib.hid hkN
        first | (have hge : ¬ ((k : Int) < 1048576) := by have := HN.out; omega) | (have hge : N ≤ k := by omega)
        clear hkN hlt hk hkb hs
        go_wp2
        go_ret
        exact ⟨congrArg (fun x => Ending.returned (.int .u32 x)) (by rw [← HkN.out, HX.out]; exact u32_xor_nat x b hjl hb), hb2⟩
end Go.Proofs.Ytbldmjmbbjnhdaa
