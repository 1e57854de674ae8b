/- The walks over layer 2's table. -/
import Derived.Test.YtbldmjmbbjnhdaaRows
import Derived.Test.YtbldmjmbbjnhdaaCrcMath
import Derived.Test.YtbldmjmbbjnhdaaWords
import Derived.WalkKit
import Derived.Handy
import Derived.Deep.WholeRow
import Derived.Lib.Hide
namespace Go.Proofs.Ytbldmjmbbjnhdaa
open Go.RowKit Crc

theorem xor32_walk (n : Nat) (hn : n < 4294967296) : bits .xor .u32 ((n : Int) / 2) 3988292384 = (((n / 2) ^^^ 3988292384 : Nat) : Int) := by
  rw [show ((n : Int) / 2) = ((n / 2 : Nat) : Int) from by omega, show (3988292384 : Int) = ((3988292384 : Nat) : Int) from rfl, u32_xor_nat _ _ (by omega) (by omega)]

theorem entry_any (c : Nat) (w : World) (h1 : c < 4294967296) :
    Calls Try.prog 13 #[.int .u32 (c : Int)] w fun e w' => e = .returned (.int .u32 (its 8 c : Nat)) ∧ w = w' := by
  go_enter Try.func13, Try.ntmps13
  go_wp2
  go_loop [0, 3] (fun a b => ∃ k : Nat, k ≤ 8 ∧ a = .int .u32 (its k c : Nat) ∧ b = .int .i64 k) (fun _ b => 8 - (intOf b).toNat)
  case atStart => exact ⟨0, by omega, rfl, rfl⟩
  case round =>
    obtain ⟨k, hk, rfl, rfl⟩ := hrel
    have hn := its_lt h1 k
    have hs : Hid (its (k + 1) c = stp (its k c)) := rfl
    generalize hg : its k c = n at *
    have hN := Lib.hid hg
    clear hg
    have hx : bits .and .u32 (n : Int) 1 = ((n % 2 : Nat) : Int) := by
      rw [show (1 : Int) = ((1 : Nat) : Int) from rfl, u32_and_nat n 1 hn (by omega), Nat.and_one_is_mod]
    have hx' := Lib.hid hx
    clear hx
    by_cases hlt : k < 8
    · by_cases hodd : n % 2 = 1
      · have hb : (bits .and .u32 (n : Int) 1 == 1) = true := by rw [hx'.out]; simp; omega
        go_wp2
        go_round
        case rel => exact ⟨k + 1, by omega, by rw [hs.out, stp, if_pos hodd, xor32_walk n hn], by go_num⟩
        case measure => simp [intOf]; omega
      · have hb : (bits .and .u32 (n : Int) 1 == 1) = false := by rw [hx'.out]; simp; omega
        go_wp2
        go_round
        case rel => exact ⟨k + 1, by omega, by rw [hs.out, stp, if_neg hodd]; go_num, by go_num⟩
        case measure => simp [intOf]; omega
    · obtain rfl : k = 8 := by omega
      go_wp2
      go_ret
      exact ⟨by rw [hN.out]; rfl, rfl⟩

theorem rentry_any (c : Nat) (w : World) (h1 : c < 256) :
    Calls Try.prog 11 #[.int .u8 (c : Int)] w fun e w' => e = .returned (.int .u32 (its 8 c : Nat)) ∧ w = w' := by
  have h1' : c < 4294967296 := by omega
  go_enter Try.func11, Try.ntmps11
  go_wp2
  go_loop [3, 4] (fun a b => ∃ k : Nat, k ≤ 8 ∧ a = .int .u32 (its k c : Nat) ∧ b = .int .i64 k) (fun _ b => 8 - (intOf b).toNat)
  case atStart => exact ⟨0, by omega, rfl, rfl⟩
  case round =>
    obtain ⟨k, hk, rfl, rfl⟩ := hrel
    have hn := its_lt h1' k
    have hs : Hid (its (k + 1) c = stp (its k c)) := rfl
    generalize hg : its k c = n at *
    have hN := Lib.hid hg
    clear hg
    by_cases hlt : k < 8
    · by_cases hodd : n % 2 = 1
      · have hb : ((n : Int) % 2 == 1) = true := by simp; omega
        go_wp2
        go_round
        case rel => exact ⟨k + 1, by omega, by rw [hs.out, stp, if_pos hodd, xor32_walk n hn], by go_num⟩
        case measure => simp [intOf]; omega
      · have hb : ((n : Int) % 2 == 1) = false := by simp; omega
        go_wp2
        go_round
        case rel => exact ⟨k + 1, by omega, by rw [hs.out, stp, if_neg hodd]; go_num, by go_num⟩
        case measure => simp [intOf]; omega
    · obtain rfl : k = 8 := by omega
      go_wp2
      go_ret
      exact ⟨by rw [hN.out]; rfl, rfl⟩

/-- The table's cells when k of them have been filled. -/
def tabList (k : Nat) : List Value := ((List.range k).map fun i => Value.int .u32 (ent i : Nat)) ++ List.replicate (256 - k) (.int .u32 0)
def tabArr (k : Nat) : Array Value := (tabList k).toArray
theorem tabList_length (k : Nat) (h : k ≤ 256) : (tabList k).length = 256 := by simp [tabList]; omega
theorem tabArr_size (k : Nat) (h : k ≤ 256) : (tabArr k).size = 256 := by simp [tabArr, tabList_length k h]
theorem tabArr_set (k : Nat) (h : k < 256) : (tabArr k).setIfInBounds k (.int .u32 (ent k : Nat)) = tabArr (k + 1) := by
  simp only [tabArr, List.setIfInBounds_toArray]
  congr 1
  obtain ⟨m, hm⟩ : ∃ m, 256 - k = m + 1 := ⟨255 - k, by omega⟩
  have hm' : 256 - (k + 1) = m := by omega
  simp only [tabList, hm, hm', List.replicate_succ, List.range_succ, List.map_append, List.map_cons, List.map_nil, List.append_assoc, List.cons_append, List.nil_append]
  rw [List.set_append]
  simp
theorem tabArr_get (k i : Nat) (h : i < k) : (tabArr k)[i]? = some (.int .u32 (ent i : Nat)) := by
  simp [tabArr, tabList, List.getElem?_append, h]
theorem tabArr_get' (k i : Nat) (h : k ≤ 256) (hi : i < 256) : ∃ v, (tabArr k)[i]? = some v := by
  have := tabArr_size k h
  exact ⟨_, Array.getElem?_eq_getElem (by omega)⟩
theorem tabArr_zero : Array.replicate 256 (Value.int .u32 0) = tabArr 0 := by
  simp only [tabArr, tabList, List.range_zero, List.map_nil, List.nil_append, Nat.sub_zero, List.toArray_replicate]
theorem tabArr_one (k : Nat) : (tabArr k).all (·.oneCell') = true := by
  refine Array.all_eq_true_iff_forall_mem.2 (fun v hv => ?_)
  simp only [tabArr, List.mem_toArray, tabList, List.mem_append, List.mem_map, List.mem_replicate] at hv
  rcases hv with ⟨_, _, rfl⟩ | ⟨_, rfl⟩ <;> rfl

theorem zinfo : (Try.prog.info? 25).map (fun i => (i.zero, i.size)) = some (some (.agg (Array.replicate 256 (.int .u32 0))), 256) := by kernel_rfl

set_option maxHeartbeats 400000 in
set_option maxRecDepth 100000 in
theorem table_any (w : World) :
    Calls Try.prog 6 #[] w fun e w' => e = .returned (.agg (tabArr 256)) ∧ Below w.heap.size w w' := by
  obtain ⟨hz, hsz⟩ := zero_of_info zinfo
  rw [tabArr_zero] at hz
  have hsz0 : (Try.prog.info? 25).map (·.size) = some (tabArr 0).size := by rw [tabArr_size 0 (by omega)]; exact hsz
  have hsz1 : (Try.prog.info? 25).map (·.size) = some (tabArr 256).size := by rw [tabArr_size 256 (by omega)]; exact hsz
  have hall := tabArr_one 0
  have hall1 := tabArr_one 256
  have hss : (tabArr 0).size = (tabArr 256).size := by rw [tabArr_size 0 (by omega), tabArr_size 256 (by omega)]
  have hset := tabArr_set
  have hget := tabArr_get'
  generalize hT : tabArr = T at *
  have HT := Lib.hid hT; clear hT
  have Hs0 := Lib.hid hsz0; clear hsz0
  have Hs1 := Lib.hid hsz1; clear hsz1
  have Hall := Lib.hid hall; clear hall
  have Hall1 := Lib.hid hall1; clear hall1
  have Hss := Lib.hid hss; clear hss
  have Hset := Lib.hid hset; clear hset
  have Hget := Lib.hid hget; clear hget
  clear hsz
  go_enter Try.func6, Try.ntmps6
  go_wp2_with (refine wpList_store_row rfl 25 (.tmp 1) (.tmp 3) rfl (w.heap.size + 1) (T 0) rfl rfl 25 (T 0) (heap_alloc2_new _ _ _) Hs0.out rfl Hall.out ?_)
  go_loopw [2, 4] (fun _ b W => ∃ k : Nat, k ≤ 256 ∧ b = .int .i64 k ∧ Whole W (w.heap.size + 1) 25 (T k) ∧ Whole W w.heap.size 25 (T 0) ∧ Below w.heap.size w W) (fun _ b _ => 256 - (intOf b).toNat)
  case atStart =>
    exact ⟨0, by omega, rfl, Whole.row (heap_alloc2_new _ _ _) _, Whole.rowFar (heap_alloc2_old _ _ _) (by omega) _, below_setRow (((Below.refl _ _).alloc (Nat.le_refl _) _).alloc (by simp) _) (by omega) _⟩
  case round =>
    obtain ⟨k, hk, rfl, hw1, hw0, hb⟩ := hrel
    by_cases hlt : k < 256
    · obtain ⟨v, hv⟩ := Hget.out k k hk hlt
      have hc := (hw1.cell k).trans hv
      have hf := hw1.frozen k
      clear hv
      go_wp2_with (go_at_call 13; refine (entry_any k _ (by omega)).mono ?_; rintro e w' ⟨rfl, rfl⟩)
      go_roundw
      case rel => exact ⟨k + 1, by omega, by go_num, by rw [← Hset.out k hlt]; exact hw1.set k _, hw0.far (by simp) _, hb.setCell (by simp) _⟩
      case measure => simp [intOf]; omega
    · obtain rfl : k = 256 := by omega
      go_wp2_with (first
        | (refine wpList_load_row rfl 25 (.tmp 1) rfl (w.heap.size + 1) rfl 25 (T 256) (0, 0) _ hw1 Try.underlying25 rfl Hs1.out ?_)
        | (refine wpList_store_row rfl 25 (.tmp 0) (.tmp 13) rfl w.heap.size (T 256) rfl rfl 25 (T 0) hw0 Hs1.out (Hss.out) Hall1.out ?_))
      exact bodyPost_ret (results_cell_row rfl _ _ w.heap.size 25 (T 256) (0, 0) _ rfl (hw0.row _) Try.underlying25 rfl Hs1.out) rfl ⟨rfl, below_setRow hb (Nat.le_refl _) _⟩
end Go.Proofs.Ytbldmjmbbjnhdaa
