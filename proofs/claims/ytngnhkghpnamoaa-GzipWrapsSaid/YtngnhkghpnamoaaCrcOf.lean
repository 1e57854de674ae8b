/- CrcOf -/
import Derived.Test.YtngnhkghpnamoaaRows
import Derived.Test.YtngnhkghpnamoaaGc01
import Derived.WalkKit
import Derived.Handy
import Derived.Deep.WholeRow
import Derived.Lib.Hide
import Derived.Lib.SlBytesConst
/- Plain mathematics of the CRC: numbers and lists alone; nothing of the program is imported. -/
namespace Go.Proofs.Ytngnhkghpnamoaa.Crc

def stp (n : Nat) : Nat := if n % 2 = 1 then (n / 2) ^^^ 3988292384 else n / 2
def its : Nat → Nat → Nat
  | 0, n => n
  | k + 1, n => stp (its k n)
def ent (c : Nat) : Nat := its 8 c
def nx1 (s c : Nat) : Nat := (s / 256) ^^^ ent ((s % 256) ^^^ c)
def nxt (s : Nat) (b : List Nat) : Nat := b.foldl nx1 s

theorem xor_lt {a b : Nat} (n : Nat) (ha : a < 2 ^ n) (hb : b < 2 ^ n) : a ^^^ b < 2 ^ n := Nat.xor_lt_two_pow ha hb
theorem xor8 {a b : Nat} (ha : a < 256) (hb : b < 256) : a ^^^ b < 256 := Nat.xor_lt_two_pow (n := 8) ha hb
theorem xor32 {a b : Nat} (ha : a < 4294967296) (hb : b < 4294967296) : a ^^^ b < 4294967296 := Nat.xor_lt_two_pow (n := 32) ha hb
theorem stp_lt {n : Nat} (h : n < 4294967296) : stp n < 4294967296 := by
  unfold stp
  split
  · exact xor32 (by omega) (by omega)
  · omega
theorem its_lt {n : Nat} (h : n < 4294967296) : ∀ k, its k n < 4294967296
  | 0 => h
  | k + 1 => stp_lt (its_lt h k)
theorem ent_lt {n : Nat} (h : n < 256) : ent n < 4294967296 := its_lt (by omega) 8
theorem nx1_lt {s c : Nat} (h : s < 4294967296) (hc : c < 256) : nx1 s c < 4294967296 := by
  unfold nx1
  exact xor32 (by omega) (ent_lt (xor8 (by omega) hc))
theorem nxt_lt : ∀ (b : List Nat) (s : Nat), s < 4294967296 → (∀ x ∈ b, x < 256) → nxt s b < 4294967296
  | [], _, h, _ => h
  | c :: b, s, h, hb => nxt_lt b (nx1 s c) (nx1_lt h (hb c (by simp))) (fun x hx => hb x (by simp [hx]))
theorem nxt_snoc (s : Nat) (b : List Nat) (c : Nat) : nxt s (b ++ [c]) = nx1 (nxt s b) c := by
  simp [nxt]
theorem take_snoc {α : Type} (l : List α) (k : Nat) (d : α) (h : k < l.length) : l.take (k + 1) = l.take k ++ [l.getD k d] := by
  rw [List.take_succ_eq_append_getElem h]; simp [h]
end Go.Proofs.Ytngnhkghpnamoaa.Crc

namespace Go.Proofs.Ytngnhkghpnamoaa.Crc

def jn (a : Nat) : Nat → Nat
  | 0 => a
  | k + 1 => let s := jn a k; (s / 256) ^^^ its 8 (s % 256)
def crcOf (l : List Nat) : Nat := 4294967295 - nxt 4294967295 l
theorem crcOf_lt (l : List Nat) : crcOf l < 4294967296 := by unfold crcOf; omega

theorem jn_lt {a : Nat} (h : a < 4294967296) : ∀ k, jn a k < 4294967296
  | 0 => h
  | k + 1 => by
    have := jn_lt h k
    exact xor32 (by omega) (its_lt (by omega) 8)

theorem div_xor (a b : Nat) (n : Nat) : (a ^^^ b) / 2 ^ n = (a / 2 ^ n) ^^^ (b / 2 ^ n) := Nat.xor_div_two_pow
theorem mod_xor (a b : Nat) (n : Nat) : (a ^^^ b) % 2 ^ n = (a % 2 ^ n) ^^^ (b % 2 ^ n) := Nat.xor_mod_two_pow

theorem xor_ac (a b c d : Nat) : (a ^^^ b) ^^^ (c ^^^ d) = (a ^^^ c) ^^^ (b ^^^ d) := by
  simp only [Nat.xor_assoc]; rw [← Nat.xor_assoc b c d, Nat.xor_comm b c, Nat.xor_assoc c b d]

theorem stp_xor (a b : Nat) : stp (a ^^^ b) = stp a ^^^ stp b := by
  have h1 : (a ^^^ b) / 2 = (a / 2) ^^^ (b / 2) := by simpa using div_xor a b 1
  have h2 : (a ^^^ b) % 2 = (a % 2) ^^^ (b % 2) := by simpa using mod_xor a b 1
  unfold stp
  rw [h1, h2]
  generalize a / 2 = x
  generalize b / 2 = y
  have ha : a % 2 = 0 ∨ a % 2 = 1 := by omega
  have hb : b % 2 = 0 ∨ b % 2 = 1 := by omega
  rcases ha with ha | ha <;> rcases hb with hb | hb <;> rw [ha, hb]
  · rfl
  · simp [Nat.xor_assoc]
  · simp only [Nat.xor_zero, if_true]
    rw [if_neg (by omega), Nat.xor_assoc, Nat.xor_comm y, ← Nat.xor_assoc]
  · rw [if_neg (by decide), if_pos rfl, if_pos rfl, xor_ac, Nat.xor_self, Nat.xor_zero]

theorem its_xor (a b : Nat) : ∀ k, its k (a ^^^ b) = its k a ^^^ its k b
  | 0 => rfl
  | k + 1 => by simp only [its]; rw [its_xor a b k, stp_xor]

theorem nx1_xor (s t c d : Nat) : nx1 (s ^^^ t) (c ^^^ d) = nx1 s c ^^^ nx1 t d := by
  have h1 : (s ^^^ t) / 256 = (s / 256) ^^^ (t / 256) := by simpa using div_xor s t 8
  have h2 : (s ^^^ t) % 256 = (s % 256) ^^^ (t % 256) := by simpa using mod_xor s t 8
  unfold nx1 ent
  rw [h1, h2, xor_ac (s % 256), its_xor, xor_ac]

theorem snoc_ind {α : Type} {P : List α → Prop} (h0 : P []) (h1 : ∀ l c, P l → P (l ++ [c])) (l : List α) : P l := by
  have h : ∀ m : List α, P m.reverse := by
    intro m
    induction m with
    | nil => exact h0
    | cons c m ih => rw [List.reverse_cons]; exact h1 _ _ ih
  have := h l.reverse
  rwa [List.reverse_reverse] at this

/-- A state that went on over bytes is the state that went on over zeros, joined to what nothing would have become over the bytes. -/
theorem nxt_split : ∀ (l : List Nat) (s t : Nat), nxt (s ^^^ t) l = jn s l.length ^^^ nxt t l := by
  intro l
  refine snoc_ind (P := fun l => ∀ (s t : Nat), nxt (s ^^^ t) l = jn s l.length ^^^ nxt t l) ?_ ?_ l
  · intro s t; rfl
  · intro l c ih s t
    rw [nxt_snoc, nxt_snoc, ih, List.length_append, List.length_singleton]
    have := nx1_xor (jn s l.length) (nxt t l) 0 c
    rw [Nat.zero_xor] at this
    rw [this]
    simp [jn, nx1, ent]

theorem flip_ (n : Nat) (h : n < 4294967296) : 4294967295 - n = 4294967295 ^^^ n := by
  have h1 : (BitVec.allOnes 32 ^^^ BitVec.ofNat 32 n).toNat = 4294967295 - n := by
    rw [BitVec.allOnes_xor, BitVec.toNat_not, BitVec.toNat_ofNat, Nat.mod_eq_of_lt h]
  rw [BitVec.toNat_xor, BitVec.toNat_allOnes, BitVec.toNat_ofNat, Nat.mod_eq_of_lt h] at h1
  exact h1.symm

theorem join_eq (a b : List Nat) (ha : ∀ x ∈ a, x < 256) (hb : ∀ x ∈ b, x < 256) : jn (crcOf a) b.length ^^^ crcOf b = crcOf (a ++ b) := by
  have h1 := nxt_lt a 4294967295 (by omega) ha
  have h2 := nxt_lt b 4294967295 (by omega) hb
  have h3 := nxt_lt (a ++ b) 4294967295 (by omega) (fun x hx => by rcases List.mem_append.1 hx with h | h; exact ha x h; exact hb x h)
  unfold crcOf
  rw [flip_ _ h1, flip_ _ h2, flip_ _ h3]
  have e : nxt 4294967295 (a ++ b) = nxt (nxt 4294967295 a) b := by simp [nxt, List.foldl_append]
  rw [e]
  generalize nxt 4294967295 a = s
  have := nxt_split b (4294967295 ^^^ s) 4294967295
  rw [Nat.xor_comm (4294967295 ^^^ s), ← Nat.xor_assoc, Nat.xor_self, Nat.zero_xor] at this
  rw [this, ← Nat.xor_assoc, ← Nat.xor_assoc, Nat.xor_comm (jn _ _) 4294967295]
end Go.Proofs.Ytngnhkghpnamoaa.Crc

namespace Go.Proofs.Ytngnhkghpnamoaa
open Go.RowKit Crc

theorem xor32_walk (n : Nat) (hn : n < 4294967296) : bits .xor .u32 ((n : Int) / 2) 3988292384 = (((n / 2) ^^^ 3988292384 : Nat) : Int) := by
  rw [show ((n : Int) / 2) = ((n / 2 : Nat) : Int) from by omega, show (3988292384 : Int) = ((3988292384 : Nat) : Int) from rfl, u32_xor_nat _ _ (by omega) (by omega)]

theorem crcEntry_any (c : Nat) (w : World) (h1 : c < 4294967296) :
    Calls Try.prog 49 #[.int .u32 (c : Int)] w fun e w' => e = .returned (.int .u32 (its 8 c : Nat)) ∧ w = w' := by
  go_enter Try.func49, Try.ntmps49
  go_wp2
  go_loop [0, 3] (fun a b => ∃ k : Nat, k ≤ 8 ∧ a = .int .u32 (its k c : Nat) ∧ b = .int .i64 k) (fun _ b => 8 - (intOf b).toNat)
  case atStart => exact ⟨0, by omega, rfl, rfl⟩
  case round =>
    obtain ⟨k, hk, rfl, rfl⟩ := hrel
    have hn := its_lt h1 k
    have hs : Hid (its (k + 1) c = stp (its k c)) := rfl
    generalize hg : its k c = n at *
    have hN := Lib.hid hg
    clear hg
    have hx : bits .and .u32 (n : Int) 1 = ((n % 2 : Nat) : Int) := by
      rw [show (1 : Int) = ((1 : Nat) : Int) from rfl, u32_and_nat n 1 hn (by omega), Nat.and_one_is_mod]
    have hx' := Lib.hid hx
    clear hx
    by_cases hlt : k < 8
    · by_cases hodd : n % 2 = 1
      · have hb : (bits .and .u32 (n : Int) 1 == 1) = true := by rw [hx'.out]; simp; omega
        go_wp2
        go_round
        case rel => exact ⟨k + 1, by omega, by rw [hs.out, stp, if_pos hodd, xor32_walk n hn], by go_num⟩
        case measure => simp [intOf]; omega
      · have hb : (bits .and .u32 (n : Int) 1 == 1) = false := by rw [hx'.out]; simp; omega
        go_wp2
        go_round
        case rel => exact ⟨k + 1, by omega, by rw [hs.out, stp, if_neg hodd]; go_num, by go_num⟩
        case measure => simp [intOf]; omega
    · obtain rfl : k = 8 := by omega
      go_wp2
      go_ret
      exact ⟨by rw [hN.out]; rfl, rfl⟩

theorem crcREntry_any (c : Nat) (w : World) (h1 : c < 256) :
    Calls Try.prog 59 #[.int .u8 (c : Int)] w fun e w' => e = .returned (.int .u32 (its 8 c : Nat)) ∧ w = w' := by
  have h1' : c < 4294967296 := by omega
  go_enter Try.func59, Try.ntmps59
  go_wp2
  go_loop [3, 4] (fun a b => ∃ k : Nat, k ≤ 8 ∧ a = .int .u32 (its k c : Nat) ∧ b = .int .i64 k) (fun _ b => 8 - (intOf b).toNat)
  case atStart => exact ⟨0, by omega, rfl, rfl⟩
  case round =>
    obtain ⟨k, hk, rfl, rfl⟩ := hrel
    have hn := its_lt h1' k
    have hs : Hid (its (k + 1) c = stp (its k c)) := rfl
    generalize hg : its k c = n at *
    have hN := Lib.hid hg
    clear hg
    by_cases hlt : k < 8
    · by_cases hodd : n % 2 = 1
      · have hb : ((n : Int) % 2 == 1) = true := by simp; omega
        go_wp2
        go_round
        case rel => exact ⟨k + 1, by omega, by rw [hs.out, stp, if_pos hodd, xor32_walk n hn], by go_num⟩
        case measure => simp [intOf]; omega
      · have hb : ((n : Int) % 2 == 1) = false := by simp; omega
        go_wp2
        go_round
        case rel => exact ⟨k + 1, by omega, by rw [hs.out, stp, if_neg hodd]; go_num, by go_num⟩
        case measure => simp [intOf]; omega
    · obtain rfl : k = 8 := by omega
      go_wp2
      go_ret
      exact ⟨by rw [hN.out]; rfl, rfl⟩

/-- The table's cells when k of them have been filled. -/
def tabList (k : Nat) : List Value := ((List.range k).map fun i => Value.int .u32 (ent i : Nat)) ++ List.replicate (256 - k) (.int .u32 0)
def tabArr (k : Nat) : Array Value := (tabList k).toArray
theorem tabList_length (k : Nat) (h : k ≤ 256) : (tabList k).length = 256 := by simp [tabList]; omega
theorem tabArr_size (k : Nat) (h : k ≤ 256) : (tabArr k).size = 256 := by simp [tabArr, tabList_length k h]
theorem tabArr_set (k : Nat) (h : k < 256) : (tabArr k).setIfInBounds k (.int .u32 (ent k : Nat)) = tabArr (k + 1) := by
  simp only [tabArr, List.setIfInBounds_toArray]
  congr 1
  obtain ⟨m, hm⟩ : ∃ m, 256 - k = m + 1 := ⟨255 - k, by omega⟩
  have hm' : 256 - (k + 1) = m := by omega
  simp only [tabList, hm, hm', List.replicate_succ, List.range_succ, List.map_append, List.map_cons, List.map_nil, List.append_assoc, List.cons_append, List.nil_append]
  rw [List.set_append]
  simp
theorem tabArr_get (k i : Nat) (h : i < k) : (tabArr k)[i]? = some (.int .u32 (ent i : Nat)) := by
  simp [tabArr, tabList, List.getElem?_append, h]
theorem tabArr_get' (k i : Nat) (h : k ≤ 256) (hi : i < 256) : ∃ v, (tabArr k)[i]? = some v := by
  have := tabArr_size k h
  exact ⟨_, Array.getElem?_eq_getElem (by omega)⟩
theorem tabArr_zero : Array.replicate 256 (Value.int .u32 0) = tabArr 0 := by
  simp only [tabArr, tabList, List.range_zero, List.map_nil, List.nil_append, Nat.sub_zero, List.toArray_replicate]
theorem tabArr_one (k : Nat) : (tabArr k).all (·.oneCell') = true := by
  refine Array.all_eq_true_iff_forall_mem.2 (fun v hv => ?_)
  simp only [tabArr, List.mem_toArray, tabList, List.mem_append, List.mem_map, List.mem_replicate] at hv
  rcases hv with ⟨_, _, rfl⟩ | ⟨_, rfl⟩ <;> rfl

theorem crcZinfo : (Try.prog.info? 51).map (fun i => (i.zero, i.size)) = some (some (.agg (Array.replicate 256 (.int .u32 0))), 256) := by kernel_rfl

set_option maxHeartbeats 400000 in
set_option maxRecDepth 100000 in
theorem crcTable_any (w : World) :
    Calls Try.prog 25 #[] w fun e w' => e = .returned (.agg (tabArr 256)) ∧ Below w.heap.size w w' := by
  obtain ⟨hz, hsz⟩ := zero_of_info crcZinfo
  rw [tabArr_zero] at hz
  have hsz0 : (Try.prog.info? 51).map (·.size) = some (tabArr 0).size := by rw [tabArr_size 0 (by omega)]; exact hsz
  have hsz1 : (Try.prog.info? 51).map (·.size) = some (tabArr 256).size := by rw [tabArr_size 256 (by omega)]; exact hsz
  have hall := tabArr_one 0
  have hall1 := tabArr_one 256
  have hss : (tabArr 0).size = (tabArr 256).size := by rw [tabArr_size 0 (by omega), tabArr_size 256 (by omega)]
  have hset := tabArr_set
  have hget := tabArr_get'
  generalize hT : tabArr = T at *
  have HT := Lib.hid hT; clear hT
  have Hs0 := Lib.hid hsz0; clear hsz0
  have Hs1 := Lib.hid hsz1; clear hsz1
  have Hall := Lib.hid hall; clear hall
  have Hall1 := Lib.hid hall1; clear hall1
  have Hss := Lib.hid hss; clear hss
  have Hset := Lib.hid hset; clear hset
  have Hget := Lib.hid hget; clear hget
  clear hsz
  go_enter Try.func25, Try.ntmps25
  go_wp2_with (refine wpList_store_row rfl 51 (.tmp 1) (.tmp 3) rfl (w.heap.size + 1) (T 0) rfl rfl 51 (T 0) (heap_alloc2_new _ _ _) Hs0.out rfl Hall.out ?_)
  go_loopw [2, 4] (fun _ b W => ∃ k : Nat, k ≤ 256 ∧ b = .int .i64 k ∧ Whole W (w.heap.size + 1) 51 (T k) ∧ Whole W w.heap.size 51 (T 0) ∧ Below w.heap.size w W) (fun _ b _ => 256 - (intOf b).toNat)
  case atStart =>
    exact ⟨0, by omega, rfl, Whole.row (heap_alloc2_new _ _ _) _, Whole.rowFar (heap_alloc2_old _ _ _) (by omega) _, below_setRow (((Below.refl _ _).alloc (Nat.le_refl _) _).alloc (by simp) _) (by omega) _⟩
  case round =>
    obtain ⟨k, hk, rfl, hw1, hw0, hb⟩ := hrel
    by_cases hlt : k < 256
    · obtain ⟨v, hv⟩ := Hget.out k k hk hlt
      have hc := (hw1.cell k).trans hv
      have hf := hw1.frozen k
      clear hv
      go_wp2_with (go_at_call 49; refine (crcEntry_any k _ (by omega)).mono ?_; rintro e w' ⟨rfl, rfl⟩)
      go_roundw
      case rel => exact ⟨k + 1, by omega, by go_num, by rw [← Hset.out k hlt]; exact hw1.set k _, hw0.far (by simp) _, hb.setCell (by simp) _⟩
      case measure => simp [intOf]; omega
    · obtain rfl : k = 256 := by omega
      go_wp2_with (first
        | (refine wpList_load_row rfl 51 (.tmp 1) rfl (w.heap.size + 1) rfl 51 (T 256) (0, 0) _ hw1 Try.underlying51 rfl Hs1.out ?_)
        | (refine wpList_store_row rfl 51 (.tmp 0) (.tmp 13) rfl w.heap.size (T 256) rfl rfl 51 (T 0) hw0 Hs1.out (Hss.out) Hall1.out ?_))
      exact bodyPost_ret (results_cell_row rfl _ _ w.heap.size 51 (T 256) (0, 0) _ rfl (hw0.row _) Try.underlying51 rfl Hs1.out) rfl ⟨rfl, below_setRow hb (Nat.le_refl _) _⟩
end Go.Proofs.Ytngnhkghpnamoaa

namespace Go.Proofs.Ytngnhkghpnamoaa
open Go.RowKit Crc

theorem u8_xor_walk (n c m : Nat) (hc : c < 256) (hm : m = (n % 256) ^^^ c) : bits .xor .u8 ((n : Int) % 256) (c : Int) = (m : Int) := by
  rw [show ((n : Int) % 256) = ((n % 256 : Nat) : Int) from by omega, u8_xor_nat _ _ (by omega) hc, hm]

theorem u32_xor_walk (a b m : Nat) (ha : a < 4294967296) (hb : b < 4294967296) (hm : m = (a / 256) ^^^ b) : bits .xor .u32 ((a : Int) / 256) (b : Int) = (m : Int) := by
  rw [show ((a : Int) / 256) = ((a / 256 : Nat) : Int) from by omega, u32_xor_nat _ _ (by omega) hb, hm]

set_option maxRecDepth 100000 in
set_option maxHeartbeats 400000 in
theorem crcNext_any (s : Nat) (l : List Nat) (a : Option Addr) (cap : Nat) (w : World) (hs : s < 4294967296) (hl : ∀ x ∈ l, x < 256) (hlen : l.length ≤ maxLen) (hr : Nums .u8 w w.heap.size a l) :
    Calls Try.prog 24 #[.agg (tabArr 256), .int .u32 (s : Int), .slice a l.length cap] w fun e w' => e = .returned (.int .u32 (nxt s l : Nat)) ∧ Below w.heap.size w w' := by
  unfold maxLen at hlen
  have hget : ∀ i, i < 256 → (w.alloc (.cells (tabArr 256) 51)).cell? ⟨w.heap.size, i, none⟩ = some (.int .u32 (ent i : Nat)) := fun i hi =>
    ((Whole.new w _ _).cell i).trans (tabArr_get 256 i hi)
  have hsz1 : (Try.prog.info? 51).map (·.size) = some (tabArr 256).size := by rw [tabArr_size 256 (by omega)]; exact (zero_of_info crcZinfo).2
  generalize hT : tabArr 256 = T at *
  have Hget := Lib.hid hget
  have Hsz1 := Lib.hid hsz1
  have Hl := Lib.hid hl
  clear hT hget hsz1 hl
  go_enter Try.func24, Try.ntmps24
  go_wp2
  go_loop [1, 11] (fun x i => ∃ k : Nat, k ≤ l.length ∧ x = .int .u32 (nxt s (l.take k) : Nat) ∧ i = .int .i64 k) (fun _ i => l.length - (intOf i).toNat)
  case atStart => exact ⟨0, by omega, rfl, rfl⟩
  case round =>
    obtain ⟨k, hk, rfl, rfl⟩ := hrel
    have hnl := nxt_lt (l.take k) s hs (fun x hx => Hl.out x (List.mem_of_mem_take hx))
    by_cases hlt : k < l.length
    · obtain ⟨b, off, rfl, hb, hc0⟩ := hr (by omega)
      have hc1 := (World.cell?_alloc_lt w (.cells T 51) ⟨b, off + k, none⟩ hb).trans (hc0 k hlt)
      clear hc0
      have hc256 : l.getD k 0 < 256 := Hl.out _ (by simp [hlt])
      have hsn := Lib.hid (nxt_snoc s (l.take k) (l.getD k 0))
      have hts := Lib.hid (take_snoc l k 0 hlt)
      generalize hg : nxt s (l.take k) = n at *
      have HN := Lib.hid hg; clear hg
      generalize hg : l.getD k 0 = c at *
      have HC := Lib.hid hg; clear hg
      obtain ⟨m, hm⟩ : ∃ m, m = (n % 256) ^^^ c := ⟨_, rfl⟩
      have hm256 : m < 256 := by rw [hm]; exact xor8 (by omega) hc256
      have hx := u8_xor_walk n c m hc256 hm
      have hc2 := Hget.out m hm256
      have hen := ent_lt hm256
      have Hm := Lib.hid hm; clear hm
      go_wp2
      go_round
      case rel =>
        refine ⟨k + 1, by omega, ?_, by go_num⟩
        rw [hts.out, hsn.out, nx1, ← Hm.out, u32_xor_walk n (ent m) _ hnl hen rfl]
      case measure => simp [intOf]; omega
    · go_wp2
      go_ret
      exact ⟨by rw [List.take_of_length_le (by omega)]; rfl, (Below.refl _ _).alloc (Nat.le_refl _) _⟩

set_option maxHeartbeats 400000 in
theorem crcRNext_any (s : Nat) (l : List Nat) (a : Option Addr) (cap : Nat) (w : World) (hs : s < 4294967296) (hl : ∀ x ∈ l, x < 256) (hlen : l.length ≤ maxLen) (hr : Nums .u8 w w.heap.size a l) :
    Calls Try.prog 37 #[.int .u32 (s : Int), .slice a l.length cap] w fun e w' => e = .returned (.int .u32 (nxt s l : Nat)) ∧ w = w' := by
  unfold maxLen at hlen
  have Hl := Lib.hid hl
  clear hl
  go_enter Try.func37, Try.ntmps37
  go_wp2
  go_loop [0, 5] (fun x i => ∃ k : Nat, k ≤ l.length ∧ x = .int .u32 (nxt s (l.take k) : Nat) ∧ i = .int .i64 k) (fun _ i => l.length - (intOf i).toNat)
  case atStart => exact ⟨0, by omega, rfl, rfl⟩
  case round =>
    obtain ⟨k, hk, rfl, rfl⟩ := hrel
    have hnl := nxt_lt (l.take k) s hs (fun x hx => Hl.out x (List.mem_of_mem_take hx))
    by_cases hlt : k < l.length
    · obtain ⟨b, off, rfl, hb, hc0⟩ := hr (by omega)
      have hc1 := hc0 k hlt
      clear hc0
      have hc256 : l.getD k 0 < 256 := Hl.out _ (by simp [hlt])
      have hsn := Lib.hid (nxt_snoc s (l.take k) (l.getD k 0))
      have hts := Lib.hid (take_snoc l k 0 hlt)
      generalize hg : nxt s (l.take k) = n at *
      have HN := Lib.hid hg; clear hg
      generalize hg : l.getD k 0 = c at *
      have HC := Lib.hid hg; clear hg
      obtain ⟨m, hm⟩ : ∃ m, m = (n % 256) ^^^ c := ⟨_, rfl⟩
      have hm256 : m < 256 := by rw [hm]; exact xor8 (by omega) hc256
      have hx := u8_xor_walk n c m hc256 hm
      have hen := ent_lt hm256
      have Hm := Lib.hid hm; clear hm
      go_wp2_with (go_at_call 59; refine (crcREntry_any m _ (by omega)).mono ?_; rintro e w' ⟨rfl, rfl⟩)
      go_round
      case rel =>
        refine ⟨k + 1, by omega, ?_, by go_num⟩
        rw [hts.out, hsn.out, nx1, ← Hm.out]
        exact congrArg _ (u32_xor_walk n (ent m) _ hnl hen rfl)
      case measure => simp [intOf]; omega
    · go_wp2
      go_ret
      exact ⟨by rw [List.take_of_length_le (by omega)]; rfl, rfl⟩
end Go.Proofs.Ytngnhkghpnamoaa

namespace Go.Proofs.Ytngnhkghpnamoaa
open Go.RowKit Crc





theorem u32_not_walk (n : Nat) (h : n < 4294967296) : bits .xor .u32 IntKind.u32.max (n : Int) = ((4294967295 - n : Nat) : Int) := by
  have e : IntKind.u32.max = ((4294967295 : Nat) : Int) := by decide
  rw [e, u32_xor_nat _ _ (by omega) h]
  have h1 : (BitVec.allOnes 32 ^^^ BitVec.ofNat 32 n).toNat = 4294967295 - n := by
    rw [BitVec.allOnes_xor, BitVec.toNat_not, BitVec.toNat_ofNat, Nat.mod_eq_of_lt h]
  rw [BitVec.toNat_xor, BitVec.toNat_allOnes, BitVec.toNat_ofNat, Nat.mod_eq_of_lt h] at h1
  exact congrArg _ h1

set_option maxRecDepth 100000 in
theorem crcOf_any (l : List Nat) (a : Option Addr) (cap : Nat) (w : World) (hl : ∀ x ∈ l, x < 256) (hlen : l.length ≤ maxLen) (hr : Nums .u8 w w.heap.size a l) :
    Calls Try.prog 14 #[.slice a l.length cap] w fun e w' => e = .returned (.int .u32 (crcOf l : Nat)) ∧ Below w.heap.size w w' := by
  have hn := nxt_lt l 4294967295 (by omega) hl
  have Hl := Lib.hid hl; clear hl
  have Hlen := Lib.hid hlen; clear hlen
  go_enter Try.func14, Try.ntmps14
  go_wp2_with fail
  refine (crcTable_any _).mono ?_
  rintro e w1 ⟨rfl, hb1⟩
  generalize hT : tabArr 256 = T at *
  have HT := Lib.hid hT; clear hT
  go_wp2_with fail
  rw [← HT.out]
  refine (crcNext_any 4294967295 l a cap w1 (by omega) Hl.out Hlen.out ((hr.below hb1).more hb1.size)).mono ?_
  rintro e w2 ⟨rfl, hb2⟩
  have hb3 := hb1.trans (hb2.mono hb1.size)
  rw [HT.out]
  generalize hg : nxt 4294967295 l = n at *
  have HN := Lib.hid hg; clear hg
  go_wp2
  go_ret
  exact ⟨by rw [crcOf, HN.out]; exact congrArg (fun x => Ending.returned (.int .u32 x)) (u32_not_walk n hn), hb3⟩

theorem crcROf_any (l : List Nat) (a : Option Addr) (cap : Nat) (w : World) (hl : ∀ x ∈ l, x < 256) (hlen : l.length ≤ maxLen) (hr : Nums .u8 w w.heap.size a l) :
    Calls Try.prog 18 #[.slice a l.length cap] w fun e w' => e = .returned (.int .u32 (crcOf l : Nat)) ∧ w = w' := by
  have hn := nxt_lt l 4294967295 (by omega) hl
  have Hl := Lib.hid hl; clear hl
  have Hlen := Lib.hid hlen; clear hlen
  go_enter Try.func18, Try.ntmps18
  go_wp2_with fail
  refine (crcRNext_any 4294967295 l a cap w (by omega) Hl.out Hlen.out hr).mono ?_
  rintro e w2 ⟨rfl, rfl⟩
  generalize hg : nxt 4294967295 l = n at *
  have HN := Lib.hid hg; clear hg
  go_wp2
  go_ret
  exact ⟨by rw [crcOf, HN.out]; exact congrArg (fun x => Ending.returned (.int .u32 x)) (by omega), rfl⟩

end Go.Proofs.Ytngnhkghpnamoaa
