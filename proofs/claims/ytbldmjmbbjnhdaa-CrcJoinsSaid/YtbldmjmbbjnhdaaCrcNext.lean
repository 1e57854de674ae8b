/- The walks over layer 2's states: Next, Of, Join, and the document's own. -/
import Derived.Test.YtbldmjmbbjnhdaaCrcTab
namespace Go.Proofs.Ytbldmjmbbjnhdaa
open Go.RowKit Crc

theorem u8_xor_walk (n c m : Nat) (hc : c < 256) (hm : m = (n % 256) ^^^ c) : bits .xor .u8 ((n : Int) % 256) (c : Int) = (m : Int) := by
  rw [show ((n : Int) % 256) = ((n % 256 : Nat) : Int) from by omega, u8_xor_nat _ _ (by omega) hc, hm]

theorem u32_xor_walk (a b m : Nat) (ha : a < 4294967296) (hb : b < 4294967296) (hm : m = (a / 256) ^^^ b) : bits .xor .u32 ((a : Int) / 256) (b : Int) = (m : Int) := by
  rw [show ((a : Int) / 256) = ((a / 256 : Nat) : Int) from by omega, u32_xor_nat _ _ (by omega) hb, hm]

set_option maxRecDepth 100000 in
set_option maxHeartbeats 400000 in
theorem next_any (s : Nat) (l : List Nat) (a : Option Addr) (cap : Nat) (w : World) (hs : s < 4294967296) (hl : ∀ x ∈ l, x < 256) (hlen : l.length ≤ maxLen) (hr : Nums .u8 w w.heap.size a l) :
    Calls Try.prog 9 #[.agg (tabArr 256), .int .u32 (s : Int), .slice a l.length cap] w fun e w' => e = .returned (.int .u32 (nxt s l : Nat)) ∧ Below w.heap.size w w' := by
  unfold maxLen at hlen
  have hget : ∀ i, i < 256 → (w.alloc (.cells (tabArr 256) 25)).cell? ⟨w.heap.size, i, none⟩ = some (.int .u32 (ent i : Nat)) := fun i hi =>
    ((Whole.new w _ _).cell i).trans (tabArr_get 256 i hi)
  have hsz1 : (Try.prog.info? 25).map (·.size) = some (tabArr 256).size := by rw [tabArr_size 256 (by omega)]; exact (zero_of_info zinfo).2
  generalize hT : tabArr 256 = T at *
  have Hget := Lib.hid hget
  have Hsz1 := Lib.hid hsz1
  have Hl := Lib.hid hl
  clear hT hget hsz1 hl
  go_enter Try.func9, Try.ntmps9
  go_wp2
  go_loop [1, 11] (fun x i => ∃ k : Nat, k ≤ l.length ∧ x = .int .u32 (nxt s (l.take k) : Nat) ∧ i = .int .i64 k) (fun _ i => l.length - (intOf i).toNat)
  case atStart => exact ⟨0, by omega, rfl, rfl⟩
  case round =>
    obtain ⟨k, hk, rfl, rfl⟩ := hrel
    have hnl := nxt_lt (l.take k) s hs (fun x hx => Hl.out x (List.mem_of_mem_take hx))
    by_cases hlt : k < l.length
    · obtain ⟨b, off, rfl, hb, hc0⟩ := hr (by omega)
      have hc1 := (World.cell?_alloc_lt w (.cells T 25) ⟨b, off + k, none⟩ hb).trans (hc0 k hlt)
      clear hc0
      have hc256 : l.getD k 0 < 256 := Hl.out _ (by simp [hlt])
      have hsn := Lib.hid (nxt_snoc s (l.take k) (l.getD k 0))
      have hts := Lib.hid (take_snoc l k 0 hlt)
      generalize hg : nxt s (l.take k) = n at *
      have HN := Lib.hid hg; clear hg
      generalize hg : l.getD k 0 = c at *
      have HC := Lib.hid hg; clear hg
      obtain ⟨m, hm⟩ : ∃ m, m = (n % 256) ^^^ c := ⟨_, rfl⟩
      have hm256 : m < 256 := by rw [hm]; exact xor8 (by omega) hc256
      have hx := u8_xor_walk n c m hc256 hm
      have hc2 := Hget.out m hm256
      have hen := ent_lt hm256
      have Hm := Lib.hid hm; clear hm
      go_wp2
      go_round
      case rel =>
        refine ⟨k + 1, by omega, ?_, by go_num⟩
        rw [hts.out, hsn.out, nx1, ← Hm.out, u32_xor_walk n (ent m) _ hnl hen rfl]
      case measure => simp [intOf]; omega
    · go_wp2
      go_ret
      exact ⟨by rw [List.take_of_length_le (by omega)]; rfl, (Below.refl _ _).alloc (Nat.le_refl _) _⟩

set_option maxHeartbeats 400000 in
theorem rnext_any (s : Nat) (l : List Nat) (a : Option Addr) (cap : Nat) (w : World) (hs : s < 4294967296) (hl : ∀ x ∈ l, x < 256) (hlen : l.length ≤ maxLen) (hr : Nums .u8 w w.heap.size a l) :
    Calls Try.prog 10 #[.int .u32 (s : Int), .slice a l.length cap] w fun e w' => e = .returned (.int .u32 (nxt s l : Nat)) ∧ w = w' := by
  unfold maxLen at hlen
  have Hl := Lib.hid hl
  clear hl
  go_enter Try.func10, Try.ntmps10
  go_wp2
  go_loop [0, 5] (fun x i => ∃ k : Nat, k ≤ l.length ∧ x = .int .u32 (nxt s (l.take k) : Nat) ∧ i = .int .i64 k) (fun _ i => l.length - (intOf i).toNat)
  case atStart => exact ⟨0, by omega, rfl, rfl⟩
  case round =>
    obtain ⟨k, hk, rfl, rfl⟩ := hrel
    have hnl := nxt_lt (l.take k) s hs (fun x hx => Hl.out x (List.mem_of_mem_take hx))
    by_cases hlt : k < l.length
    · obtain ⟨b, off, rfl, hb, hc0⟩ := hr (by omega)
      have hc1 := hc0 k hlt
      clear hc0
      have hc256 : l.getD k 0 < 256 := Hl.out _ (by simp [hlt])
      have hsn := Lib.hid (nxt_snoc s (l.take k) (l.getD k 0))
      have hts := Lib.hid (take_snoc l k 0 hlt)
      generalize hg : nxt s (l.take k) = n at *
      have HN := Lib.hid hg; clear hg
      generalize hg : l.getD k 0 = c at *
      have HC := Lib.hid hg; clear hg
      obtain ⟨m, hm⟩ : ∃ m, m = (n % 256) ^^^ c := ⟨_, rfl⟩
      have hm256 : m < 256 := by rw [hm]; exact xor8 (by omega) hc256
      have hx := u8_xor_walk n c m hc256 hm
      have hen := ent_lt hm256
      have Hm := Lib.hid hm; clear hm
      go_wp2_with (go_at_call 11; refine (rentry_any m _ (by omega)).mono ?_; rintro e w' ⟨rfl, rfl⟩)
      go_round
      case rel =>
        refine ⟨k + 1, by omega, ?_, by go_num⟩
        rw [hts.out, hsn.out, nx1, ← Hm.out]
        exact congrArg _ (u32_xor_walk n (ent m) _ hnl hen rfl)
      case measure => simp [intOf]; omega
    · go_wp2
      go_ret
      exact ⟨by rw [List.take_of_length_le (by omega)]; rfl, rfl⟩
end Go.Proofs.Ytbldmjmbbjnhdaa
