/- The walk over the statement CrcSums. -/
import Derived.Test.YtbldmjmbbjnhdaaCrcOf
import Derived.Deep.RegionHeld3
import Derived.Deep.DrawnRows
namespace Go.Proofs.Ytbldmjmbbjnhdaa
open Go.RowKit Crc
attribute [local go_sem ↓] Go.wp_at_zero Go.wp_at_succ

/-- What the last statement's operations keep: the table lies in block g, and nothing of what was there has turned. -/
theorem keepS {w w1 w2 : World} {g c : Nat} {TL : List Value} {v : Value} (hb : Below w1.heap.size w1 w2) (h : w1.rangeAt g 0 TL ∧ w1.cell? ⟨g, c, none⟩ = some v ∧ Below w.heap.size w w1 ∧ g < w1.heap.size) :
    w2.rangeAt g 0 TL ∧ w2.cell? ⟨g, c, none⟩ = some v ∧ Below w.heap.size w w2 ∧ g < w2.heap.size :=
  ⟨fun j u hj => (hb.cell h.2.2.2).trans (h.1 j u hj), (hb.cell h.2.2.2).trans h.2.1, h.2.2.1.trans (hb.mono h.2.2.1.size), Nat.lt_of_lt_of_le h.2.2.2 hb.size⟩
theorem keepS0 {w w1 : World} {g c : Nat} {TL : List Value} {v : Value} (h1 : w1.rangeAt g 0 TL) (h2 : w1.cell? ⟨g, c, none⟩ = some v) (h3 : Below w.heap.size w w1) (h4 : g < w1.heap.size) :
    w1.drew.rangeAt g 0 TL ∧ w1.drew.cell? ⟨g, c, none⟩ = some v ∧ Below w.heap.size w w1.drew ∧ g < w1.drew.heap.size :=
  ⟨by simpa using h1, by simpa using h2, h3.drew, h4⟩
theorem keepN {k : IntKind} {w w1 : World} {g c : Nat} {TL : List Value} {v : Value} {a : Option Addr} {l : List Nat} (hr : Nums k w w.heap.size a l)
    (h : w1.rangeAt g 0 TL ∧ w1.cell? ⟨g, c, none⟩ = some v ∧ Below w.heap.size w w1 ∧ g < w1.heap.size) : Nums k w1 w1.heap.size a l :=
  (hr.below h.2.2.1).more h.2.2.1.size

set_option maxRecDepth 100000 in
set_option maxHeartbeats 800000 in
theorem sums_walk (l : List Nat) (a : Option Addr) (cap s c : Nat) (w : World) (hl : ∀ x ∈ l, x < 256) (hlc : l.length ≤ cap) (hcm : cap ≤ maxLen) (hr : Nums .u8 w w.heap.size a l) (hs : s < 4294967296) (hc : c < 256) :
    Calls Try.prog 3 #[.slice a l.length cap, .int .u32 (s : Int), .int .u8 (c : Int)] w fun e w' => e = .returned (.bool true) ∧ Below w.heap.size w w' := by
  have hlen : l.length ≤ maxLen := Nat.le_trans hlc hcm
  have Hl := Lib.hid hl; clear hl
  have Hlen := Lib.hid hlen; clear hlen hlc hcm
  have hz := (zero_of_info zinfo).1
  rw [tabArr_zero] at hz
  have hsz1 : (Try.prog.info? 25).map (·.size) = some (tabArr 256).size := by rw [tabArr_size 256 (by omega)]; exact (zero_of_info zinfo).2
  have hss : (tabArr 0).size = (tabArr 256).size := by rw [tabArr_size 0 (by omega), tabArr_size 256 (by omega)]
  have hall1 := tabArr_one 256
  have hget := tabArr_get 256 c hc
  by_cases hbig : 500 < l.length
  · have hbi : (500 : Int) < (l.length : Int) := by omega
    clear hz hsz1 hss hall1 hget
    go_enter Try.func3, Try.ntmps3
    go_wp2_with (go_at_call 5; refine (live_any _).mono ?_; rintro e w1 ⟨rfl, hb1⟩)
    go_ret
    exact ⟨rfl, hb1⟩
  · have hbi : (l.length : Int) ≤ 500 := by omega
    generalize hT : tabArr 256 = T at *
    have HT := Lib.hid hT; clear hT
    generalize hT0 : tabArr 0 = T0 at *
    have Hsz1 := Lib.hid hsz1; clear hsz1
    have Hss := Lib.hid hss; clear hss
    have Hall1 := Lib.hid hall1; clear hall1
    have Hget := Lib.hid hget; clear hget
    clear hT0
    go_enter Try.func3, Try.ntmps3
    go_wp2_with fail
    refine (table_any _).mono ?_
    rw [HT.out]
    rintro e w1 ⟨rfl, hb1⟩
    go_wp2_with (refine wpList_store_row rfl 25 (.tmp 7) (.tmp 12) rfl w1.heap.size T rfl rfl 25 T0 (heap_alloc_new _ _) Hsz1.out Hss.out Hall1.out ?_)
    have hw0 : Whole ((w1.alloc (.cells T0 25)).setRow w1.heap.size T) w1.heap.size 25 T := Whole.row (heap_alloc_new _ _) _
    have hb2 : Below w.heap.size w ((w1.alloc (.cells T0 25)).setRow w1.heap.size T) := below_setRow (hb1.alloc hb1.size _) hb1.size _
    generalize hW : ((w1.alloc (.cells T0 25)).setRow w1.heap.size T) = W at *
    have hcell := (hw0.cell c).trans Hget.out
    have hlt := hw0.lt
    obtain ⟨TL, hTL⟩ : ∃ TL : List Value, T = TL.toArray := ⟨T.toList, by simp⟩
    have hrange : W.rangeAt w1.heap.size 0 TL := fun j u hj => by rw [Nat.zero_add, hw0.cell j, hTL]; simpa using hj
    have hu := Try.underlying25
    have hi : (Try.prog.info? 25).map (·.size) = some TL.length := by rw [Hsz1.out, hTL]; simp
    have hlen256 : TL.length = 256 := by
      have h1 := HT.out
      have h2 := tabArr_size 256 (by omega)
      rw [h1, hTL] at h2
      simpa using h2
    have hone : ∀ v ∈ TL, v.oneCell' = true := by
      have := Hall1.out; rw [hTL] at this; simpa using this
    generalize w1.heap.size = g at *
    subst hTL
    have hc0 : (0 : Int) ≤ (c : Int) := by omega
    have hc1 : (c : Int) < 256 := by omega
    simp only [Act.put]
    clear hw0 hW hb1
    go_region_held3 (fun w' => w'.rangeAt g 0 TL ∧ w'.cell? ⟨g, c, none⟩ = some (.int .u32 (ent c : Nat)) ∧ Below w.heap.size w w' ∧ g < w'.heap.size)
      (first | exact keepS0 ‹_› ‹_› ‹_› ‹_› | exact keepS hbb (by assumption) | assumption)
      (first
        | (go_at_call 7; refine (of_any l a cap _ Hl.out Hlen.out ?_).mono ?_; (exact keepN hr (by assumption)); rintro e w' ⟨rfl, hbb⟩)
        | (go_at_call 8; refine (rof_any l a cap _ Hl.out Hlen.out ?_).mono ?_; (exact keepN hr (by assumption)); rintro e w' ⟨rfl, rfl⟩)
        | (go_at_call 9; rw [← HT.out]; refine (next_any s l a cap _ hs Hl.out Hlen.out ?_).mono ?_; (exact keepN hr (by assumption)); rintro e w' ⟨rfl, hbb⟩)
        | (go_at_call 10; refine (rnext_any s l a cap _ hs Hl.out Hlen.out ?_).mono ?_; (exact keepN hr (by assumption)); rintro e w' ⟨rfl, rfl⟩)
        | (go_at_call 11; refine (rentry_any c _ hc).mono ?_; rintro e w' ⟨rfl, rfl⟩)
        | (go_at_call 5; refine (live_any _).mono ?_; rintro e w' ⟨rfl, hbb⟩))
    go_wp2
    go_ret
    exact ⟨rfl, by rename_i h; exact h.2.2.1⟩
end Go.Proofs.Ytbldmjmbbjnhdaa
