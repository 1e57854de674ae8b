/- The walks over layer 2's checksums: Of, Join, the page's example, and the document's own checksum. -/
import Derived.Test.YtbldmjmbbjnhdaaCrcNext
import Derived.Test.YtbldmjmbbjnhdaaCrcJoinMath
import Derived.Lib.SlBytesConst
namespace Go.Proofs.Ytbldmjmbbjnhdaa
open Go.RowKit Crc





theorem u32_not_walk (n : Nat) (h : n < 4294967296) : bits .xor .u32 IntKind.u32.max (n : Int) = ((4294967295 - n : Nat) : Int) := by
  have e : IntKind.u32.max = ((4294967295 : Nat) : Int) := by decide
  rw [e, u32_xor_nat _ _ (by omega) h]
  have h1 : (BitVec.allOnes 32 ^^^ BitVec.ofNat 32 n).toNat = 4294967295 - n := by
    rw [BitVec.allOnes_xor, BitVec.toNat_not, BitVec.toNat_ofNat, Nat.mod_eq_of_lt h]
  rw [BitVec.toNat_xor, BitVec.toNat_allOnes, BitVec.toNat_ofNat, Nat.mod_eq_of_lt h] at h1
  exact congrArg _ h1

set_option maxRecDepth 100000 in
theorem of_any (l : List Nat) (a : Option Addr) (cap : Nat) (w : World) (hl : ∀ x ∈ l, x < 256) (hlen : l.length ≤ maxLen) (hr : Nums .u8 w w.heap.size a l) :
    Calls Try.prog 7 #[.slice a l.length cap] w fun e w' => e = .returned (.int .u32 (crcOf l : Nat)) ∧ Below w.heap.size w w' := by
  have hn := nxt_lt l 4294967295 (by omega) hl
  have Hl := Lib.hid hl; clear hl
  have Hlen := Lib.hid hlen; clear hlen
  go_enter Try.func7, Try.ntmps7
  go_wp2_with fail
  refine (table_any _).mono ?_
  rintro e w1 ⟨rfl, hb1⟩
  generalize hT : tabArr 256 = T at *
  have HT := Lib.hid hT; clear hT
  go_wp2_with fail
  rw [← HT.out]
  refine (next_any 4294967295 l a cap w1 (by omega) Hl.out Hlen.out ((hr.below hb1).more hb1.size)).mono ?_
  rintro e w2 ⟨rfl, hb2⟩
  have hb3 := hb1.trans (hb2.mono hb1.size)
  rw [HT.out]
  generalize hg : nxt 4294967295 l = n at *
  have HN := Lib.hid hg; clear hg
  go_wp2
  go_ret
  exact ⟨by rw [crcOf, HN.out]; exact congrArg (fun x => Ending.returned (.int .u32 x)) (u32_not_walk n hn), hb3⟩

theorem rof_any (l : List Nat) (a : Option Addr) (cap : Nat) (w : World) (hl : ∀ x ∈ l, x < 256) (hlen : l.length ≤ maxLen) (hr : Nums .u8 w w.heap.size a l) :
    Calls Try.prog 8 #[.slice a l.length cap] w fun e w' => e = .returned (.int .u32 (crcOf l : Nat)) ∧ w = w' := by
  have hn := nxt_lt l 4294967295 (by omega) hl
  have Hl := Lib.hid hl; clear hl
  have Hlen := Lib.hid hlen; clear hlen
  go_enter Try.func8, Try.ntmps8
  go_wp2_with fail
  refine (rnext_any 4294967295 l a cap w (by omega) Hl.out Hlen.out hr).mono ?_
  rintro e w2 ⟨rfl, rfl⟩
  generalize hg : nxt 4294967295 l = n at *
  have HN := Lib.hid hg; clear hg
  go_wp2
  go_ret
  exact ⟨by rw [crcOf, HN.out]; exact congrArg (fun x => Ending.returned (.int .u32 x)) (by omega), rfl⟩

def nine : List Nat := [49, 50, 51, 52, 53, 54, 55, 56, 57]
theorem crc_nine : crcOf nine = 3421780262 := by decide +kernel

theorem live_any (w : World) : Calls Try.prog 5 #[] w fun e w' => e = .returned (.bool true) ∧ Below w.heap.size w w' := by
  have kc := fun (w : World) (C : Array Value) (n c : Nat) => Lib.run_convert_bytes_const (P := Try.prog) w 22 5 C n c Try.underlying22 Try.underlying5
  go_enter Try.func5, Try.ntmps5
  go_wp2_with fail
  refine (of_any nine _ 9 _ (by decide) (by decide) (Nums.of_block (heap_alloc_new w _))).mono ?_
  rintro e w1 ⟨rfl, hb⟩
  rw [crc_nine]
  go_wp2
  go_ret
  exact ⟨rfl, ((Below.refl _ _).alloc (Nat.le_refl _) _).trans (hb.mono (by simp))⟩
end Go.Proofs.Ytbldmjmbbjnhdaa
