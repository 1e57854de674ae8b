/- Layer 5: Data with fixed codes. -/
import Derived.Test.YtmheafadahdbfaaPar4
import Derived.Test.YtmheafadahdbfaaHBytes
import Derived.Test.YtmheafadahdbfaaStr
import Derived.Lib.SlBytesConst
namespace Go.Proofs.Ytmheafadahdbfaa
open Go.RowKit Go.Shelf Huff Bit
set_option linter.unusedVariables false
set_option maxRecDepth 100000

def DataPost (w : World) (out : List Nat) (e : Ending) (w' : World) : Prop := ∃ a c', e = .returned (.tuple #[.slice a out.length c', .int .i64 0]) ∧ Nums .u8 w' w'.heap.size a out ∧ Below w.heap.size w w'
def fixedB {l : List Nat} (hb : Bytes255 l) : List Nat := bytesOf (fixedE hb).1 (fixedE hb).2
theorem fixedE_n {l : List Nat} (hb : Bytes255 l) (hl : l.length ≤ 3000) : (fixedE hb).2 ≤ 96012 := by
  have h1 := accE_n (parseE hb)
  have h2 := parseFrom_length (h := hb) l.length 0
  have h3 := addW1_n (accE (parseE hb)) (i := 256) (by omega)
  unfold fixedE
  unfold parseE at *
  omega
set_option maxHeartbeats 4000000 in
theorem data_fixed (A : Option Addr) (c : Nat) (l : List Nat) (w : World) (hb : Bytes255 l) (hl : l.length ≤ 3000) (hN : Nums .u8 w w.heap.size A l) :
    Calls Try.prog 10 #[.slice A l.length c, .bool false] w (DataPost w (fixedB hb)) := by
  have hn := fixedE_n hb hl
  have HP := Lib.hid fun g (X : World) (hX : Below w.heap.size w X) (hW : Wr X g (.slice none 0 0) 0 0) (hg : w.heap.size ≤ g) => callsIn_wide.1 (putFixed_go g w.heap.size A c l X hb hl (hN.below hX) hW hg)
  obtain ⟨L, hL⟩ : ∃ L, l.length = L := ⟨_, rfl⟩
  rw [hL] at HP hl ⊢
  have d1 : decide (1048576 < (L : Int)) = false := decide_eq_false (by omega)
  have hB0 : Hid (bytesOf (fixedE hb).1 ((fixedE hb).2 + padE (fixedE hb).2) = fixedB hb) := bytes_align _ _ _ rfl
  have hp8 : padE (fixedE hb).2 < 8 := by unfold padE; omega
  have hn2 : (fixedE hb).2 + padE (fixedE hb).2 < 1000000000000 := by omega
  have Hn2 := Lib.hid hn2
  clear hN hL hn hp8 hn2
  go_enter Try.func10, Try.ntmps10
  go_wp2_with fail
  refine (newWriter_any _).mono ?_
  rintro e X ⟨rfl, hW, hB⟩
  have HPX := Lib.hid (HP.out _ X hB hW (Nat.le_refl _))
  have HB := Lib.hid hB
  clear hW hB HP
  go_wp2_with fail
  refine HPX.out.mono ?_
  rintro e X2 ⟨⟨v, rfl⟩, ⟨v2, hW2⟩, hB2⟩
  have HY := Lib.hid (wbytes_any _ _ _ _ X2 hW2 Hn2.out)
  rw [hB0.out] at HY
  have HB2 := Lib.hid (HB.out.trans hB2)
  clear hW2 hB2 HPX HB
  go_wp2_with fail
  refine HY.out.mono ?_
  rintro e X3 ⟨a, c3, rfl, hN3, hB3⟩
  have HN3 := Lib.hid hN3
  have HB3 := Lib.hid (HB2.out.trans (hB3.mono HB2.out.size))
  clear hN3 hB3 HY
  go_wp2_with fail
  go_ret2
  exact ⟨_, _, rfl, HN3.out, HB3.out⟩
theorem code_any (z : Int) (w : World) : Calls Try.prog 11 #[.int .i64 z] w fun e w' => e = .returned (.int .i64 z) ∧ w = w' := by
  go_enter Try.func11, Try.ntmps11
  go_wp2_with fail
  go_ret
  exact ⟨rfl, rfl⟩
theorem abc_255 : Bytes255 [97, 98, 99] := bytes255_of (by decide)
theorem abc_out : fixedB abc_255 = [75, 76, 74, 6, 0] := by decide +kernel
set_option maxHeartbeats 4000000 in
theorem live_any (w : World) : Calls Try.prog 9 #[] w fun e w' => e = .returned (.bool true) ∧ Below w.heap.size w w' := by
  have kc := fun (w : World) (C : Array Value) (n c : Nat) => Lib.run_convert_bytes_const (P := Try.prog) w 22 5 C n c Try.underlying22 Try.underlying5
  have Hcode := Lib.hid code_any
  have HD := Lib.hid fun X A c h => data_fixed A c [97, 98, 99] X abc_255 (by decide) h
  go_enter Try.func9, Try.ntmps9
  go_wp2_with fail
  have hN : Nums .u8 (w.alloc (.cells #[.int .u8 97, .int .u8 98, .int .u8 99] 5 (3, 4))) (w.heap.size + 1) (some ⟨w.heap.size, 0, none⟩) [97, 98, 99] := by
    have := Nums.of_block (k := .u8) (w := w.alloc (.cells #[.int .u8 97, .int .u8 98, .int .u8 99] 5 (3, 4))) (g := w.heap.size) (t := 5) (fr := (3, 4)) (l := [97, 98, 99]) (heap_alloc_new w _)
    simpa using this
  refine (HD.out _ _ _ (hN.more (by simp))).mono ?_
  rintro e X ⟨a, c, rfl, hN2, hB⟩
  have hs := str_of_nums (P := Try.prog) X X.heap.size 22 9 5 a c _ Try.underlying22 Try.underlying5 Try.underlying9 hN2 (by rw [abc_out]; decide)
  rw [abc_out] at hs ⊢
  rw [show strOf [75, 76, 74, 6, 0] = ⟨#[75, 76, 74, 6, 0]⟩ by rfl] at hs
  have HB : Hid (Below w.heap.size w X) := ((Below.refl _ _).alloc (Nat.le_refl _) _).trans (hB.mono (by simp))
  simp only [List.length_cons, List.length_nil, Nat.reduceAdd] at hs ⊢
  clear hN hN2 hB kc HD
  go_wp2_with fail
  refine (Hcode.out _ _).mono ?_
  rintro e Y ⟨rfl, rfl⟩
  go_wp2_with fail
  go_ret
  exact ⟨rfl, HB.out⟩
end Go.Proofs.Ytmheafadahdbfaa
