/- Par5 -/
import Derived.Test.YtngnhkghpnamoaaPar4
import Derived.Test.YtngnhkghpnamoaaGb20
import Derived.Test.YtngnhkghpnamoaaGb04
import Derived.Lib.SlBytesConst
namespace Go.Proofs.Ytngnhkghpnamoaa
open Go.RowKit Go.Shelf Huff Bit
set_option linter.unusedVariables false
set_option maxRecDepth 100000

def DataPost (w : World) (out : List Nat) (e : Ending) (w' : World) : Prop := ∃ a c', e = .returned (.tuple #[.slice a out.length c', .int .i64 0]) ∧ Nums .u8 w' w'.heap.size a out ∧ Below w.heap.size w w'
def fixedB {l : List Nat} (hb : Bytes255 l) : List Nat := bytesOf (fixedE hb).1 (fixedE hb).2
theorem fixedE_n {l : List Nat} (hb : Bytes255 l) (hl : l.length ≤ 3000) : (fixedE hb).2 ≤ 96012 := by
  have h1 := accE_n (parseE hb)
  have h2 := parseFrom_length (h := hb) l.length 0
  have h3 := addW1_n (accE (parseE hb)) (i := 256) (by omega)
  unfold fixedE
  unfold parseE at *
  omega
set_option maxHeartbeats 4000000 in
theorem data_fixed (A : Option Addr) (c : Nat) (l : List Nat) (w : World) (hb : Bytes255 l) (hl : l.length ≤ 3000) (hN : Nums .u8 w w.heap.size A l) :
    Calls Try.prog 11 #[.slice A l.length c, .bool false] w (DataPost w (fixedB hb)) := by
  have hn := fixedE_n hb hl
  have HP := Lib.hid fun g (X : World) (hX : Below w.heap.size w X) (hW : Wr X g (.slice none 0 0) 0 0) (hg : w.heap.size ≤ g) => callsIn_wide.1 (putFixed_go g w.heap.size A c l X hb hl (hN.below hX) hW hg)
  obtain ⟨L, hL⟩ : ∃ L, l.length = L := ⟨_, rfl⟩
  rw [hL] at HP hl ⊢
  have d1 : decide (1048576 < (L : Int)) = false := decide_eq_false (by omega)
  have hB0 : Hid (bytesOf (fixedE hb).1 ((fixedE hb).2 + padE (fixedE hb).2) = fixedB hb) := bytes_align _ _ _ rfl
  have hp8 : padE (fixedE hb).2 < 8 := by unfold padE; omega
  have hn2 : (fixedE hb).2 + padE (fixedE hb).2 < 1000000000000 := by omega
  have Hn2 := Lib.hid hn2
  clear hN hL hn hp8 hn2
  go_enter Try.func11, Try.ntmps11
  go_wp2_with fail
  refine (newWriter_any _).mono ?_
  rintro e X ⟨rfl, hW, hB⟩
  have HPX := Lib.hid (HP.out _ X hB hW (Nat.le_refl _))
  have HB := Lib.hid hB
  clear hW hB HP
  go_wp2_with fail
  refine HPX.out.mono ?_
  rintro e X2 ⟨⟨v, rfl⟩, ⟨v2, hW2⟩, hB2⟩
  have HY := Lib.hid (wbytes_any _ _ _ _ X2 hW2 Hn2.out)
  rw [hB0.out] at HY
  have HB2 := Lib.hid (HB.out.trans hB2)
  clear hW2 hB2 HPX HB
  go_wp2_with fail
  refine HY.out.mono ?_
  rintro e X3 ⟨a, c3, rfl, hN3, hB3⟩
  have HN3 := Lib.hid hN3
  have HB3 := Lib.hid (HB2.out.trans (hB3.mono HB2.out.size))
  clear hN3 hB3 HY
  go_wp2_with fail
  go_ret2
  exact ⟨_, _, rfl, HN3.out, HB3.out⟩
theorem abc_255 : Bytes255 [97, 98, 99] := bytes255_of (by decide)
theorem abc_out : fixedB abc_255 = [75, 76, 74, 6, 0] := by decide +kernel
end Go.Proofs.Ytngnhkghpnamoaa
