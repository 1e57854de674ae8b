/- Layer 13: a header that came in. -/
import Derived.Test.YtlbplefmpbpchaaArch14
import Derived.Test.YtlbplefmpbpchaaRowNil
namespace Go.Proofs.Ytlbplefmpbpchaa
open Go.ChangeShapes Go.WideShapes Go.ChangeAt Go.RowKit
set_option linter.unusedVariables false
set_option maxRecDepth 100000

def HdArg (v : Value) : Prop := ∃ h : Hd, v = hdV h ∧ HdOK h
theorem cell_u64 {W : World} {base : Nat} {v : Value} (h : Cell.okWide Try.prog W .any base 23 v) : ∃ n : Nat, v = .int .u64 (n : Int) ∧ n < 18446744073709551616 := by
  unfold Cell.okWide Cell.ok at h
  rw [Try.underlying23] at h
  cases v <;> simp at h
  obtain ⟨rfl, h⟩ := h
  rename_i n
  have h2 : 0 ≤ n ∧ n ≤ 18446744073709551615 := h
  exact ⟨n.toNat, congrArg (Value.int .u64) (by omega), by omega⟩
theorem cell_i64 {W : World} {base : Nat} {v : Value} (h : Cell.okWide Try.prog W .any base 3 v) : ∃ n : Int, v = .int .i64 n := by
  unfold Cell.okWide Cell.ok at h
  rw [Try.underlying3] at h
  cases v <;> simp at h
  obtain ⟨rfl, h⟩ := h
  exact ⟨_, rfl⟩
theorem cell_bool {W : World} {base : Nat} {v : Value} (h : Cell.okWide Try.prog W .any base 4 v) : ∃ b, v = .bool b := by
  unfold Cell.okWide Cell.ok at h
  rw [Try.underlying4] at h
  cases v <;> simp at h
  exact ⟨_, rfl⟩
theorem hd_types : Try.prog.cellTypes Try.prog.depth 29 = some [23, 23, 23, 23, 23, 23, 23, 23, 23, 23, 23, 4, 3, 3, 3, 3, 3, 3, 3, 3, 3, 3, 3, 3] := by kernel_rfl
theorem array24 {α : Type} {cs : Array α} (h : cs.size = 24) : ∃ c0 c1 c2 c3 c4 c5 c6 c7 c8 c9 c10 c11 c12 c13 c14 c15 c16 c17 c18 c19 c20 c21 c22 c23, cs = #[c0, c1, c2, c3, c4, c5, c6, c7, c8, c9, c10, c11, c12, c13, c14, c15, c16, c17, c18, c19, c20, c21, c22, c23] := by
  obtain ⟨l⟩ := cs
  match l, h with
  | [c0, c1, c2, c3, c4, c5, c6, c7, c8, c9, c10, c11, c12, c13, c14, c15, c16, c17, c18, c19, c20, c21, c22, c23], _ => exact ⟨c0, c1, c2, c3, c4, c5, c6, c7, c8, c9, c10, c11, c12, c13, c14, c15, c16, c17, c18, c19, c20, c21, c22, c23, rfl⟩
theorem open_hd {H : Type} {enc : TypeId × Value → H} {W : World} {base : Nat} {v : Value} {d : DataW H} {p : List MemPlace}
    (hv : Value.okWide Try.prog W .any base 29 v) (h : DataW.Trod enc Try.prog W 0 (fun _ => true) true 29 v d p) : HdArg v := by
  unfold Value.okWide at hv
  rw [Try.underlying29] at hv
  obtain ⟨cs, rfl, hsz, ts, hts, _, hc⟩ := hv
  rw [hd_types] at hts
  injection hts with hts
  subst hts
  obtain ⟨c0, c1, c2, c3, c4, c5, c6, c7, c8, c9, c10, c11, c12, c13, c14, c15, c16, c17, c18, c19, c20, c21, c22, c23, rfl⟩ := array24 (hsz.trans (by kernel_rfl))
  obtain ⟨u, hu, hk⟩ := hc 0 c0 rfl
  obtain rfl : u = 23 := (Option.some.inj hu).symm
  obtain ⟨n0, rfl, b0⟩ := cell_u64 hk
  clear hu hk
  obtain ⟨u, hu, hk⟩ := hc 1 c1 rfl
  obtain rfl : u = 23 := (Option.some.inj hu).symm
  obtain ⟨n1, rfl, b1⟩ := cell_u64 hk
  clear hu hk
  obtain ⟨u, hu, hk⟩ := hc 2 c2 rfl
  obtain rfl : u = 23 := (Option.some.inj hu).symm
  obtain ⟨n2, rfl, b2⟩ := cell_u64 hk
  clear hu hk
  obtain ⟨u, hu, hk⟩ := hc 3 c3 rfl
  obtain rfl : u = 23 := (Option.some.inj hu).symm
  obtain ⟨n3, rfl, b3⟩ := cell_u64 hk
  clear hu hk
  obtain ⟨u, hu, hk⟩ := hc 4 c4 rfl
  obtain rfl : u = 23 := (Option.some.inj hu).symm
  obtain ⟨n4, rfl, b4⟩ := cell_u64 hk
  clear hu hk
  obtain ⟨u, hu, hk⟩ := hc 5 c5 rfl
  obtain rfl : u = 23 := (Option.some.inj hu).symm
  obtain ⟨n5, rfl, b5⟩ := cell_u64 hk
  clear hu hk
  obtain ⟨u, hu, hk⟩ := hc 6 c6 rfl
  obtain rfl : u = 23 := (Option.some.inj hu).symm
  obtain ⟨n6, rfl, b6⟩ := cell_u64 hk
  clear hu hk
  obtain ⟨u, hu, hk⟩ := hc 7 c7 rfl
  obtain rfl : u = 23 := (Option.some.inj hu).symm
  obtain ⟨n7, rfl, b7⟩ := cell_u64 hk
  clear hu hk
  obtain ⟨u, hu, hk⟩ := hc 8 c8 rfl
  obtain rfl : u = 23 := (Option.some.inj hu).symm
  obtain ⟨n8, rfl, b8⟩ := cell_u64 hk
  clear hu hk
  obtain ⟨u, hu, hk⟩ := hc 9 c9 rfl
  obtain rfl : u = 23 := (Option.some.inj hu).symm
  obtain ⟨n9, rfl, b9⟩ := cell_u64 hk
  clear hu hk
  obtain ⟨u, hu, hk⟩ := hc 10 c10 rfl
  obtain rfl : u = 23 := (Option.some.inj hu).symm
  obtain ⟨n10, rfl, b10⟩ := cell_u64 hk
  clear hu hk
  obtain ⟨u, hu, hk⟩ := hc 11 c11 rfl
  obtain rfl : u = 4 := (Option.some.inj hu).symm
  obtain ⟨n11, rfl⟩ := cell_bool hk
  clear hu hk
  obtain ⟨u, hu, hk⟩ := hc 12 c12 rfl
  obtain rfl : u = 3 := (Option.some.inj hu).symm
  obtain ⟨n12, rfl⟩ := cell_i64 hk
  clear hu hk
  obtain ⟨u, hu, hk⟩ := hc 13 c13 rfl
  obtain rfl : u = 3 := (Option.some.inj hu).symm
  obtain ⟨n13, rfl⟩ := cell_i64 hk
  clear hu hk
  obtain ⟨u, hu, hk⟩ := hc 14 c14 rfl
  obtain rfl : u = 3 := (Option.some.inj hu).symm
  obtain ⟨n14, rfl⟩ := cell_i64 hk
  clear hu hk
  obtain ⟨u, hu, hk⟩ := hc 15 c15 rfl
  obtain rfl : u = 3 := (Option.some.inj hu).symm
  obtain ⟨n15, rfl⟩ := cell_i64 hk
  clear hu hk
  obtain ⟨u, hu, hk⟩ := hc 16 c16 rfl
  obtain rfl : u = 3 := (Option.some.inj hu).symm
  obtain ⟨n16, rfl⟩ := cell_i64 hk
  clear hu hk
  obtain ⟨u, hu, hk⟩ := hc 17 c17 rfl
  obtain rfl : u = 3 := (Option.some.inj hu).symm
  obtain ⟨n17, rfl⟩ := cell_i64 hk
  clear hu hk
  obtain ⟨u, hu, hk⟩ := hc 18 c18 rfl
  obtain rfl : u = 3 := (Option.some.inj hu).symm
  obtain ⟨n18, rfl⟩ := cell_i64 hk
  clear hu hk
  obtain ⟨u, hu, hk⟩ := hc 19 c19 rfl
  obtain rfl : u = 3 := (Option.some.inj hu).symm
  obtain ⟨n19, rfl⟩ := cell_i64 hk
  clear hu hk
  obtain ⟨u, hu, hk⟩ := hc 20 c20 rfl
  obtain rfl : u = 3 := (Option.some.inj hu).symm
  obtain ⟨n20, rfl⟩ := cell_i64 hk
  clear hu hk
  obtain ⟨u, hu, hk⟩ := hc 21 c21 rfl
  obtain rfl : u = 3 := (Option.some.inj hu).symm
  obtain ⟨n21, rfl⟩ := cell_i64 hk
  clear hu hk
  obtain ⟨u, hu, hk⟩ := hc 22 c22 rfl
  obtain rfl : u = 3 := (Option.some.inj hu).symm
  obtain ⟨n22, rfl⟩ := cell_i64 hk
  clear hu hk
  obtain ⟨u, hu, hk⟩ := hc 23 c23 rfl
  obtain rfl : u = 3 := (Option.some.inj hu).symm
  obtain ⟨n23, rfl⟩ := cell_i64 hk
  clear hu hk
  exact ⟨⟨n0, n1, n2, n3, n4, n5, n6, n7, n8, n9, n10, n11, n12, n13, n14, n15, n16, n17, n18, n19, n20, n21, n22, n23⟩, rfl, b0, b1, b2, b3, b4, b5, b6, b7, b8, b9, b10⟩
theorem archHeads_walk2 (l : List Nat) (a : Option Addr) (cap : Nat) (v : Value) (n : Int) (W : World) (hx : ∀ x ∈ l, x < 256) (hc : l.length ≤ cap) (hm : cap ≤ maxLen) (hr : Nums .u8 W W.heap.size a l) (g : HdArg v) (hn : -9223372036854775808 ≤ n ∧ n < 9223372036854775808) :
    Calls Try.prog 3 #[.slice a l.length cap, v, .int .i64 n] W fun e w' => e = .returned (.bool true) ∧ Below W.heap.size W w' := by
  obtain ⟨h, rfl, hU⟩ := g
  exact archHeads_walk a cap l h n W hr hx hc hm hU hn
end Go.Proofs.Ytlbplefmpbpchaa
