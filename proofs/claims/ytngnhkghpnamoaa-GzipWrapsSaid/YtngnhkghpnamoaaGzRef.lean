/- GzRef -/
import Derived.Test.YtngnhkghpnamoaaGzL
import Derived.Test.YtngnhkghpnamoaaRefDataF
namespace Go.Proofs.Ytngnhkghpnamoaa
open Go.RowKit Huff Bit
set_option linter.unusedVariables false
set_option maxRecDepth 100000

def lowK (n : Nat) : Nat → List Nat
  | 0 => []
  | k + 1 => lowK n k ++ [n / 256 ^ k % 256]
theorem lowK_length (n : Nat) : ∀ k, (lowK n k).length = k
  | 0 => rfl
  | k + 1 => by show (lowK n k ++ _).length = _; rw [List.length_append, lowK_length n k]; rfl
theorem lowK_four (n : Nat) : lowK n 4 = lowB n := by
  show [n / 256 ^ 0 % 256, n / 256 ^ 1 % 256, n / 256 ^ 2 % 256, n / 256 ^ 3 % 256] = _
  rw [show n / 256 ^ 0 = n by omega]
  rfl
theorem own_head (w : World) : Own8 (w.alloc (.cells #[.int .u8 31, .int .u8 139, .int .u8 8, .int .u8 0, .int .u8 0, .int .u8 0, .int .u8 0, .int .u8 0, .int .u8 0, .int .u8 255] 5)) w.heap.size (.slice (some ⟨w.heap.size, 0, none⟩) 10 10) headB :=
  ⟨rfl, .inr ⟨w.heap.size, 10, _, rfl, Nat.le_refl _, heap_alloc_new _ _, Nat.le_refl _, by unfold maxLen; omega, rfl, rfl⟩⟩
theorem app_own {W : World} {base : Nat} {v : Value} {l m : List Nat} {A : Option Addr} {c : Nat} {ops : Array Oper} {rest : List Oper} {o : Oper} {a : Act} {Q : Exit → Act → World → Prop} (hgd : o.guard = none) (s x : Operand)
    (ho : o.op = .call { callee := .builtin .append, args := #[s, x], argTypes := #[22, 22] }) (hs : a.eval s = v) (hown : Own8 W base v l) (hx : a.eval x = .slice A m.length c) (hm : Nums .u8 W W.heap.size A m) (hlen : l.length + m.length ≤ 1000000) (hbase : base ≤ W.heap.size)
    (h : ∀ v' w', Own8 w' base v' (l ++ m) → Below base W w' → wpList Try.prog ops Q rest (a.put o.dst v') w') : wpList Try.prog ops Q (o :: rest) a W := by
  obtain ⟨i0, hi0, hz0, hz1, hz2⟩ := info_parts u8info
  refine app_vals hgd s x 22 ho base 5 i0 _ 1 1 Try.underlying22 hi0 hz0 hz1 hz2 rfl (by omega) v l.length (u8s l) hs hown W.heap.size A m.length c (u8s m) hx (Vals.of_nums hm) (u8s_one m) (by unfold maxLen; omega) (by omega) hbase ?_
  intro v' w' hown1 hg1 hat1
  refine h v' w' ?_ ?_
  · show w'.ownsRow _ _ _ _ (l ++ m).length (u8s (l ++ m))
    rw [List.length_append, u8s_append]
    exact hown1
  · exact below_of_grown ⟨rfl, rfl, rfl, Nat.le_refl _, fun _ _ => rfl⟩ hown hg1 hbase
def LowPost (w : World) (L : List Nat) (e : Ending) (w' : World) : Prop := ∃ v, e = .returned v ∧ Own8 w' w.heap.size v L ∧ Below w.heap.size w w'
set_option maxHeartbeats 4000000 in
theorem gzlow_any (n : Nat) (w : World) (hn : n < 4294967296) : Calls Try.prog 17 #[.int .u32 (n : Int), .int .i64 4] w (LowPost w (lowB n)) := by
  obtain ⟨i0, hi0, hz0, hz1, hz2⟩ := info_parts u8info
  have Hn := Lib.hid hn
  clear hn
  go_enter Try.func17, Try.ntmps17
  go_wp2_with fail
  obtain ⟨w0, rfl⟩ : ∃ w0, w0 = w := ⟨_, rfl⟩
  go_loopw [0, 5, 6] (fun x v i W => ∃ k : Nat, k ≤ 4 ∧ x = .int .u32 ((n / 256 ^ k : Nat) : Int) ∧ Own8 W w0.heap.size v (lowK n k) ∧ i = .int .i64 (k : Int) ∧ Below w0.heap.size w0 W) (fun _ _ i _ => 4 - (intOf i).toNat)
  case atStart => exact ⟨0, by omega, by rw [show n / 256 ^ 0 = n by omega], Own8.nil_ _ _, rfl, Below.refl _ _⟩
  case round =>
    obtain ⟨k, hk, rfl, hO, rfl, hB⟩ := hrel
    have HO := Lib.hid hO
    have HB := Lib.hid hB
    clear hO hB
    by_cases hk4 : k < 4
    · obtain ⟨m, hm⟩ : ∃ m, n / 256 ^ k = m := ⟨_, rfl⟩
      have hmn : m ≤ n := by rw [← hm]; exact Nat.div_le_self _ _
      have hnx : n / 256 ^ (k + 1) = m / 256 := by rw [← hm, Nat.pow_succ, Nat.div_div_eq_div_mul]
      have hst : lowK n (k + 1) = lowK n k ++ [m % 256] := by rw [← hm]; rfl
      have hnn := Hn.out
      have Hnx := Lib.hid hnx
      have Hst := Lib.hid hst
      have kl : (k : Int) < 4 := by omega
      have kd : decide ((k : Int) < 4) = true := decide_eq_true kl
      have kd2 : decide (k < 4) = true := decide_eq_true hk4
      rw [hm]
      clear hnx hst hm
      have hNm : Nums .u8 (wr.alloc (.cells #[.int .u8 ((m : Int) % 256)] 5)) (wr.alloc (.cells #[.int .u8 ((m : Int) % 256)] 5)).heap.size (some ⟨wr.heap.size, 0, none⟩) [m % 256] := by
        have := Nums.of_block (k := .u8) (w := wr.alloc (.cells #[.int .u8 ((m : Int) % 256)] 5)) (g := wr.heap.size) (t := 5) (fr := (0, 0)) (l := [m % 256]) (heap_alloc_new wr _)
        exact this.more (by simp)
      have hB2 : Below w0.heap.size w0 (wr.alloc (.cells #[.int .u8 ((m : Int) % 256)] 5)) := HB.out.alloc HB.out.size _
      have HO2 := Lib.hid (HO.out.alloc (.cells #[.int .u8 ((m : Int) % 256)] 5))
      have HB2 := Lib.hid hB2
      have HNm := Lib.hid hNm
      have Hll : Hid ((lowK n k).length + [m % 256].length ≤ 1000000) := by show _ ≤ _; rw [lowK_length]; show k + 1 ≤ _; omega
      clear hNm hB2
      go_wp2_with (at_builtin; refine app_own rfl (.tmp 12) (.tmp 16) rfl rfl HO2.out rfl HNm.out Hll.out HB2.out.size ?_)
      intro v3 W3 hO3 hB3
      have HO3 := Lib.hid hO3
      have HB3 := Lib.hid (HB2.out.trans hB3)
      clear hO3 hB3 HO2 HB2 HNm HO HB
      go_wp2_with fail
      go_roundw
      case rel => exact ⟨k + 1, by omega, by rw [Hnx.out]; rfl, by rw [Hst.out]; exact HO3.out, by go_num, HB3.out⟩
      case measure => simp [intOf]; omega
    · obtain rfl : k = 4 := by omega
      go_wp2_with fail
      go_ret
      rw [lowK_four] at HO
      exact ⟨_, rfl, HO.out, HB.out⟩
def RWPost (w : World) (L : List Nat) (e : Ending) (w' : World) : Prop := ∃ a c, e = .returned (.slice a L.length c) ∧ Nums .u8 w' w'.heap.size a L ∧ Below w.heap.size w w'
set_option maxHeartbeats 8000000 in
theorem refWrap_any (A : Option Addr) (c : Nat) (l : List Nat) (w : World) (hb : Bytes255 l) (hl : l.length ≤ 300) (h256 : ∀ x ∈ l, x < 256) (hN : Nums .u8 w w.heap.size A l) :
    Calls Try.prog 9 #[.slice A l.length c] w (RWPost w (gzB hb)) := by
  have HD := Lib.hid fun W (hB : Below w.heap.size w W) => refData_fixed A c l W hb (by omega) ((hN.below hB).more hB.size)
  have Hfl := Lib.hid (fixed_length hb (by omega))
  have HC := Lib.hid fun W (hB : Below w.heap.size w W) => crcROf_any l A c W h256 (by unfold maxLen; omega) ((hN.below hB).more hB.size)
  have HL1 := Lib.hid fun W => gzlow_any (Crc.crcOf l) W (Crc.crcOf_lt l)
  have HL2 := Lib.hid fun W => gzlow_any l.length W (by omega)
  have hls : (l.length : Int) % 4294967296 = (l.length : Int) := by omega
  have wu : IntKind.u32.wrap (l.length : Int) = (l.length : Int) := IntWalk.u32_in _ ⟨by omega, by omega⟩
  clear hN h256 hl
  go_enter Try.func9, Try.ntmps9
  go_wp2_with fail
  have hO := own_head w
  have hBz : Below w.heap.size w (w.alloc (.cells #[.int .u8 31, .int .u8 139, .int .u8 8, .int .u8 0, .int .u8 0, .int .u8 0, .int .u8 0, .int .u8 0, .int .u8 0, .int .u8 255] 5)) := (Below.refl _ _).alloc (Nat.le_refl _) _
  obtain ⟨Z, hZ⟩ : ∃ Z, w.alloc (.cells #[.int .u8 31, .int .u8 139, .int .u8 8, .int .u8 0, .int .u8 0, .int .u8 0, .int .u8 0, .int .u8 0, .int .u8 0, .int .u8 255] 5) = Z := ⟨_, rfl⟩
  rw [hZ] at hO hBz ⊢
  have HO := Lib.hid hO
  have HB := Lib.hid hBz
  clear hZ hO hBz
  refine (HD.out _ HB.out).mono ?_
  rintro e Z1 ⟨a1, c1, rfl, hN1, hB⟩
  have HB1 := Lib.hid (keepBelow hB HB.out)
  have HO1 := Lib.hid (HO.out.below hB)
  have HN1 := Lib.hid hN1
  clear hB hN1 HD HO HB
  go_wp2_with (at_builtin; refine app_own rfl (.tmp 4) (.tmp 6) rfl rfl HO1.out rfl HN1.out (by have := Hfl.out; show 10 + _ ≤ _; omega) HB1.out.size ?_)
  intro v2 Z2 hO2 hB2
  have HB2 := Lib.hid (HB1.out.trans hB2)
  have HO2 := Lib.hid hO2
  clear hO2 hB2 HO1 HN1
  go_wp2_with fail
  refine (HC.out _ HB2.out).mono ?_
  rintro e Z3 ⟨rfl, rfl⟩
  have HB3 := HB2
  have HO3 := HO2
  clear HC HO2 HB2
  go_wp2_with fail
  refine (HL1.out _).mono ?_
  rintro e Z4 ⟨v4, rfl, hO4, hB⟩
  have HB4 := Lib.hid (keepBelow hB HB3.out)
  have HO4 := Lib.hid (HO3.out.below hB)
  obtain ⟨a4, c4, rfl, _, _, _, hN4⟩ := hO4.nums
  have HN4 := Lib.hid hN4
  clear hB HO3 HB3 hO4 hN4 HL1
  go_wp2_with (at_builtin; refine app_own rfl (.tmp 8) (.tmp 11) rfl rfl HO4.out rfl HN4.out (by have := Hfl.out; rw [List.length_append]; show 10 + _ + 4 ≤ _; omega) HB4.out.size ?_)
  intro v5 Z5 hO5 hB5
  have HB5 := Lib.hid (HB4.out.trans hB5)
  have HO5 := Lib.hid hO5
  clear hO5 hB5 HO4 HN4 HB4
  go_wp2_with fail
  refine (HL2.out _).mono ?_
  rintro e Z6 ⟨v6, rfl, hO6, hB⟩
  have HB6 := Lib.hid (keepBelow hB HB5.out)
  have HO6 := Lib.hid (HO5.out.below hB)
  obtain ⟨a6, c6, rfl, _, _, _, hN6⟩ := hO6.nums
  have HN6 := Lib.hid hN6
  clear hB HO5 HB5 hO6 hN6 HL2
  go_wp2_with (at_builtin; refine app_own rfl (.tmp 12) (.tmp 16) rfl rfl HO6.out rfl HN6.out (by have := Hfl.out; rw [List.length_append, List.length_append]; show 10 + _ + 4 + 4 ≤ _; omega) HB6.out.size ?_)
  intro v7 Z7 hO7 hB7
  have hB7 := HB6.out.trans hB7
  have hO7 : Own8 Z7 w.heap.size v7 (gzB hb) := hO7
  obtain ⟨a7, c7, rfl, _, _, _, hN7⟩ := hO7.nums
  have HN7 := Lib.hid hN7
  have HB7 := Lib.hid hB7
  clear hO7 hB7 hN7 HO6 HN6 HB6
  go_wp2_with fail
  go_ret
  exact ⟨a7, c7, rfl, HN7.out, HB7.out⟩
end Go.Proofs.Ytngnhkghpnamoaa
