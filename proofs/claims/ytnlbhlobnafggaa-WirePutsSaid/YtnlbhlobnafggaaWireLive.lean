/- Walks over layer 7: Put of one field; live. -/
import Derived.Test.YtnlbhlobnafggaaPutField
import Derived.Test.YtnlbhlobnafggaaStr
import Derived.Lib.SlBytesConst
namespace Go.Proofs.Ytnlbhlobnafggaa
open Go.RowKit Var
set_option linter.unusedVariables false
set_option maxRecDepth 100000

set_option maxHeartbeats 4000000 in
theorem put_one (b c : Nat) (num x : Int) (a : Option Addr) (cc : Nat) (d : List Nat) (w : World) (hW : Whole w b 55 #[.int .i64 num, .int .i64 2, .int .u64 x, .slice a d.length cc])
    (hd : Nums .u8 w w.heap.size a d) (hdl : d.length ≤ 100000000) (hn : -9223372036854775808 ≤ num ∧ num < 9223372036854775808) :
    Calls Try.prog 21 #[.slice (some ⟨b, 0, none⟩) 1 c] w (PutPost w (vb (headOf num 2) ++ (vb d.length ++ d))) := by
  have c0 := hW.cell 0
  have c1 := hW.cell 1
  have c2 := hW.cell 2
  have c3 := hW.cell 3
  simp at c0 c1 c2 c3
  have Hp : Hid (∀ W, w.heap.size ≤ W.heap.size → Nums .u8 W w.heap.size a d → Calls Try.prog 34 #[.slice none 0 0, .agg #[.int .i64 num, .int .i64 2, .int .u64 x, .slice a d.length cc]] W (AddPost W w.heap.size (.slice none 0 0) (vb (headOf num 2) ++ (vb d.length ++ d)))) := fun W h1 h2 => by
    have := putField_two w.heap.size (.slice none 0 0) [] num x a cc d W (Own8.nil_ _ _) (by simp) h1 h2 hdl hn
    exact this
  obtain ⟨L, hL⟩ : ∃ L, L = d.length := ⟨_, rfl⟩
  rw [← hL] at c3 Hp ⊢
  have Hd := Lib.hid hd
  clear hL hW hd hdl hn
  go_enter Try.func21, Try.ntmps21
  go_wp2_with fail
  refine wp_loop_rounds 2 ?_
  rw [rounds_succ]
  go_wp2_with fail
  refine (Hp.out _ (by simp) (Hd.out.below ((Below.refl _ _).alloc (Nat.le_refl _) _))).mono ?_
  rintro e w1 ⟨v1, rfl, hg⟩
  have HG := Lib.hid (hg.boxed (Own8.nil_ w w.heap.size))
  clear hg c0 c1 c2 c3 Hp
  go_wp2_with fail
  rw [rounds_succ]
  go_wp2_with fail
  go_ret
  exact ⟨_, rfl, HG.out.own, HG.out.below (Own8.nil_ _ _) (Nat.le_refl _)⟩

theorem str_own {w : World} {base : Nat} {v : Value} {l : List Nat} (h : Own8 w base v l) (hl : ∀ x ∈ l, x < 256) :
    (convert 23 9 v).run Try.prog w = .ok (.string (strOf l)) w := by
  obtain ⟨a, c, rfl, _, _, _, hN⟩ := h.nums
  exact str_of_nums w w.heap.size 23 9 5 a c l Try.underlying23 Try.underlying5 Try.underlying9 hN hl

set_option maxHeartbeats 4000000 in
theorem live_any (w : World) : Calls Try.prog 8 #[] w fun e w' => e = .returned (.bool true) ∧ Below w.heap.size w w' := by
  have kc := fun (w : World) (C : Array Value) (n c : Nat) => Lib.run_convert_bytes_const (P := Try.prog) w 23 5 C n c Try.underlying23 Try.underlying5
  have hp := Lib.hid (putVarint_any none 0 [] 300 w Nums.nil_ (by simp) (fun _ => ⟨rfl, rfl⟩) (by omega))
  go_enter Try.func8, Try.ntmps8
  go_wp2_with fail
  refine hp.out.mono ?_
  rintro e w1 ⟨v1, rfl, hown, hb⟩
  have hs := str_own hown (by simp only [List.nil_append]; exact vb_lt 300)
  rw [show ([] ++ vb 300 : List Nat) = [172, 2] by rw [List.nil_append, vb_big (by omega), vb_small (by omega)]] at hs
  rw [show strOf [172, 2] = ⟨#[172, 2]⟩ by rfl] at hs
  have Hb := Lib.hid hb
  clear hown hb hp
  go_wp2_with fail
  have hN : Nums .u8 ((w1.alloc (.cells #[.int .u8 97, .int .u8 98] 5 (2, 3))).alloc (.cells #[.int .i64 3, .int .i64 2, .int .u64 0, .slice (some ⟨w1.heap.size, 0, none⟩) 2 2] 55)) (w1.heap.size + 1) (some ⟨w1.heap.size, 0, none⟩) [97, 98] := by
    refine Nums.below (w := w1.alloc (.cells #[.int .u8 97, .int .u8 98] 5 (2, 3))) ?_ ((Below.refl _ _).alloc (by simp) _)
    have := Nums.of_block (k := .u8) (w := w1.alloc (.cells #[.int .u8 97, .int .u8 98] 5 (2, 3))) (g := w1.heap.size) (t := 5) (fr := (2, 3)) (l := [97, 98]) (heap_alloc_new w1 _)
    simpa using this
  refine (put_one (w1.heap.size + 1) 1 3 0 _ 2 [97, 98] _ (by have := Whole.new (w1.alloc (.cells #[.int .u8 97, .int .u8 98] 5 (2, 3))) 55 #[.int .i64 3, .int .i64 2, .int .u64 0, .slice (some ⟨w1.heap.size, 0, none⟩) 2 2]; simpa using this) (hN.more (by simp)) (by simp) (by omega)).mono ?_
  rintro e w2 ⟨v2, rfl, hown, hb⟩
  have hs2 := str_own hown (by
    intro x hx
    simp only [List.mem_append] at hx
    rcases hx with hx | hx | hx
    · exact vb_lt _ _ hx
    · exact vb_lt _ _ hx
    · simp at hx; omega)
  rw [show headOf 3 2 = 26 by decide, vb_small (show 26 < 128 by omega), show ([97, 98] : List Nat).length = 2 by rfl, vb_small (show 2 < 128 by omega)] at hs2
  rw [show strOf ([26] ++ ([2] ++ [97, 98])) = ⟨#[26, 2, 97, 98]⟩ by rfl] at hs2
  have Hb2 : Hid (Below w1.heap.size w1 w2) := (((Below.refl _ _).alloc (Nat.le_refl _) _).alloc (by simp) _).trans (hb.mono (by simp; omega))
  clear hown hb hN kc hs
  go_wp2_with fail
  go_ret
  exact ⟨rfl, Hb.out.trans (Hb2.out.mono Hb.out.size)⟩
end Go.Proofs.Ytnlbhlobnafggaa
