/- Gz2 -/
import Derived.Test.YtngnhkghpnamoaaGc02
import Derived.Lib.AppendZerosOnto
namespace Go.Proofs.Ytngnhkghpnamoaa
open Go.RowKit
set_option linter.unusedVariables false
set_option maxRecDepth 100000

def lowB (n : Nat) : List Nat := [n % 256, n / 256 % 256, n / 65536 % 256, n / 16777216 % 256]
def WordPost (w : World) (n : Nat) (e : Ending) (w' : World) : Prop := ∃ g, e = .returned (.slice (some ⟨g, 0, none⟩) 4 4) ∧ Nums .u8 w' w'.heap.size (some ⟨g, 0, none⟩) (lowB n) ∧ Below w.heap.size w w'
theorem word_any (n : Nat) (w : World) (hn : n < 4294967296) : Calls Try.prog 13 #[.int .u32 (n : Int)] w (WordPost w n) := by
  have e1 : (n : Int) / 256 % 256 = ((n / 256 % 256 : Nat) : Int) := by omega
  have e2 : (n : Int) / 65536 % 256 = ((n / 65536 % 256 : Nat) : Int) := by omega
  have e3 : (n : Int) / 16777216 % 256 = ((n / 16777216 % 256 : Nat) : Int) := by omega
  have E : Hid ((n : Int) % 256 = ((n % 256 : Nat) : Int) ∧ (n : Int) / 256 % 256 = ((n / 256 % 256 : Nat) : Int) ∧ (n : Int) / 65536 % 256 = ((n / 65536 % 256 : Nat) : Int) ∧ (n : Int) / 16777216 % 256 = ((n / 16777216 % 256 : Nat) : Int)) := by show _ ∧ _; omega
  have Hn := Lib.hid hn
  clear e1 e2 e3 hn
  go_enter Try.func13, Try.ntmps13
  go_wp2_with fail
  go_ret
  obtain ⟨e0, e1, e2, e3⟩ := E.out
  rw [e0, e1, e2, e3]
  refine ⟨w.heap.size, rfl, ?_, (Below.refl _ _).alloc (Nat.le_refl _) _⟩
  have := Nums.of_block (k := .u8) (w := w.alloc (.cells #[.int .u8 ((n % 256 : Nat) : Int), .int .u8 ((n / 256 % 256 : Nat) : Int), .int .u8 ((n / 65536 % 256 : Nat) : Int), .int .u8 ((n / 16777216 % 256 : Nat) : Int)] 5)) (g := w.heap.size) (t := 5) (fr := (0, 0)) (l := lowB n) (heap_alloc_new w _)
  exact this.more (by simp)
theorem is_any (b off c : Nat) (l : List Nat) (w : World) (hN : Nums .u8 w w.heap.size (some ⟨b, off, none⟩) l) (h2 : 2 ≤ l.length) (h0 : l.getD 0 0 = 31) (h1 : l.getD 1 0 = 139) :
    Calls Try.prog 10 #[.slice (some ⟨b, off, none⟩) l.length c] w fun e w' => e = .returned (.bool true) ∧ w = w' := by
  obtain ⟨b', off', e, hb, hc⟩ := hN (by omega)
  injection e with e
  injection e with e1 e2
  subst e1; subst e2
  have p0 := hc 0 (by omega)
  have p1 := hc 1 (by omega)
  rw [h0] at p0
  rw [h1] at p1
  obtain ⟨L, hL⟩ : ∃ L, l.length = L := ⟨_, rfl⟩
  rw [hL] at h2 ⊢
  have d1 : decide ((2 : Int) ≤ (L : Int)) = true := decide_eq_true (by omega)
  have i0 : (0 : Int) < (L : Int) := by omega
  have i1 : (1 : Int) < (L : Int) := by omega
  have p0' : w.cell? ⟨b, off, none⟩ = some (.int .u8 31) := p0
  have p1' : w.cell? ⟨b, off + 1, none⟩ = some (.int .u8 139) := p1
  clear hN hc h0 h1 hL p0 p1
  go_enter Try.func10, Try.ntmps10
  go_wp2_with fail
  go_ret
  exact ⟨rfl, rfl⟩
theorem optional_no (f : Value) (w : World) : Calls Try.prog 50 #[.bool false, f] w fun e w' => e = .returned (.int .i64 0) ∧ w = w' := by
  go_enter Try.func50, Try.ntmps50
  go_wp2_with fail
  go_ret
  exact ⟨rfl, rfl⟩
theorem equal_same (a a' : Option Addr) (c c' : Nat) (l : List Nat) (w : World) (hl : Nums .u8 w w.heap.size a l) (hm : Nums .u8 w w.heap.size a' l) (h1 : ∀ x ∈ l, x < 256) :
    Calls Try.prog 28 #[.slice a l.length c, .slice a' l.length c'] w fun e w' => e = .returned (.bool true) ∧ w = w' := by
  have s1 := str_of_nums (P := Try.prog) w w.heap.size 22 9 5 a c l Try.underlying22 Try.underlying5 Try.underlying9 hl h1
  have s2 := str_of_nums (P := Try.prog) w w.heap.size 22 9 5 a' c' l Try.underlying22 Try.underlying5 Try.underlying9 hm h1
  obtain ⟨S, hS⟩ : ∃ S, strOf l = S := ⟨_, rfl⟩
  obtain ⟨L, hL⟩ : ∃ L, l.length = L := ⟨_, rfl⟩
  rw [hS, hL] at s1 s2
  rw [hL]
  clear hl hm h1 hS hL
  go_enter Try.func28, Try.ntmps28
  go_wp2_with fail
  go_ret
  exact ⟨rfl, rfl⟩
theorem app_known {P : Program} {w w' : World} {ops : Array Oper} {rest : List Oper} {o : Oper} {a : Act} {Q : Exit → Act → World → Prop} (hgd : o.guard = none) (s x : Operand) (ts : Array TypeId)
    (ho : o.op = .call { callee := .builtin .append, args := #[s, x], argTypes := ts }) (u v v' : Value) (hs : a.eval s = u) (hx : a.eval x = v)
    (hrun : (Builtin.append_ ts o.type #[u, v]).run P w = .ok v' w') (h : wpList P ops Q rest (a.put o.dst v') w') : wpList P ops Q (o :: rest) a w := by
  refine wpList_plain hgd fun K hK => ?_
  unfold Oper.wp execOp
  simp only [ho, resolve, invoke, builtin, Sem.run_bind, Sem.run_pure, Result.andThen_ok, List.map_toArray, List.map_cons, List.map_nil, hs, hx, hrun]
  exact hK _ _ h
def GrowPost (w : World) (e : Ending) (w' : World) : Prop := ∃ c, e = .returned (.slice (some ⟨w.heap.size, 0, none⟩) 0 c) ∧ Own8 w' w.heap.size (.slice (some ⟨w.heap.size, 0, none⟩) 0 c) [] ∧ Below w.heap.size w w'
set_option maxHeartbeats 2000000 in
theorem grow_any (n : Nat) (w : World) (h0 : 0 < n) (hn : n ≤ 1000000) : Calls Try.prog 23 #[.slice none 0 0, .int .i64 (n : Int)] w (GrowPost w) := by
  obtain ⟨i0, hi0, hz0, hz1, hz2⟩ := info_parts u8info
  have hold : (Builtin.firstCells i0.size 0 (.slice none 0 0)).run Try.prog w.drew = .ok (#[] : Array Value) w.drew := run_firstCells_none w.drew i0.size 0 0 0
  have hrz : ∀ ty, (Builtin.append_ #[22, 3] ty #[.slice none 0 0, .int .i64 (n : Int)]).run Try.prog w = .ok (.slice (some ⟨w.heap.size, 0, none⟩) n (grownCap w n 0 5)) (w.drew.alloc (.cells (#[] ++ Builtin.zeroCells (Value.int .u8 0).cells n ++ Builtin.zeroCells (Value.int .u8 0).cells (grownCap w n 0 5 - n)) 5)) := fun ty => by
    have h := Lib.run_append_grow_zeros w 22 3 ty 5 i0 _ .i64 .i64 Try.underlying22 Try.underlying3 hi0 hz0 none 0 0 [] hold n h0 (by omega) (by omega) (by omega) (by rw [hz2]; omega)
      (by rw [Nat.zero_add]; exact growslice_fits (by omega) (by rw [hz2]; omega))
    rw [Nat.zero_add] at h
    exact h
  obtain ⟨C, hC⟩ : ∃ C, C = grownCap w n 0 5 := ⟨_, rfl⟩
  have hCn : n ≤ C := by rw [hC]; exact grownCap_ge w _ _ _
  have hCm : C ≤ maxLen := by rw [hC]; exact grownCap_le_maxLen w n 0 5 (by unfold maxLen; omega)
  obtain ⟨cs, hcs⟩ : ∃ cs, cs = #[] ++ Builtin.zeroCells (Value.int .u8 0).cells n ++ Builtin.zeroCells (Value.int .u8 0).cells (C - n) := ⟨_, rfl⟩
  have hcz : cs.size = C := by rw [hcs]; simp [size_zeroCells, Value.cells]; omega
  rw [← hC, ← hcs] at hrz
  have Hown : Hid (Own8 (w.drew.alloc (.cells cs 5)) w.heap.size (.slice (some ⟨w.heap.size, 0, none⟩) 0 C) [] ∧ Below w.heap.size w (w.drew.alloc (.cells cs 5))) := by
    refine ⟨⟨rfl, .inr ⟨w.heap.size, C, cs, rfl, Nat.le_refl _, heap_alloc_new w.drew _, Nat.zero_le _, hCm, by rw [hcz, Nat.mul_one], rfl⟩⟩, ?_⟩
    have := (Below.refl w.heap.size w)
    exact ((⟨this.os, this.tape, this.output, this.size, this.block⟩ : Below w.heap.size w w.drew).alloc (Nat.le_refl _) _)
  have d1 : decide ((n : Int) < 0) = false := decide_eq_false (by omega)
  have d2 : decide ((0 : Int) < (n : Int)) = true := decide_eq_true (by omega)
  have d3 : decide (0 < n) = true := decide_eq_true h0
  have w1 : IntKind.i64.wrap (n : Int) = (n : Int) := IntWalk.i64_in _ ⟨by omega, by omega⟩
  have k0 : (0 : Int) ≤ (C : Int) := by omega
  clear hold hC hcs hcz hCn hCm
  go_enter Try.func23, Try.ntmps23
  go_wp2_with (at_builtin; refine app_known rfl (.tmp 20) (.tmp 21) #[22, 3] rfl _ _ _ rfl rfl (hrz _) ?_)
  go_ret
  exact ⟨C, rfl, Hown.out.1, Hown.out.2⟩
end Go.Proofs.Ytngnhkghpnamoaa

namespace Go.Proofs.Ytngnhkghpnamoaa
open Go.RowKit
set_option linter.unusedVariables false
set_option maxRecDepth 100000

def catF (l : Nat → List Nat) : Nat → List Nat
  | 0 => []
  | j + 1 => catF l j ++ l j
theorem catF_step (l : Nat → List Nat) (j : Nat) : (catF l (j + 1)).length = (catF l j).length + (l j).length := by show (catF l j ++ l j).length = _; rw [List.length_append]
theorem catF_le (l : Nat → List Nat) (h : ∀ k, (l k).length ≤ 10000) : ∀ j, (catF l j).length ≤ 10000 * j
  | 0 => Nat.le_refl _
  | j + 1 => by rw [catF_step]; have := catF_le l h j; have := h j; omega
def CatPost (w : World) (L : List Nat) (e : Ending) (w' : World) : Prop := ∃ v, e = .returned v ∧ Own8 w' w.heap.size v L ∧ Below w.heap.size w w'
set_option maxHeartbeats 8000000 in
theorem concat_any (g : Nat) (A : Nat → Option Addr) (C : Nat → Nat) (l : Nat → List Nat) (w : World) (hc : ∀ k, k < 4 → w.cell? ⟨g, k, none⟩ = some (.slice (A k) (l k).length (C k))) (hg : g < w.heap.size)
    (hN : ∀ k, k < 4 → Nums .u8 w w.heap.size (A k) (l k)) (hl : ∀ k, (l k).length ≤ 10000) (h0 : 0 < (catF l 4).length) :
    Calls Try.prog 12 #[.slice (some ⟨g, 0, none⟩) 4 4] w (CatPost w (catF l 4)) := by
  obtain ⟨i0, hi0, hz0, hz1, hz2⟩ := info_parts u8info
  have h4 := catF_le l hl 4
  have HC := Lib.hid hc
  have HG := Lib.hid hg
  have HN := Lib.hid hN
  have Hl := Lib.hid hl
  have Hgr := Lib.hid fun W => grow_any (catF l 4).length W h0 (by omega)
  have H4 := Lib.hid h4
  clear hc hg hN hl h0 h4
  go_enter Try.func12, Try.ntmps12
  go_wp2_with fail
  go_loopw [3, 11] (fun x y W => ∃ k : Nat, k ≤ 4 ∧ x = .int .i64 ((catF l k).length : Int) ∧ y = .int .i64 (k : Int) ∧ W = w) (fun _ y _ => 4 - (intOf y).toNat)
  case atStart => exact ⟨0, by omega, rfl, rfl, rfl⟩
  case round =>
    obtain ⟨k, hk, rfl, rfl, rfl⟩ := hrel
    by_cases hlt : k < 4
    · have p0 := HC.out k hlt
      have hs := catF_step l k
      have hb := catF_le l Hl.out k
      have hb2 := Hl.out k
      obtain ⟨S, hS⟩ : ∃ S, (catF l k).length = S := ⟨_, rfl⟩
      obtain ⟨M, hM⟩ : ∃ M, (l k).length = M := ⟨_, rfl⟩
      rw [hM] at p0 hs hb2
      rw [hS] at hs hb ⊢
      have w1 : IntKind.i64.wrap ((S : Int) + (M : Int)) = (S : Int) + (M : Int) := IntWalk.i64_in _ ⟨by omega, by omega⟩
      have d1 : decide ((S : Int) + (M : Int) < 0) = false := decide_eq_false (by omega)
      have k0 : (0 : Int) ≤ (k : Int) := by omega
      have k1 : (k : Int) < 4 := by omega
      have Hs : Hid (((catF l (k + 1)).length : Int) = (S : Int) + (M : Int)) := by show _ = _; rw [hs]; omega
      clear hs hS hM hb hb2
      go_wp2_with fail
      go_roundw
      case rel => exact ⟨k + 1, by omega, by rw [Hs.out], by go_num, trivial⟩
      case measure => simp [intOf]; omega
    · obtain rfl : k = 4 := by omega
      clear hlt
      go_wp2_with fail
      refine (Hgr.out _).mono ?_
      rintro e W1 ⟨c, rfl, hO, hB⟩
      have HO := Lib.hid hO
      have HB := Lib.hid hB
      clear hO hB Hgr
      go_wp2_with fail
      obtain ⟨w0, rfl⟩ : ∃ w0, w0 = wr := ⟨_, rfl⟩
      go_loopw [6, 27] (fun x y W => ∃ k : Nat, k ≤ 4 ∧ Own8 W w0.heap.size x (catF l k) ∧ Below w0.heap.size w0 W ∧ y = .int .i64 (k : Int)) (fun _ y _ => 4 - (intOf y).toNat)
      case atStart => exact ⟨0, by omega, HO.out, HB.out, rfl⟩
      case round =>
        obtain ⟨k, hk, hO, hB, rfl⟩ := hrel
        have hO1 := Lib.hid hO
        have hB1 := Lib.hid hB
        clear hO hB HO HB
        by_cases hlt : k < 4
        · have p0 := HC.out k hlt
          have hs := catF_step l k
          have hb := catF_le l Hl.out k
          have hb2 := Hl.out k
          have p1 := (hB1.out.cell HG.out).trans p0
          have hV := Vals.of_nums ((HN.out k hlt).below hB1.out)
          have Hone : Hid (∀ u ∈ u8s (l k), u.oneCell' = true) := u8s_one _
          have H1 : Hid ((catF l k).length + (l k).length ≤ maxLen) := by unfold Hid maxLen; omega
          have H2 : Hid (((catF l k).length + (l k).length) * 1 ≤ 140737488355328) := by unfold Hid; omega
          have k0 : (0 : Int) ≤ (k : Int) := by omega
          have k1 : (k : Int) < 4 := by omega
          clear hs hb hb2 p0
          go_wp2_with (at_builtin; refine app_vals rfl (.tmp 31) (.tmp 32) 22 rfl w0.heap.size 5 i0 _ 1 1 Try.underlying22 hi0 hz0 hz1 hz2 rfl (by omega) _ (catF l k).length (u8s (catF l k)) rfl hO1.out w0.heap.size _ _ _ _ rfl hV Hone.out H1.out H2.out hB1.out.size ?_)
          intro v' w' hown1 hg1 hat1
          have hO2 : Own8 w' w0.heap.size v' (catF l (k + 1)) := by
            show w'.ownsRow _ _ _ _ (catF l (k + 1)).length _
            rw [catF_step]
            show w'.ownsRow _ _ _ _ _ (u8s (catF l k ++ l k))
            rw [show u8s (catF l k ++ l k) = u8s (catF l k) ++ u8s (l k) from List.map_append]
            exact hown1
          have hB2 := below_of_grown hB1.out hO1.out hg1 hB1.out.size
          have HO2 := Lib.hid hO2
          have HB2 := Lib.hid hB2
          clear hown1 hg1 hat1 hO2 hB2
          go_wp2_with fail
          go_roundw
          case rel => exact ⟨k + 1, by omega, HO2.out, HB2.out, by go_num⟩
          case measure => simp [intOf]; omega
        · obtain rfl : k = 4 := by omega
          clear hlt
          go_wp2_with fail
          go_ret
          exact ⟨_, rfl, hO1.out, hB1.out⟩
end Go.Proofs.Ytngnhkghpnamoaa
