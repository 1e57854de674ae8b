/- GzL -/
import Derived.BigQuiet
import Derived.Test.YtngnhkghpnamoaaGz2
import Derived.Test.YtngnhkghpnamoaaGzMath
import Derived.Test.YtngnhkghpnamoaaCrcOf
namespace Go.Proofs.Ytngnhkghpnamoaa
open Go.RowKit Huff Bit
set_option linter.unusedVariables false
set_option maxRecDepth 100000

def Plain10 (l : List Nat) : Prop := l.getD 0 0 = 31 ∧ l.getD 1 0 = 139 ∧ l.getD 2 0 = 8 ∧ l.getD 3 0 = 0
theorem skip_short (g : Nat) (a : Option Addr) (L c : Nat) (w : World) (hw : Whole w g 55 #[.slice a L c, .int .i64 0]) (hL : L < 10) :
    Calls Try.prog 26 #[.pointer (some ⟨g, 0, none⟩)] w fun e w' => e = .returned (.int .i64 2) ∧ w' = w := by
  have p0 := hw.cell 0
  have d1 : decide ((L : Int) < 10) = true := decide_eq_true (by omega)
  have d2 : decide (L < 10) = true := decide_eq_true hL
  clear hw hL
  go_enter Try.func26, Try.ntmps26
  go_wp2_with fail
  go_ret
  exact ⟨rfl, rfl⟩
set_option maxHeartbeats 4000000 in
theorem skip_plain (g b off : Nat) (l : List Nat) (c : Nat) (w : World) (hw : Whole w g 55 #[.slice (some ⟨b, off, none⟩) l.length c, .int .i64 0]) (hN : Nums .u8 w w.heap.size (some ⟨b, off, none⟩) l) (h10 : 10 ≤ l.length) (hp : Plain10 l) :
    Calls Try.prog 26 #[.pointer (some ⟨g, 0, none⟩)] w fun e w' => e = .returned (.int .i64 0) ∧ w' = w.setCell ⟨g, 1, none⟩ (.int .i64 10) := by
  have p0 := hw.cell 0
  have p1 := hw.cell 1
  have f1 := hw.frozen 1
  have HI := Lib.hid (is_any b off c l w hN (by omega) hp.1 hp.2.1)
  have HO := Lib.hid optional_no
  obtain ⟨b', off', e, hb, hc⟩ := hN (by omega)
  injection e with e
  injection e with e1 e2
  subst e1; subst e2
  have p2 := hc 2 (by omega)
  have p3 := hc 3 (by omega)
  rw [hp.2.2.1] at p2
  rw [hp.2.2.2] at p3
  have p2' : w.cell? ⟨b, off + 2, none⟩ = some (.int .u8 8) := p2
  have p3' : w.cell? ⟨b, off + 3, none⟩ = some (.int .u8 0) := p3
  obtain ⟨L, hL⟩ : ∃ L, l.length = L := ⟨_, rfl⟩
  rw [hL] at h10 HI p0
  have d1 : decide ((L : Int) < 10) = false := decide_eq_false (by omega)
  have d2 : decide (L < 10) = false := decide_eq_false (by omega)
  have i0 : (2 : Int) < (L : Int) := by omega
  have i1 : (3 : Int) < (L : Int) := by omega
  have hmf : ∀ (fn : Fn) (first cap : Array Value) (w : World), (Instr.makeFunc fn first cap).run Try.prog w = .ok (.func fn first cap) w := fun _ _ _ _ => rfl
  clear hN hc hp hL p2 p3 hw
  go_enter Try.func26, Try.ntmps26
  go_wp2_with fail
  refine HI.out.mono ?_
  rintro e Y ⟨rfl, rfl⟩
  go_wp2_with fail
  refine (HO.out _ _).mono ?_
  rintro e Y ⟨rfl, rfl⟩
  go_wp2_with fail
  refine (HO.out _ _).mono ?_
  rintro e Y ⟨rfl, rfl⟩
  go_wp2_with fail
  refine (HO.out _ _).mono ?_
  rintro e Y ⟨rfl, rfl⟩
  go_wp2_with fail
  refine (HO.out _ _).mono ?_
  rintro e Y ⟨rfl, rfl⟩
  go_wp2_with fail
  go_ret
  exact ⟨rfl, rfl⟩
end Go.Proofs.Ytngnhkghpnamoaa

namespace Go.Proofs.Ytngnhkghpnamoaa
open Go.RowKit Huff Bit
set_option linter.unusedVariables false
set_option maxRecDepth 100000

def MemPost (w : World) (r : List Nat × Nat × Nat) (e : Ending) (w' : World) : Prop := ∃ a c, e = .returned (.tuple #[.slice a r.1.length c, .int .i64 (r.2.1 : Int), .int .i64 (r.2.2 : Int)]) ∧ Nums .u8 w' w'.heap.size a r.1 ∧ Below w.heap.size w w'
theorem member_tiny (b off L c : Nat) (M : Int) (w : World) (hL : L < 10) :
    Calls Try.prog 15 #[.slice (some ⟨b, off, none⟩) L c, .int .i64 M] w (MemPost w ([], 0, 2)) := by
  have HS := Lib.hid fun W g hw => skip_short g (some ⟨b, off, none⟩) L c W hw hL
  clear hL
  go_enter Try.func15, Try.ntmps15
  go_wp2_with fail
  refine (HS.out _ _ (Whole.new _ _ _)).mono ?_
  rintro e Y ⟨rfl, rfl⟩
  go_wp2_with fail
  go_ret3
  exact ⟨none, 0, rfl, fun h => absurd h (by simp), (Below.refl _ _).alloc (Nat.le_refl _) _⟩
theorem lowB_mod (n : Nat) : lowB (n % 4294967296) = lowB n := by
  unfold lowB
  rw [show n % 4294967296 % 256 = n % 256 by omega, show n % 4294967296 / 256 % 256 = n / 256 % 256 by omega, show n % 4294967296 / 65536 % 256 = n / 65536 % 256 by omega, show n % 4294967296 / 16777216 % 256 = n / 16777216 % 256 by omega]
theorem word_len (n : Nat) (W : World) : Calls Try.prog 13 #[.int .u32 ((n : Int) % 4294967296)] W (WordPost W n) := by
  have := word_any (n % 4294967296) W (Nat.mod_lt _ (by omega))
  unfold WordPost at this ⊢
  rw [lowB_mod] at this
  exact this
set_option maxHeartbeats 4000000 in
theorem member_any (b off c M : Nat) (l : List Nat) (w : World) (hN : Nums .u8 w w.heap.size (some ⟨b, off, none⟩) l) (hlc : l.length ≤ c) (hc10 : 10 < c) (hcm : c ≤ maxLen) (hl : l.length ≤ 4096) (h256 : ∀ x ∈ l, x < 256)
    (hp : 10 ≤ l.length → Plain10 l) (hM : M ≤ 1048576)
    (hg : ∀ o u, inflM (l.drop 10) M = (o, u, 0) → 10 + u + 8 ≤ l.length → (l.drop (10 + u)).take 8 = tailB o) :
    Calls Try.prog 15 #[.slice (some ⟨b, off, none⟩) l.length c, .int .i64 (M : Int)] w (MemPost w (memM l M)) := by
  by_cases h10 : l.length < 10
  · rw [show memM l M = ([], 0, 2) by unfold memM; rw [if_pos h10]]
    exact member_tiny b off _ c _ w h10
  have HS := Lib.hid fun W g hw (hB : Below w.heap.size w W) => skip_plain g b off l c W hw ((hN.below hB).more hB.size) (by omega) (hp (by omega))
  have HD := Lib.hid fun W (hB : Below w.heap.size w W) => infl_any (some ⟨b, off + 10, none⟩) (c - 10) (l.drop 10) (M : Int) W (((hN.dropI 10).below hB).more hB.size) (fun e => by cases e) (by rw [List.length_drop]; omega) (fun x hx => h256 x (List.mem_of_mem_drop hx))
  rw [show dataZ (l.drop 10) (M : Int) = inflM (l.drop 10) M by unfold dataZ; rw [if_neg (by omega), Int.toNat_natCast], List.length_drop] at HD
  rcases infl_cases (l.drop 10) M with ⟨E, hE, hR⟩ | ⟨o, u, hR, hu1, hu2, hback⟩
  · rw [show memM l M = ([], 0, E) by unfold memM; rw [if_neg h10, hR, if_pos hE]]
    rw [hR] at HD
    obtain ⟨L, hL⟩ : ∃ L, l.length = L := ⟨_, rfl⟩
    rw [hL] at HS HD ⊢
    have e1 : ((E : Int) != 0) = true := by simp; omega
    have i0 : (10 : Int) ≤ (L : Int) := by omega
    have h12 : ¬ (c - 10 = 0) := by omega
    have h13 : (10 : Int) ≤ (c : Int) := by omega
    have h14 : ¬ ((c : Int) = 10) := by omega
    clear hN h256 hp hg hR hE hL hM
    go_enter Try.func15, Try.ntmps15
    go_wp2_with fail
    have hB1 : Below w.heap.size w (w.alloc (Obj.cells #[Value.slice (some ⟨b, off, none⟩) L c, Value.int IntKind.i64 0] 55)) := (Below.refl _ _).alloc (Nat.le_refl _) _
    have hW1 : Whole (w.alloc (Obj.cells #[Value.slice (some ⟨b, off, none⟩) L c, Value.int IntKind.i64 0] 55)) w.heap.size 55 #[.slice (some ⟨b, off, none⟩) L c, .int .i64 0] := Whole.new _ _ _
    obtain ⟨W1, hWW⟩ : ∃ W1, w.alloc (Obj.cells #[Value.slice (some ⟨b, off, none⟩) L c, Value.int IntKind.i64 0] 55) = W1 := ⟨_, rfl⟩
    rw [hWW] at hB1 hW1 ⊢
    clear hWW
    have HB1 := Lib.hid hB1
    have HW1 := Lib.hid hW1
    clear hB1 hW1
    refine (HS.out _ _ HW1.out HB1.out).mono ?_
    rintro e Y ⟨rfl, rfl⟩
    have c1 := (HW1.out.set 1 (.int .i64 10)).cell 1
    have HB2 := Lib.hid (HB1.out.setCell (p := ⟨w.heap.size, 1, none⟩) (Nat.le_refl _) (.int .i64 10))
    obtain ⟨Y, hY⟩ : ∃ Y, W1.setCell ⟨w.heap.size, 1, none⟩ (.int .i64 10) = Y := ⟨_, rfl⟩
    rw [hY] at c1 HB2 ⊢
    clear hY HB1 HW1
    go_wp2_with fail
    refine (HD.out _ HB2.out).mono ?_
    rintro e Y2 ⟨a2, c2, rfl, _, _, _, _, hB⟩
    have HB3 := Lib.hid (keepBelow hB HB2.out)
    clear hB HB2
    go_wp2_with fail
    go_ret3
    exact ⟨none, 0, rfl, fun h => absurd h (by simp), HB3.out⟩
  · rw [hR] at HD
    have hm : memM l M = if l.length < 10 + u + 8 then ([], 0, 2) else (o, 10 + u + 8, 0) := by
      unfold memM
      rw [if_neg h10, hR, if_neg (by simp)]
      by_cases hs : l.length < 10 + u + 8
      · rw [if_pos hs, if_pos hs]
      · rw [if_neg hs, if_neg hs, if_pos (hg o u hR (by omega))]
    have ho : ∀ x ∈ o, x < 256 := by have := infl_256 (l.drop 10) M; rw [hR] at this; exact this
    have hgd := hg o u hR
    have hul : u ≤ l.length := by rw [List.length_drop] at hu2; omega
    rw [hm]
    obtain ⟨E, hE⟩ : ∃ E, 10 + u = E := ⟨_, rfl⟩
    rw [hE] at hgd ⊢
    obtain ⟨L, hL⟩ : ∃ L, l.length = L := ⟨_, rfl⟩
    rw [hL] at HS HD hgd ⊢
    have i0 : (10 : Int) ≤ (L : Int) := by omega
    have h12 : ¬ (c - 10 = 0) := by omega
    have h13 : (10 : Int) ≤ (c : Int) := by omega
    have h14 : ¬ ((c : Int) = 10) := by omega
    have w1 : IntKind.i64.wrap (10 + (u : Int)) = (E : Int) := by rw [show 10 + (u : Int) = (E : Int) by omega]; exact IntWalk.i64_in _ ⟨by omega, by omega⟩
    have w2 : IntKind.i64.wrap ((L : Int) - (E : Int)) = (L : Int) - (E : Int) := IntWalk.i64_in _ ⟨by omega, by omega⟩
    clear h256 hp hg hR hM hback hm
    obtain ⟨R, hRR⟩ : ∃ R, (if L < E + 8 then (([] : List Nat), 0, 2) else (o, E + 8, 0)) = R := ⟨_, rfl⟩
    rw [hRR]
    have R1 : L < E + 8 → R = ([], 0, 2) := fun h => by rw [← hRR, if_pos h]
    have R2 : ¬ L < E + 8 → R = (o, E + 8, 0) := fun h => by rw [← hRR, if_neg h]
    have R1 := Lib.hid R1
    have R2 := Lib.hid R2
    clear hRR
    go_enter Try.func15, Try.ntmps15
    go_wp2_with fail
    have hB1 : Below w.heap.size w (w.alloc (Obj.cells #[Value.slice (some ⟨b, off, none⟩) L c, Value.int IntKind.i64 0] 55)) := (Below.refl _ _).alloc (Nat.le_refl _) _
    have hW1 : Whole (w.alloc (Obj.cells #[Value.slice (some ⟨b, off, none⟩) L c, Value.int IntKind.i64 0] 55)) w.heap.size 55 #[.slice (some ⟨b, off, none⟩) L c, .int .i64 0] := Whole.new _ _ _
    obtain ⟨W1, hWW⟩ : ∃ W1, w.alloc (Obj.cells #[Value.slice (some ⟨b, off, none⟩) L c, Value.int IntKind.i64 0] 55) = W1 := ⟨_, rfl⟩
    rw [hWW] at hB1 hW1 ⊢
    clear hWW
    have HB1 := Lib.hid hB1
    have HW1 := Lib.hid hW1
    clear hB1 hW1
    refine (HS.out _ _ HW1.out HB1.out).mono ?_
    rintro e Y ⟨rfl, rfl⟩
    have c1 := (HW1.out.set 1 (.int .i64 10)).cell 1
    have HB2 := Lib.hid (HB1.out.setCell (p := ⟨w.heap.size, 1, none⟩) (Nat.le_refl _) (.int .i64 10))
    obtain ⟨Y, hY⟩ : ∃ Y, W1.setCell ⟨w.heap.size, 1, none⟩ (.int .i64 10) = Y := ⟨_, rfl⟩
    have hlt : w.heap.size < (W1.setCell ⟨w.heap.size, 1, none⟩ (.int .i64 10)).heap.size := (HW1.out.set 1 (.int .i64 10)).lt
    rw [hY] at c1 HB2 hlt ⊢
    clear hY HB1 HW1
    go_wp2_with fail
    refine (HD.out _ HB2.out).mono ?_
    rintro e Y2 ⟨a2, c2, rfl, hNo, _, hoc, hom, hB⟩
    have Hol : Hid (o.length ≤ maxLen) := Nat.le_trans hoc hom
    clear hoc hom
    have c2' := (hB.cell hlt).trans c1
    have HB3 := Lib.hid (keepBelow hB HB2.out)
    have HNo := Lib.hid hNo
    clear hB HB2 hNo c1 hlt
    by_cases hs : L < E + 8
    · obtain rfl := R1.out hs
      have d1 : decide ((L : Int) - (E : Int) < 8) = true := decide_eq_true (by omega)
      go_wp2_with fail
      go_ret3
      exact ⟨none, 0, rfl, fun h => absurd h (by simp), HB3.out⟩
    · obtain rfl := R2.out hs
      have d1 : decide ((L : Int) - (E : Int) < 8) = false := decide_eq_false (by omega)
      obtain ⟨F, hF⟩ : ∃ F, F = E + 4 := ⟨_, rfl⟩
      obtain ⟨G, hG⟩ : ∃ G, G = E + 8 := ⟨_, rfl⟩
      have w3 : IntKind.i64.wrap ((E : Int) + 4) = (F : Int) := by rw [show (E : Int) + 4 = (F : Int) by omega]; exact IntWalk.i64_in _ ⟨by omega, by omega⟩
      have w4 : IntKind.i64.wrap ((E : Int) + 8) = (G : Int) := by rw [show (E : Int) + 8 = (G : Int) by omega]; exact IntWalk.i64_in _ ⟨by omega, by omega⟩
      have k1 : (0 : Int) ≤ (E : Int) := by omega
      have k2 : (E : Int) ≤ (F : Int) := by omega
      have k3 : (F : Int) ≤ (c : Int) := by omega
      have k4 : (0 : Int) ≤ (F : Int) := by omega
      have k5 : (F : Int) ≤ (G : Int) := by omega
      have k6 : (G : Int) ≤ (c : Int) := by omega
      have k7 : ¬ (c - E = 0) := by omega
      have k8 : ¬ (c - F = 0) := by omega
      have k9 : E ≤ F := by omega
      have k10 : F ≤ c := by omega
      have k11 : F ≤ G := by omega
      have k12 : G ≤ c := by omega
      have k13 : ¬ (E = c) := by omega
      have k14 : ¬ (F = c) := by omega
      go_wp2_with fail
      go_quiet (fail)
      rw [show E + 4 - E = 4 by omega, show E + 8 - (E + 4) = 4 by omega]
      have HBZ : Hid (Below w.heap.size w (Y2.drewN nq)) := ⟨HB3.out.os, HB3.out.tape, HB3.out.output, HB3.out.size, HB3.out.block⟩
      have HNZ : Hid (Nums .u8 (Y2.drewN nq) (Y2.drewN nq).heap.size a2 o) := HNo.out
      obtain ⟨Z, hZ⟩ : ∃ Z, Y2.drewN nq = Z := ⟨_, rfl⟩
      rw [hZ] at HBZ HNZ ⊢
      have hg1 : (l.drop E).take 4 = lowB (Crc.crcOf o) := by
        have := congrArg (List.take 4) (hgd (by omega))
        rw [List.take_take] at this
        exact this
      have hg2 : (l.drop (E + 4)).take 4 = lowB o.length := by
        have := congrArg (List.drop 4) (hgd (by omega))
        rw [List.drop_take, List.drop_drop] at this
        exact this
      have HS1 : Hid (Nums .u8 w w.heap.size (some ⟨b, off + E, none⟩) (lowB (Crc.crcOf o))) := by rw [← hg1]; exact (hN.dropI E).takeI 4
      have HS2 : Hid (Nums .u8 w w.heap.size (some ⟨b, off + (E + 4), none⟩) (lowB o.length)) := by rw [← hg2]; exact (hN.dropI (E + 4)).takeI 4
      have HC := Lib.hid (crcOf_any o a2 c2 Z ho Hol.out HNZ.out)
      have HWd := Lib.hid fun W n h => word_any n W h
      have HE := Lib.hid equal_same
      have HWl := Lib.hid (word_len o.length)
      have Hlt := Lib.hid (Crc.crcOf_lt o)
      clear hZ hg1 hg2 hgd c2' w1 w2 w3 w4 k1 k2 k3 k4 k5 k6 k7 k8 k9 k10 k11 k12 k13 k14 HNo HB3 hN hlc hcm hc10
      go_wp2_with fail
      refine HC.out.mono ?_
      rintro e Z1 ⟨rfl, hB⟩
      have HBZ1 := Lib.hid (keepBelow hB HBZ.out)
      have HNZ1 := Lib.hid ((HNZ.out.below hB).more hB.size)
      clear hB HBZ HNZ HC
      go_wp2_with fail
      refine (HWd.out _ _ Hlt.out).mono ?_
      rintro e Z2 ⟨g2, rfl, hN2, hB⟩
      have HBZ2 := Lib.hid (keepBelow hB HBZ1.out)
      have HNZ2 := Lib.hid ((HNZ1.out.below hB).more hB.size)
      have HN2 := Lib.hid hN2
      clear hB HBZ1 HNZ1 hN2
      go_wp2_with fail
      refine (HE.out _ _ _ _ _ _ ((HS1.out.below HBZ2.out).more HBZ2.out.size) HN2.out (lowB_lt _)).mono ?_
      rintro e Z3 ⟨rfl, rfl⟩
      go_wp2_with fail
      refine (HWl.out _).mono ?_
      rintro e Z4 ⟨g4, rfl, hN4, hB⟩
      have HBZ4 := Lib.hid (keepBelow hB HBZ2.out)
      have HNZ4 := Lib.hid ((HNZ2.out.below hB).more hB.size)
      have HN4 := Lib.hid hN4
      clear hB HBZ2 HNZ2 hN4
      go_wp2_with fail
      refine (HE.out _ _ _ _ _ _ ((HS2.out.below HBZ4.out).more HBZ4.out.size) HN4.out (lowB_lt _)).mono ?_
      rintro e Z5 ⟨rfl, rfl⟩
      go_wp2_with fail
      go_ret3
      exact ⟨a2, c2, rfl, HNZ4.out, HBZ4.out⟩
end Go.Proofs.Ytngnhkghpnamoaa

namespace Go.Proofs.Ytngnhkghpnamoaa
open Go.RowKit Huff Bit
set_option linter.unusedVariables false
set_option maxRecDepth 100000

def WrapPost (w : World) (L : List Nat) (e : Ending) (w' : World) : Prop := ∃ b off c, e = .returned (.tuple #[.slice (some ⟨b, off, none⟩) L.length c, .int .i64 0]) ∧ Nums .u8 w' w'.heap.size (some ⟨b, off, none⟩) L ∧ L.length ≤ c ∧ c ≤ maxLen ∧ Below w.heap.size w w'
def four {α : Type} (a b c d : α) (k : Nat) : α := if k = 0 then a else if k = 1 then b else if k = 2 then c else d
theorem four_cat {l : List Nat} (hb : Bytes255 l) : catF (four headB (fixedB hb) (lowB (Crc.crcOf l)) (lowB l.length)) 4 = gzB hb := by
  show ((([] ++ headB) ++ fixedB hb) ++ lowB (Crc.crcOf l)) ++ lowB l.length = headB ++ (fixedB hb ++ (lowB (Crc.crcOf l) ++ lowB l.length))
  rw [List.nil_append, List.append_assoc, List.append_assoc]
theorem cat_four (h g2 g3 : Nat) (a1 : Option Addr) (c1 n m : Nat) (f : List Nat) (W : World) (hf : f.length ≤ 10000)
    (hNh : Nums .u8 W W.heap.size (some ⟨h, 0, none⟩) headB) (hNf : Nums .u8 W W.heap.size a1 f) (hN2 : Nums .u8 W W.heap.size (some ⟨g2, 0, none⟩) (lowB n)) (hN3 : Nums .u8 W W.heap.size (some ⟨g3, 0, none⟩) (lowB m)) :
    Calls Try.prog 12 #[.slice (some ⟨W.heap.size, 0, none⟩) 4 4] (W.alloc (Obj.cells #[Value.slice (some ⟨h, 0, none⟩) 10 10, Value.slice a1 f.length c1, Value.slice (some ⟨g2, 0, none⟩) 4 4, Value.slice (some ⟨g3, 0, none⟩) 4 4] 22))
      (CatPost (W.alloc (Obj.cells #[Value.slice (some ⟨h, 0, none⟩) 10 10, Value.slice a1 f.length c1, Value.slice (some ⟨g2, 0, none⟩) 4 4, Value.slice (some ⟨g3, 0, none⟩) 4 4] 22)) (catF (four headB f (lowB n) (lowB m)) 4)) := by
  have hw := Whole.new W 22 #[Value.slice (some ⟨h, 0, none⟩) 10 10, Value.slice a1 f.length c1, Value.slice (some ⟨g2, 0, none⟩) 4 4, Value.slice (some ⟨g3, 0, none⟩) 4 4]
  have hB : Below W.heap.size W (W.alloc (Obj.cells #[Value.slice (some ⟨h, 0, none⟩) 10 10, Value.slice a1 f.length c1, Value.slice (some ⟨g2, 0, none⟩) 4 4, Value.slice (some ⟨g3, 0, none⟩) 4 4] 22)) := (Below.refl _ _).alloc (Nat.le_refl _) _
  have k4 : ∀ k, k < 4 → k = 0 ∨ k = 1 ∨ k = 2 ∨ k = 3 := fun k hk => by omega
  refine concat_any W.heap.size (four (some ⟨h, 0, none⟩) a1 (some ⟨g2, 0, none⟩) (some ⟨g3, 0, none⟩)) (four 10 c1 4 4) (four headB f (lowB n) (lowB m)) _ ?_ hw.lt ?_ ?_ ?_
  · intro k hk
    rcases k4 k hk with rfl | rfl | rfl | rfl
    · exact hw.cell 0
    · exact hw.cell 1
    · exact hw.cell 2
    · exact hw.cell 3
  · intro k hk
    rcases k4 k hk with rfl | rfl | rfl | rfl
    · exact (hNh.below hB).more hB.size
    · exact (hNf.below hB).more hB.size
    · exact (hN2.below hB).more hB.size
    · exact (hN3.below hB).more hB.size
  · intro k
    unfold four
    split
    · show 10 ≤ _; omega
    · split
      · exact hf
      · split
        · show 4 ≤ _; omega
        · show 4 ≤ _; omega
  · rw [catF_step, catF_step, catF_step, catF_step]
    show 0 < 0 + 10 + _ + _ + _
    omega
set_option maxHeartbeats 4000000 in
theorem wrap_any (A : Option Addr) (c : Nat) (l : List Nat) (w : World) (hb : Bytes255 l) (hl : l.length ≤ 3000) (h256 : ∀ x ∈ l, x < 256) (hN : Nums .u8 w w.heap.size A l) :
    Calls Try.prog 6 #[.slice A l.length c] w (WrapPost w (gzB hb)) := by
  have HD := Lib.hid (data_fixed A c l w hb hl hN)
  have Hfl := Lib.hid (fixed_length hb hl)
  have HC := Lib.hid fun W (hB : Below w.heap.size w W) => crcOf_any l A c W h256 (by unfold maxLen; omega) ((hN.below hB).more hB.size)
  have HWd := Lib.hid fun W n h => word_any n W h
  have HWl := Lib.hid (word_len l.length)
  have Hlt := Lib.hid (Crc.crcOf_lt l)
  have Hcat := Lib.hid (four_cat hb)
  have HL := Lib.hid hl
  clear hN h256 hl
  go_enter Try.func6, Try.ntmps6
  go_wp2_with fail
  refine HD.out.mono ?_
  rintro e W1 ⟨a1, c1, rfl, hN1, hB⟩
  have HB1 := Lib.hid hB
  have HN1 := Lib.hid hN1
  clear hB hN1 HD
  go_wp2_with fail
  obtain ⟨O, hO⟩ : ∃ O, Obj.cells #[Value.int IntKind.u8 31, Value.int IntKind.u8 139, Value.int IntKind.u8 8, Value.int IntKind.u8 0, Value.int IntKind.u8 0, Value.int IntKind.u8 0, Value.int IntKind.u8 0, Value.int IntKind.u8 0, Value.int IntKind.u8 0, Value.int IntKind.u8 255] 5 = O := ⟨_, rfl⟩
  have hNh : Nums .u8 (W1.alloc O) (W1.alloc O).heap.size (some ⟨W1.heap.size, 0, none⟩) headB := by
    have := Nums.of_block (k := .u8) (w := W1.alloc O) (g := W1.heap.size) (t := 5) (fr := (0, 0)) (l := headB) (by rw [← hO]; exact heap_alloc_new W1 _)
    exact this.more (by simp)
  have hBz : Below W1.heap.size W1 (W1.alloc O) := (Below.refl _ _).alloc (Nat.le_refl _) _
  have HB2 := Lib.hid (keepBelow hBz HB1.out)
  have HNf := Lib.hid ((HN1.out.below hBz).more hBz.size)
  have HNh := Lib.hid hNh
  rw [hO]
  obtain ⟨h, hh⟩ : ∃ h, W1.heap.size = h := ⟨_, rfl⟩
  obtain ⟨Z, hZ⟩ : ∃ Z, W1.alloc O = Z := ⟨_, rfl⟩
  rw [hZ] at HB2 HNf HNh ⊢
  rw [hh] at HNh ⊢
  clear hZ hh hO hNh hBz HB1 HN1
  refine (HC.out _ HB2.out).mono ?_
  rintro e Z1 ⟨rfl, hB⟩
  have HB3 := Lib.hid (keepBelow hB HB2.out)
  have HNf1 := Lib.hid ((HNf.out.below hB).more hB.size)
  have HNh1 := Lib.hid ((HNh.out.below hB).more hB.size)
  clear hB HB2 HNf HNh HC
  go_wp2_with fail
  refine (HWd.out _ _ Hlt.out).mono ?_
  rintro e Z2 ⟨g2, rfl, hN2, hB⟩
  have HB4 := Lib.hid (keepBelow hB HB3.out)
  have HNf2 := Lib.hid ((HNf1.out.below hB).more hB.size)
  have HNh2 := Lib.hid ((HNh1.out.below hB).more hB.size)
  have HN2 := Lib.hid hN2
  clear hB HB3 HNf1 HNh1 hN2 HWd
  go_wp2_with fail
  refine (HWl.out _).mono ?_
  rintro e Z3 ⟨g3, rfl, hN3, hB⟩
  have HB5 := Lib.hid (keepBelow hB HB4.out)
  have HNf3 := Lib.hid ((HNf2.out.below hB).more hB.size)
  have HNh3 := Lib.hid ((HNh2.out.below hB).more hB.size)
  have HN4 := Lib.hid ((HN2.out.below hB).more hB.size)
  have HN3 := Lib.hid hN3
  clear hB HB4 HNf2 HNh2 hN3 HN2 HWl
  go_wp2_with fail
  have hcall := cat_four h g2 g3 a1 c1 (Crc.crcOf l) l.length (fixedB hb) Z3 (by have := Hfl.out; omega) HNh3.out HNf3.out HN4.out HN3.out
  rw [Hcat.out] at hcall
  have hBz : Below Z3.heap.size Z3 (Z3.alloc (Obj.cells #[Value.slice (some ⟨h, 0, none⟩) 10 10, Value.slice a1 (fixedB hb).length c1, Value.slice (some ⟨g2, 0, none⟩) 4 4, Value.slice (some ⟨g3, 0, none⟩) 4 4] 22)) := (Below.refl _ _).alloc (Nat.le_refl _) _
  have HB6 := Lib.hid (keepBelow hBz HB5.out)
  have Hcall := Lib.hid hcall
  clear hBz HB5 HNf3 HNh3 HN4 HN3 hcall
  obtain ⟨X, hX⟩ : ∃ X, Z3.alloc (Obj.cells #[Value.slice (some ⟨h, 0, none⟩) 10 10, Value.slice a1 (fixedB hb).length c1, Value.slice (some ⟨g2, 0, none⟩) 4 4, Value.slice (some ⟨g3, 0, none⟩) 4 4] 22) = X := ⟨_, rfl⟩
  rw [hX] at HB6 Hcall ⊢
  clear hX
  refine Hcall.out.mono ?_
  rintro e Z4 ⟨v, rfl, hO, hB⟩
  have HB7 := Lib.hid (keepBelow hB HB6.out)
  have HO := Lib.hid hO
  clear hB hO HB6 Hcall
  go_wp2_with fail
  go_ret2
  obtain ⟨a5, c5, rfl, h1, h2, h3, h4⟩ := HO.out.nums
  obtain ⟨b, off, rfl, _⟩ := h4 (by rw [gzB_length]; omega)
  exact ⟨b, off, c5, rfl, h4, h1, h2, HB7.out⟩
end Go.Proofs.Ytngnhkghpnamoaa

namespace Go.Proofs.Ytngnhkghpnamoaa
open Go.RowKit Huff Bit
set_option linter.unusedVariables false
set_option maxRecDepth 100000

def UnwPost (w : World) (L : List Nat) (e : Ending) (w' : World) : Prop := ∃ v, e = .returned (.tuple #[v, .int .i64 0]) ∧ Own8 w' w.heap.size v L ∧ Below w.heap.size w w'
def UnwErr (w : World) (E : Nat) (e : Ending) (w' : World) : Prop := e = .returned (.tuple #[.slice none 0 0, .int .i64 (E : Int)]) ∧ Below w.heap.size w w'
set_option maxHeartbeats 4000000 in
theorem unwrap_err (b off c M E : Nat) (l : List Nat) (w : World) (hN : Nums .u8 w w.heap.size (some ⟨b, off, none⟩) l) (hlc : l.length ≤ c) (hc10 : 10 < c) (hcm : c ≤ maxLen) (hl : l.length ≤ 4096) (h256 : ∀ x ∈ l, x < 256)
    (hp : 10 ≤ l.length → Plain10 l) (hM : M ≤ 1048576) (hm : memM l M = ([], 0, E)) (hE : E ≠ 0) (hE4 : E ≠ 4) :
    Calls Try.prog 7 #[.slice (some ⟨b, off, none⟩) l.length c, .int .i64 (M : Int)] w (UnwErr w E) := by
  have HM := Lib.hid (member_any b off c M l w hN hlc hc10 hcm hl h256 hp hM (mem_good (by rw [hm]; intro e; injection e with _ e; injection e with _ e; exact hE4 e)))
  rw [hm] at HM
  have d1 : decide ((M : Int) < 0) = false := decide_eq_false (by omega)
  have d2 : decide (1048576 < (M : Int)) = false := decide_eq_false (by omega)
  have d3 : decide (1048576 < M) = false := decide_eq_false (by omega)
  have e1 : ((E : Int) != 0) = true := by simp; omega
  have w1 : IntKind.i64.wrap (M : Int) = (M : Int) := IntWalk.i64_in _ ⟨by omega, by omega⟩
  clear hN h256 hp hm hE hE4
  go_enter Try.func7, Try.ntmps7
  go_wp2_with fail
  go_loopw [0, 6, 7] (fun x z y W => x = .slice (some ⟨b, off, none⟩) l.length c ∧ z = .slice none 0 0 ∧ y = .bool true ∧ W = w) (fun _ _ _ _ => 0)
  case atStart => exact ⟨rfl, rfl, rfl, rfl⟩
  case round =>
    obtain ⟨rfl, rfl, rfl, rfl⟩ := hrel
    go_wp2_with fail
    refine HM.out.mono ?_
    rintro e W1 ⟨a1, c1, rfl, _, hB⟩
    have HB := Lib.hid hB
    clear hB HM
    go_wp2_with fail
    go_ret2
    exact ⟨rfl, HB.out⟩
theorem gzs_next (x : Cont) (ls : List Cont) : (gzs (x :: ls)).length = (gzB x.2.1).length + (gzs ls).length := by rw [gzs_cons, List.length_append]
set_option maxHeartbeats 8000000 in
theorem unwrap_ok (b off c M : Nat) (ls : List Cont) (w : World) (hN : Nums .u8 w w.heap.size (some ⟨b, off, none⟩) (gzs ls)) (hlc : (gzs ls).length ≤ c) (hcm : c ≤ maxLen) (hl : (gzs ls).length ≤ 4096)
    (hM : M ≤ 1048576) (hne : ls ≠ []) (hcont : (conts ls).length ≤ M) :
    Calls Try.prog 7 #[.slice (some ⟨b, off, none⟩) (gzs ls).length c, .int .i64 (M : Int)] w (UnwPost w (conts ls)) := by
  obtain ⟨i0, hi0, hz0, hz1, hz2⟩ := info_parts u8info
  have d1 : decide ((M : Int) < 0) = false := decide_eq_false (by omega)
  have d2 : decide (1048576 < (M : Int)) = false := decide_eq_false (by omega)
  have d3 : decide (1048576 < M) = false := decide_eq_false (by omega)
  have HN := Lib.hid hN
  have HM0 := Lib.hid hM
  have Hlc := Lib.hid hlc
  have Hcm := Lib.hid hcm
  have Hl := Lib.hid hl
  have Hne := Lib.hid hne
  have Hcont := Lib.hid hcont
  clear hN hM hlc hcm hl hne hcont
  go_enter Try.func7, Try.ntmps7
  go_wp2_with fail
  obtain ⟨w0, rfl⟩ : ∃ w0, w0 = w := ⟨_, rfl⟩
  go_loopw [0, 6, 7] (fun s v y W => ∃ (done rest : List Cont) (o c' : Nat), ls = done ++ rest ∧ s = .slice (some ⟨b, o, none⟩) (gzs rest).length c' ∧ (gzs rest).length ≤ c' ∧ c' ≤ maxLen ∧ (gzs rest).length ≤ 4096 ∧ Nums .u8 w0 w0.heap.size (some ⟨b, o, none⟩) (gzs rest) ∧ Own8 W w0.heap.size v (conts done) ∧ y = .bool done.isEmpty ∧ Below w0.heap.size w0 W) (fun s _ _ _ => match s with | .slice _ n _ => n | _ => 0)
  case atStart => exact ⟨[], ls, off, c, rfl, rfl, Hlc.out, Hcm.out, Hl.out, HN.out, Own8.nil_ _ _, rfl, Below.refl _ _⟩
  case round =>
    obtain ⟨done, rest, o, c', hls, rfl, h1, h2, h3, hS, hO, rfl, hB⟩ := hrel
    have HS := Lib.hid hS
    have HO := Lib.hid hO
    have HB0 := Lib.hid hB
    clear hS hO hB HN
    cases rest with
    | nil =>
      have hde : done.isEmpty = false := by
        cases done with
        | nil => exact absurd hls Hne.out
        | cons _ _ => rfl
      rw [hde]
      obtain rfl : ls = done := by simpa using hls
      clear hls h1 h2 h3 HS
      go_wp2_with fail
      go_ret2
      exact ⟨_, rfl, HO.out, HB0.out⟩
    | cons x rest =>
      have hx := gzs_next x rest
      have hx2 := gzB_length x.2.1
      have hct : (conts ls).length = (conts done).length + (x.1.length + (conts rest).length) := by rw [hls, conts_app, List.length_append]; show _ + (x.1 ++ conts rest).length = _; rw [List.length_append]
      have hle := Hcont.out
      have HQ : Hid (x.1.length ≤ 3000 ∧ (conts done).length + x.1.length ≤ M) := ⟨x.2.2, by omega⟩
      have hM0 := HM0.out
      obtain ⟨K, hK⟩ : ∃ K, K = M - (conts done).length := ⟨_, rfl⟩
      have w1 : IntKind.i64.wrap ((M : Int) - ((conts done).length : Int)) = (K : Int) := by rw [show (M : Int) - ((conts done).length : Int) = (K : Int) by omega]; exact IntWalk.i64_in _ ⟨by omega, by omega⟩
      have hmb := mem_back x.2.1 x.2.2 (gzs rest) K (by omega)
      rw [← gzs_cons] at hmb
      have HM := Lib.hid fun W (hB : Below w0.heap.size w0 W) => by
        have := member_any b o c' K (gzs (x :: rest)) W ((HS.out.below hB).more hB.size) h1 (by omega) h2 h3 (gzs_lt _) (fun _ => by rw [gzs_cons]; exact gz_plain x.2.1 _) (by omega) (mem_good (by rw [hmb]; intro e; injection e with _ e; injection e with _ e; cases e))
        rw [hmb] at this
        exact this
      obtain ⟨av, cv, rfl, _⟩ := HO.out.nums
      have HS3 : Hid (Nums .u8 w0 w0.heap.size (some ⟨b, o + (gzB x.2.1).length, none⟩) (gzs rest)) := by
        have := HS.out.dropI (gzB x.2.1).length
        rw [gzs_cons, List.drop_append_of_le_length (Nat.le_refl _), List.drop_length, List.nil_append] at this
        exact this
      have Hone : Hid (∀ u ∈ u8s x.1, u.oneCell' = true) := u8s_one _
      have H1 : Hid ((conts done).length + x.1.length ≤ maxLen) := by have := HQ.out; unfold Hid maxLen; omega
      have H2 : Hid (((conts done).length + x.1.length) * 1 ≤ 140737488355328) := by have := HQ.out; unfold Hid; omega
      have Hls : Hid (ls = done ++ [x] ++ rest) := by show _ = _; rw [hls, List.append_assoc]; rfl
      have hiso : (done ++ [x]).isEmpty = false := by cases done <;> rfl
      obtain ⟨L, hL⟩ : ∃ L, (gzs (x :: rest)).length = L := ⟨_, rfl⟩
      obtain ⟨N, hNn⟩ : ∃ N, (gzB x.2.1).length = N := ⟨_, rfl⟩
      rw [hL] at HM hx h1 h3 ⊢
      rw [hNn] at HM HS3 hx hx2
      have g0 : decide (0 < (L : Int)) = true := decide_eq_true (by omega)
      have g1 : decide (0 < L) = true := decide_eq_true (by omega)
      have g2 : (N : Int) ≤ (L : Int) := by omega
      have g3 : (N : Int) ≤ (c' : Int) := by omega
      have g4 : (0 : Int) ≤ (N : Int) := by omega
      have HNp : Hid (0 < N) := by unfold Hid; omega
      have HX : Hid (L = N + (gzs rest).length ∧ L ≤ c' ∧ c' ≤ maxLen ∧ L ≤ 4096) := ⟨hx, h1, h2, h3⟩
      clear hls hct hle hM0 hK hmb hx hx2 h1 h2 h3 hL hNn
      cases hde : done.isEmpty with
      | true =>
        go_wp2_with fail
        refine (HM.out _ HB0.out).mono ?_
        rintro e W1 ⟨a1, c1, rfl, hN1, hB⟩
        have HB1 := Lib.hid (keepBelow hB HB0.out)
        have HO1 := Lib.hid (HO.out.below hB)
        have hV := Vals.of_nums hN1
        clear hB hN1 HB0 HO HM
        go_wp2_with (at_builtin; refine app_vals rfl (.tmp 36) (.tmp 37) 22 rfl w0.heap.size 5 i0 _ 1 1 Try.underlying22 hi0 hz0 hz1 hz2 rfl (by omega) _ (conts done).length (u8s (conts done)) rfl HO1.out W1.heap.size _ _ _ _ rfl hV Hone.out H1.out H2.out HB1.out.size ?_)
        intro v' W2 hown1 hg1 hat1
        have hO2 : Own8 W2 w0.heap.size v' (conts (done ++ [x])) := by
          rw [conts_app, show conts [x] = x.1 by simp [conts]]
          show W2.ownsRow _ _ _ _ (conts done ++ x.1).length (u8s (conts done ++ x.1))
          rw [List.length_append, show u8s (conts done ++ x.1) = u8s (conts done) ++ u8s x.1 from List.map_append]
          exact hown1
        have HB2 := Lib.hid (below_of_grown HB1.out HO1.out hg1 HB1.out.size)
        have HO2 := Lib.hid hO2
        clear hown1 hg1 hat1 hO2 HB1 HO1
        by_cases hcN : c' = N
        · obtain rfl := hcN
          have hr : gzs rest = [] := List.eq_nil_of_length_eq_zero (by have := HX.out; omega)
          have hr2 : L = c' := by have := HX.out; omega
          subst hr2
          go_wp2_with fail
          have h0 : (gzs rest).length = 0 := by rw [hr]; rfl
          exact ⟨⟨done ++ [x], rest, o, 0, Hls.out, by rw [h0], Nat.le_of_eq h0, Nat.zero_le _, by omega, fun h => absurd h (by rw [hr]; simp), HO2.out, by rw [hiso], HB2.out⟩, HNp.out⟩
        · have hcN2 : ¬ (c' - N = 0) := by have := HX.out; omega
          have hcN3 : ¬ (N = c') := by omega
          go_wp2_with fail
          have hr : (gzs rest).length = L - N := by have := HX.out; omega
          exact ⟨⟨done ++ [x], rest, o + N, c' - N, Hls.out, by rw [hr], by have := HX.out; omega, by have := HX.out; omega, by have := HX.out; omega, HS3.out, HO2.out, by rw [hiso], HB2.out⟩, by have := HX.out; have := HNp.out; show L - N < L; omega⟩
      | false =>
        go_wp2_with fail
        refine (HM.out _ HB0.out).mono ?_
        rintro e W1 ⟨a1, c1, rfl, hN1, hB⟩
        have HB1 := Lib.hid (keepBelow hB HB0.out)
        have HO1 := Lib.hid (HO.out.below hB)
        have hV := Vals.of_nums hN1
        clear hB hN1 HB0 HO HM
        go_wp2_with (at_builtin; refine app_vals rfl (.tmp 36) (.tmp 37) 22 rfl w0.heap.size 5 i0 _ 1 1 Try.underlying22 hi0 hz0 hz1 hz2 rfl (by omega) _ (conts done).length (u8s (conts done)) rfl HO1.out W1.heap.size _ _ _ _ rfl hV Hone.out H1.out H2.out HB1.out.size ?_)
        intro v' W2 hown1 hg1 hat1
        have hO2 : Own8 W2 w0.heap.size v' (conts (done ++ [x])) := by
          rw [conts_app, show conts [x] = x.1 by simp [conts]]
          show W2.ownsRow _ _ _ _ (conts done ++ x.1).length (u8s (conts done ++ x.1))
          rw [List.length_append, show u8s (conts done ++ x.1) = u8s (conts done) ++ u8s x.1 from List.map_append]
          exact hown1
        have HB2 := Lib.hid (below_of_grown HB1.out HO1.out hg1 HB1.out.size)
        have HO2 := Lib.hid hO2
        clear hown1 hg1 hat1 hO2 HB1 HO1
        by_cases hcN : c' = N
        · obtain rfl := hcN
          have hr : gzs rest = [] := List.eq_nil_of_length_eq_zero (by have := HX.out; omega)
          have hr2 : L = c' := by have := HX.out; omega
          subst hr2
          go_wp2_with fail
          have h0 : (gzs rest).length = 0 := by rw [hr]; rfl
          exact ⟨⟨done ++ [x], rest, o, 0, Hls.out, by rw [h0], Nat.le_of_eq h0, Nat.zero_le _, by omega, fun h => absurd h (by rw [hr]; simp), HO2.out, by rw [hiso], HB2.out⟩, HNp.out⟩
        · have hcN2 : ¬ (c' - N = 0) := by have := HX.out; omega
          have hcN3 : ¬ (N = c') := by omega
          go_wp2_with fail
          have hr : (gzs rest).length = L - N := by have := HX.out; omega
          exact ⟨⟨done ++ [x], rest, o + N, c' - N, Hls.out, by rw [hr], by have := HX.out; omega, by have := HX.out; omega, by have := HX.out; omega, HS3.out, HO2.out, by rw [hiso], HB2.out⟩, by have := HX.out; have := HNp.out; show L - N < L; omega⟩
end Go.Proofs.Ytngnhkghpnamoaa

namespace Go.Proofs.Ytngnhkghpnamoaa
open Go.RowKit Huff Bit
set_option linter.unusedVariables false
set_option maxRecDepth 100000

theorem code06_any (n : Int) (w : World) : Calls Try.prog 8 #[.int .i64 n] w fun e w' => e = .returned (.int .i64 n) ∧ w = w' := by
  go_enter Try.func8, Try.ntmps8
  go_wp2_with fail
  go_ret
  exact ⟨rfl, rfl⟩
def abcC : Cont := ⟨[97, 98, 99], abc_255, by decide⟩
theorem abc_gz : (gzB abc_255).length = 23 := by rw [gzB_length, abc_out]; rfl
theorem one_gzs (x : Cont) : gzs [x] = gzB x.2.1 := by rw [gzs_cons]; exact List.append_nil _
theorem one_conts (x : Cont) : conts [x] = x.1 := by simp [conts]
set_option maxHeartbeats 4000000 in
theorem live06_any (w : World) : Calls Try.prog 5 #[] w fun e w' => e = .returned (.bool true) ∧ Below w.heap.size w w' := by
  have kc := fun (w : World) (C : Array Value) (n c : Nat) => Lib.run_convert_bytes_const (P := Try.prog) w 22 5 C n c Try.underlying22 Try.underlying5
  have Hcode := Lib.hid code06_any
  have HD := Lib.hid fun X A c h => wrap_any A c [97, 98, 99] X abc_255 (by decide) (by decide) h
  have HU : Hid (∀ (b off c : Nat) (W : World), Nums .u8 W W.heap.size (some ⟨b, off, none⟩) (gzB abc_255) → 23 ≤ c → c ≤ maxLen → Calls Try.prog 7 #[.slice (some ⟨b, off, none⟩) 23 c, .int .i64 100] W (UnwPost W [97, 98, 99])) := by
    intro b off c W h1 h2 h3
    have e1 : (gzs [abcC]).length = 23 := by rw [one_gzs]; exact abc_gz
    have := unwrap_ok b off c 100 [abcC] W (by rw [one_gzs]; exact h1) (by omega) h3 (by omega) (by omega) (by simp) (by rw [one_conts]; show 3 ≤ _; omega)
    rw [one_conts, e1] at this
    exact this
  go_enter Try.func5, Try.ntmps5
  go_wp2_with fail
  have hN : Nums .u8 (w.alloc (.cells #[.int .u8 97, .int .u8 98, .int .u8 99] 5 (3, 4))) (w.heap.size + 1) (some ⟨w.heap.size, 0, none⟩) [97, 98, 99] := by
    have := Nums.of_block (k := .u8) (w := w.alloc (.cells #[.int .u8 97, .int .u8 98, .int .u8 99] 5 (3, 4))) (g := w.heap.size) (t := 5) (fr := (3, 4)) (l := [97, 98, 99]) (heap_alloc_new w _)
    simpa using this
  refine (HD.out _ _ _ (hN.more (by simp))).mono ?_
  rintro e X ⟨b, off, c, rfl, hN2, hlc, hcm, hB⟩
  have HB : Hid (Below w.heap.size w X) := ((Below.refl _ _).alloc (Nat.le_refl _) _).trans (hB.mono (by simp))
  rw [abc_gz] at hlc ⊢
  have HUc := Lib.hid (HU.out b off c X hN2 hlc hcm)
  clear hN hN2 hB hlc hcm kc HD HU
  go_wp2_with fail
  refine HUc.out.mono ?_
  rintro e Y ⟨v, rfl, hO, hB⟩
  have HB2 := Lib.hid (keepBelow hB HB.out)
  obtain ⟨a5, c5, rfl, _, _, _, hN5⟩ := hO.nums
  have hs := str_of_nums (P := Try.prog) Y Y.heap.size 22 9 5 a5 c5 _ Try.underlying22 Try.underlying5 Try.underlying9 hN5 (by decide)
  rw [show strOf [97, 98, 99] = ⟨#[97, 98, 99]⟩ by rfl] at hs
  simp only [List.length_cons, List.length_nil, Nat.reduceAdd] at hs ⊢
  clear hO hN5 hB HB HUc
  go_wp2_with fail
  refine (Hcode.out _ _).mono ?_
  rintro e Y ⟨rfl, rfl⟩
  go_wp2_with fail
  refine (Hcode.out _ _).mono ?_
  rintro e Y ⟨rfl, rfl⟩
  go_wp2_with fail
  go_ret
  exact ⟨rfl, HB2.out⟩
end Go.Proofs.Ytngnhkghpnamoaa
