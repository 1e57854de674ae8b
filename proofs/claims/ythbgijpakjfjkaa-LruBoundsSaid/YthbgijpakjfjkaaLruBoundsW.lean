/- Layer 34: the walk of LruBounds. -/
import Derived.Test.YthbgijpakjfjkaaLruB
import Derived.Deep.OwnRows
namespace Go.Proofs.Ythbgijpakjfjkaa
open Go.RowKit
set_option linter.unusedVariables false
set_option maxRecDepth 100000

theorem bulk_le (l : List Ac) (k : Nat) : bulk (l.take k) ≤ bulk l := by
  have e : l.take k ++ l.drop k = l := List.take_append_drop k l
  have : bulk l = bulk (l.take k) + bulk (l.drop k) := by
    conv => lhs; rw [← e]
    unfold bulk
    rw [List.map_append, List.sum_append]
  omega
theorem below_drewN {w Y : World} {k : Nat} (h : Below (w.drewN k).heap.size (w.drewN k) Y) : Below w.heap.size w Y := ⟨h.os, h.tape, h.output, h.size, h.block⟩
theorem whole_ls {w w' : World} {base b : Nat} {cs : Array Value} (h : Whole w b 33 cs) (ho : Only (LS base w) w w') : Whole w' b 33 cs := by
  refine h.only ho (fun hl => ?_)
  rcases hl.2 with ⟨es, cl, h2⟩ | ⟨cs', t, f', h2, ht⟩
  · have h1 : w.heap[b]? = some (.cells cs 33 (0, 0)) := h
    rw [h1] at h2; injection h2 with h2; cases h2
  · have e := cells_inj h h2
    rcases ht with rfl | rfl
    · exact absurd e (by decide)
    · exact absurd e (by decide)
theorem make0 (W : World) : (Instr.makeSlice 41 (.int .i64 0) (.int .i64 0)).run Try.prog W = .ok (.slice (some ⟨W.heap.size, 0, none⟩) 0 0) (W.alloc (.cells #[] 9)) := by
  have h := run_make_row' (P := Try.prog) 41 9 (.string ByteArray.empty) 16 Try.underlying41 strinfo rfl .i64 .i64 0 (by omega) (by omega) W
  have e : madeCells #[Value.string ByteArray.empty] 0 = #[] := by
    apply Array.ext
    · simp [madeCells]
    · intro i h1 h2
      simp at h2
  rw [e] at h
  exact h
set_option maxHeartbeats 40000000 in
theorem lruBounds_walk (a0 a1 : Int) (v : Value) (w : World) (b0 : -9223372036854775808 ≤ a0 ∧ a0 < 9223372036854775808) (b1 : -9223372036854775808 ≤ a1 ∧ a1 < 9223372036854775808) (H : ∃ l, ActsArg w v l) :
    Calls Try.prog 4 #[.int .i64 a0, .int .i64 a1, v] w fun e w' => e = .returned (.bool true) ∧ Below w.heap.size w w' := by
  obtain ⟨l, H⟩ := H
  obtain ⟨en, hen⟩ : ∃ en : Nat, a0 ≤ 0 ∧ en = 0 ∨ a0 = en ∧ 0 < en := ⟨a0.toNat, by omega⟩
  obtain ⟨sn, hsn⟩ : ∃ sn : Nat, a1 ≤ 0 ∧ sn = 0 ∨ a1 = sn ∧ 0 < sn := ⟨a1.toNat, by omega⟩
  have HM := Lib.hid (much_any v l w H)
  have HE := Lib.hid hen
  have HSN := Lib.hid hsn
  obtain ⟨i0, hi0, hz0, hz1, hz2⟩ := info_parts strinfo
  obtain ⟨a, c, rfl, _, hcm, hall, hat⟩ := H
  have Hall := Lib.hid hall
  have Hat := Lib.hid hat
  have Hc := Lib.hid hcm
  clear hall hat hcm hen hsn
  go_enter Try.func4, Try.ntmps4
  go_wp2_with fail
  refine HM.out.mono ?_
  rintro e X ⟨t, rfl, ht, dk, rfl⟩
  clear HM
  cases t with
  | true =>
    go_wp2_with fail
    refine (live34_any _).mono ?_
    rintro e Y ⟨rfl, hB⟩
    have HB := Lib.hid (below_drewN hB)
    clear hB
    go_wp2_with fail
    go_ret
    exact ⟨rfl, HB.out⟩
  | false =>
    obtain ⟨h60, hbk⟩ := ht rfl
    clear ht
    have HN := Lib.hid (new_any a0 a1 en sn (w.drewN dk) HE.out HSN.out)
    go_wp2_with fail
    refine HN.out.mono ?_
    rintro e X0 ⟨g, rfl, hL, hB⟩
    have hB0 := below_drewN hB
    have hL0 : Lru X0 w.heap.size g en sn 0 0 [] := hL
    have HB0 := Lib.hid hB0
    have HL0 := Lib.hid hL0
    have Hbk := Lib.hid hbk
    clear HN hL hB hB0 hL0 hbk
    have hmk := make0 X0
    go_wp2_with fail
    clear hmk
    go_loopw [8, 9] (fun lv i W => ∃ (k : Nat) (es : List En) (L : List (ByteArray × ByteArray)) (hh mm : Nat), i = .int .i64 (k : Int) ∧ k ≤ l.length ∧ Hid (Lru W w.heap.size g en sn hh mm es) ∧ Hid (W.ownsRow w.heap.size 9 1 lv (2 * L.length) (flat L)) ∧ Hid (Inv es L) ∧ Hid (es.length ≤ en ∧ tot es ≤ sn) ∧ Hid (es.length ≤ k ∧ tot es ≤ bulk (l.take k) ∧ hh ≤ k ∧ mm ≤ k) ∧ L.length ≤ k ∧ Hid (Below w.heap.size w W)) (fun _ i _ => l.length - (intOf i).toNat)
    case atStart =>
      refine ⟨0, [], [], 0, 0, rfl, Nat.zero_le _, HL0.out.below ((Below.refl _ _).alloc (Nat.le_refl _) _), ?_, (fun s x h => by cases h), ⟨Nat.zero_le _, Nat.zero_le _⟩, ⟨Nat.zero_le _, Nat.zero_le _, Nat.zero_le _, Nat.zero_le _⟩, Nat.zero_le _, HB0.out.alloc HB0.out.size _⟩
      exact ⟨rfl, .inr ⟨X0.heap.size, 0, #[], rfl, HB0.out.size, heap_alloc_new _ _, Nat.le_refl _, Nat.zero_le _, rfl, rfl⟩⟩
    case round =>
      obtain ⟨k, es, L, hh, mm, rfl, hk, HL, HOwn, HI, HBd, HC, hLk, HB⟩ := hrel
      clear HB0 HL0
      by_cases hlt : k < l.length
      · have d1 : decide ((k : Int) < (l.length : Int)) = true := decide_eq_true (by omega)
        obtain ⟨b, off, ad, cc, rfl, hbl, hc0, hc1, hc2, hnum, hnil⟩ := Hat.out k hlt
        obtain ⟨r1, r2, r3⟩ := Hall.out _ (List.getElem_mem hlt)
        have hbt := bulk_take l k hlt
        have hbt2 := bulk_le l (k + 1)
        have hbk := Hbk.out
        obtain ⟨kd, hkd⟩ : ∃ z, z = (l[k]).k := ⟨_, rfl⟩
        obtain ⟨s, hs⟩ : ∃ z, z = (l[k]).key := ⟨_, rfl⟩
        obtain ⟨bs, hbs⟩ : ∃ z, z = (l[k]).bs := ⟨_, rfl⟩
        rw [← hkd] at hc0
        rw [← hs] at hc1 r1 hbt
        rw [← hbs] at hc2 r2 r3 hbt hnum
        have hs2 : s.size + bs.length ≤ 2000 := by omega
        have w0 : wr.cell? ⟨b, off + k * 3, none⟩ = some (.int .i64 kd) := (HB.out.cell hbl).trans hc0
        have w1 : wr.cell? ⟨b, off + k * 3 + 1, none⟩ = some (.string s) := (HB.out.cell hbl).trans hc1
        have w2 : wr.cell? ⟨b, off + k * 3 + 2, none⟩ = some (.slice ad bs.length cc) := (HB.out.cell hbl).trans hc2
        have HBt : Hid (bulk (l.take (k + 1)) = bulk (l.take k) + (s.size + bs.length)) := hbt
        have HNum := Lib.hid (hnum.below HB.out)
        have Hnil : Hid (ad = none → cc = 0 ∧ bs = []) := fun e => by
          refine ⟨hnil e, ?_⟩
          rcases bs with _ | ⟨x, bs⟩
          · rfl
          · obtain ⟨b', off', e', _⟩ := hnum (by simp)
            rw [e] at e'
            cases e'
        have Hlt8 := Lib.hid r3
        have Hlt := Lib.hid hlt
        clear hc0 hc1 hc2 hnum hnil hbt hbt2 hbk hkd hs hbs r1 r2 r3 hbl
        go_upto_region 9 with (fail)
        obtain ⟨bX, hbX⟩ : ∃ z, z = wr.heap.size := ⟨_, rfl⟩
        obtain ⟨X, hX⟩ : ∃ z, z = wr.alloc (.cells #[.int .i64 kd, .string s, .slice ad bs.length cc] 33) := ⟨_, rfl⟩
        have HWx : Hid (Whole X bX 33 #[.int .i64 kd, .string s, .slice ad bs.length cc]) := by rw [hX, hbX]; exact Whole.new wr _ _
        have HLx : Hid (Lru X w.heap.size g en sn hh mm es) := by rw [hX]; exact HL.out.below ((Below.refl _ _).alloc (Nat.le_refl _) _)
        have HOx : Hid (X.ownsRow w.heap.size 9 1 u8 (2 * L.length) (flat L)) := by rw [hX]; exact HOwn.out.alloc _
        have HBx : Hid (Below w.heap.size w X) := by rw [hX]; exact HB.out.alloc HB.out.size _
        have HNx : Hid (Nums .u8 X w.heap.size ad bs) := by rw [hX]; exact HNum.out.below ((Below.refl _ _).alloc HB.out.size _)
        rw [← hX, ← hbX]
        clear hX hbX HL HOwn HB HNum w0 w1 w2
        have HIx := HI
        have HBdx := HBd
        clear HI HBd
        have q0 : X.cell? ⟨bX, 0, none⟩ = some (.int .i64 kd) := by rw [HWx.out.cell]; rfl
        have q1 : X.cell? ⟨bX, 1, none⟩ = some (.string s) := by rw [HWx.out.cell]; rfl
        have q2 : X.cell? ⟨bX, 2, none⟩ = some (.slice ad bs.length cc) := by rw [HWx.out.cell]; rfl
        by_cases hk1 : kd = 1
        · subst hk1
          by_cases hno : en = 0 ∨ sn < s.size + bs.length
          · have HP := Lib.hid (put_no g w.heap.size en sn hh mm bs.length cc ad es s X HLx.out (by omega) (by omega) hno)
            have HCx : Hid (es.length ≤ k + 1 ∧ tot es ≤ bulk (l.take (k + 1)) ∧ hh ≤ k ∧ mm ≤ k) := by have h1 := HC.out; have h2 := HBt.out; exact ⟨by omega, by omega, h1.2.2⟩
            have hLkx : L.length ≤ k + 1 := by omega
            clear HC hLk HNx Hnil Hlt8 HBt hno
            go_wp2_with fail
            refine HP.out.mono ?_
            rintro e Z ⟨rfl, rfl⟩
            clear HP
            go_wp2_with fail
            clear q0 q1 q2
            cases hf : fnd es s with
            | none =>
              have HG := Lib.hid (get_no g w.heap.size en sn hh mm es s X HLx.out hf (by omega) (by have := HCx.out; omega))
              have HIe := HIx
              have HBde := HBdx
              have hLke := hLkx
              have HCe : Hid (es.length ≤ k + 1 ∧ tot es ≤ bulk (l.take (k + 1)) ∧ hh ≤ k + 1 ∧ mm + 1 ≤ k + 1) := by have := HCx.out; exact ⟨this.1, this.2.1, by omega, by omega⟩
              have HOL := Lib.hid fun (Y : World) (ho : Only (LS w.heap.size X) X Y) => (show Y.ownsRow w.heap.size 9 1 u8 (2 * L.length) (flat L) ∧ Below w.heap.size w Y from ⟨own_ls HOx.out ho, HBx.out.trans (ho.low HBx.out.size)⟩)
              clear HCx HIx HBdx hLkx hf HLx HOx HBx
              go_wp2_with fail
              refine HG.out.mono ?_
              rintro e Y ⟨rfl, hLe, hOe⟩
              have HLe := Lib.hid hLe
              have HOwne := Lib.hid (HOL.out Y hOe).1
              have HBe := Lib.hid (HOL.out Y hOe).2
              obtain ⟨a8, c8, rfl, _, _, _⟩ := Vals.of_own HOwne.out
              obtain ⟨n2, hn2⟩ : ∃ n2, n2 = 2 * L.length := ⟨_, rfl⟩
              have hn3 : n2 ≤ 200 := by omega
              have HOwne2 := HOwne
              rw [← hn2]
              have HN2 := Lib.hid hn2
              clear hn2
              clear HG HOL hLe hOe HOwne2
              by_cases hz2 : n2 < 2
              · have g1 : decide ((0 : Int) ≤ (n2 : Int) - 2) = false := decide_eq_false (by omega)
                have g2 : decide ((2 : Int) ≤ (n2 : Int)) = false := decide_eq_false (by omega)
                have g3 : decide (2 ≤ n2) = false := decide_eq_false (by omega)
                go_wp2_with fail
                go_loopw [13] (fun kv W => kv = .int .i64 ((n2 : Int) - 2) ∧ W = Y) (fun _ _ => 0)
                case atStart => exact ⟨rfl, rfl⟩
                case round =>
                  obtain ⟨rfl, rfl⟩ := hrel
                  have hn2 := HN2.out
                  subst hn2
                  have hbe := HBde.out
                  have ROUND := Lib.hid (show ∃ (k' : Nat) (es' : List En) (L' : List (ByteArray × ByteArray)) (hh' mm' : Nat), k + 1 = k' ∧ k' ≤ l.length ∧ Hid (Lru wr w.heap.size g en sn hh' mm' es') ∧ Hid (wr.ownsRow w.heap.size 9 1 (.slice a8 (2 * L.length) c8) (2 * L'.length) (flat L')) ∧ Hid (Inv es' L') ∧ Hid (es'.length ≤ en ∧ tot es' ≤ sn) ∧ Hid (es'.length ≤ k' ∧ tot es' ≤ bulk (l.take k') ∧ hh' ≤ k' ∧ mm' ≤ k') ∧ L'.length ≤ k' ∧ Hid (Below w.heap.size w wr) from
                    ⟨k + 1, es, L, hh, mm + 1, rfl, Hlt.out, HLe, HOwne, HIe, HBde, HCe, hLke, HBe⟩)
                  have HLen := Lib.hid (len_any g w.heap.size en sn (hh) (mm + 1) (es) wr HLe.out)
                  have HSize := Lib.hid (size_any g w.heap.size en sn (hh) (mm + 1) (es) wr HLe.out)
                  obtain ⟨nE, hnE⟩ : ∃ z, z = (es).length := ⟨_, rfl⟩
                  obtain ⟨tE, htE⟩ : ∃ z, z = tot (es) := ⟨_, rfl⟩
                  rw [← hnE] at HLen hbe
                  rw [← htE] at HSize hbe
                  have Hse := HE.out
                  have Hss := HSN.out
                  clear hnE htE HLe HOwne HIe HBde HCe HBe
                  by_cases hz : nE = 0
                  · have f1 : decide ((0 : Int) < (nE : Int)) = false := decide_eq_false (by omega)
                    have f2 : decide (0 < nE) = false := decide_eq_false (by omega)
                    clear hbe Hse Hss
                    go_wp2_with fail
                    refine HLen.out.mono ?_
                    rintro e Z ⟨rfl, rfl⟩
                    clear HLen HSize
                    go_wp2_with fail
                    go_roundw
                    case rel => obtain ⟨k', es', L', hh', mm', rfl, r⟩ := ROUND.out; exact ⟨k + 1, es', L', hh', mm', by go_num, r⟩
                    case measure => simp [intOf] <;> omega
                  · have f1 : decide ((0 : Int) < (nE : Int)) = true := decide_eq_true (by omega)
                    have f2 : decide (0 < nE) = true := decide_eq_true (by omega)
                    have f3 : decide (a0 < (nE : Int)) = false := decide_eq_false (by omega)
                    by_cases f4 : a1 < 0
                    · have f5 : decide ((0 : Int) < (tE : Int)) = false := decide_eq_false (by omega)
                      have f6 : decide (0 < tE) = false := decide_eq_false (by omega)
                      clear hbe Hse Hss
                      go_wp2_with fail
                      refine HLen.out.mono ?_
                      rintro e Z ⟨rfl, rfl⟩
                      go_wp2_with fail
                      refine HLen.out.mono ?_
                      rintro e Z ⟨rfl, rfl⟩
                      go_wp2_with fail
                      refine HSize.out.mono ?_
                      rintro e Z ⟨rfl, rfl⟩
                      clear HLen HSize
                      go_wp2_with fail
                      go_roundw
                      case rel => obtain ⟨k', es', L', hh', mm', rfl, r⟩ := ROUND.out; exact ⟨k + 1, es', L', hh', mm', by go_num, r⟩
                      case measure => simp [intOf] <;> omega
                    · have f5 : decide (a1 < (tE : Int)) = false := decide_eq_false (by omega)
                      clear hbe Hse Hss
                      go_wp2_with fail
                      refine HLen.out.mono ?_
                      rintro e Z ⟨rfl, rfl⟩
                      go_wp2_with fail
                      refine HLen.out.mono ?_
                      rintro e Z ⟨rfl, rfl⟩
                      go_wp2_with fail
                      refine HSize.out.mono ?_
                      rintro e Z ⟨rfl, rfl⟩
                      clear HLen HSize
                      go_wp2_with fail
                      go_roundw
                      case rel => obtain ⟨k', es', L', hh', mm', rfl, r⟩ := ROUND.out; exact ⟨k + 1, es', L', hh', mm', by go_num, r⟩
                      case measure => simp [intOf] <;> omega
              · have g1 : decide ((0 : Int) ≤ (n2 : Int) - 2) = true := decide_eq_true (by omega)
                have g2 : decide ((2 : Int) ≤ (n2 : Int)) = true := decide_eq_true (by omega)
                have g3 : decide (2 ≤ n2) = true := decide_eq_true (by omega)
                go_wp2_with fail
                go_loopw [13] (fun kv W => kv = .int .i64 ((n2 : Int) - 2) ∧ W = Y) (fun _ _ => 0)
                case atStart => exact ⟨rfl, rfl⟩
                case round =>
                  obtain ⟨rfl, rfl⟩ := hrel
                  have hn2 := HN2.out
                  subst hn2
                  have hbe := HBde.out
                  have ROUND := Lib.hid (show ∃ (k' : Nat) (es' : List En) (L' : List (ByteArray × ByteArray)) (hh' mm' : Nat), k + 1 = k' ∧ k' ≤ l.length ∧ Hid (Lru wr w.heap.size g en sn hh' mm' es') ∧ Hid (wr.ownsRow w.heap.size 9 1 (.slice a8 (2 * L.length) c8) (2 * L'.length) (flat L')) ∧ Hid (Inv es' L') ∧ Hid (es'.length ≤ en ∧ tot es' ≤ sn) ∧ Hid (es'.length ≤ k' ∧ tot es' ≤ bulk (l.take k') ∧ hh' ≤ k' ∧ mm' ≤ k') ∧ L'.length ≤ k' ∧ Hid (Below w.heap.size w wr) from
                    ⟨k + 1, es, L, hh, mm + 1, rfl, Hlt.out, HLe, HOwne, HIe, HBde, HCe, hLke, HBe⟩)
                  have HLen := Lib.hid (len_any g w.heap.size en sn (hh) (mm + 1) (es) wr HLe.out)
                  have HSize := Lib.hid (size_any g w.heap.size en sn (hh) (mm + 1) (es) wr HLe.out)
                  obtain ⟨nE, hnE⟩ : ∃ z, z = (es).length := ⟨_, rfl⟩
                  obtain ⟨tE, htE⟩ : ∃ z, z = tot (es) := ⟨_, rfl⟩
                  rw [← hnE] at HLen hbe
                  rw [← htE] at HSize hbe
                  have Hse := HE.out
                  have Hss := HSN.out
                  clear hnE htE HLe HOwne HIe HBde HCe HBe
                  by_cases hz : nE = 0
                  · have f1 : decide ((0 : Int) < (nE : Int)) = false := decide_eq_false (by omega)
                    have f2 : decide (0 < nE) = false := decide_eq_false (by omega)
                    clear hbe Hse Hss
                    go_wp2_with fail
                    refine HLen.out.mono ?_
                    rintro e Z ⟨rfl, rfl⟩
                    clear HLen HSize
                    go_wp2_with fail
                    go_roundw
                    case rel => obtain ⟨k', es', L', hh', mm', rfl, r⟩ := ROUND.out; exact ⟨k + 1, es', L', hh', mm', by go_num, r⟩
                    case measure => simp [intOf] <;> omega
                  · have f1 : decide ((0 : Int) < (nE : Int)) = true := decide_eq_true (by omega)
                    have f2 : decide (0 < nE) = true := decide_eq_true (by omega)
                    have f3 : decide (a0 < (nE : Int)) = false := decide_eq_false (by omega)
                    by_cases f4 : a1 < 0
                    · have f5 : decide ((0 : Int) < (tE : Int)) = false := decide_eq_false (by omega)
                      have f6 : decide (0 < tE) = false := decide_eq_false (by omega)
                      clear hbe Hse Hss
                      go_wp2_with fail
                      refine HLen.out.mono ?_
                      rintro e Z ⟨rfl, rfl⟩
                      go_wp2_with fail
                      refine HLen.out.mono ?_
                      rintro e Z ⟨rfl, rfl⟩
                      go_wp2_with fail
                      refine HSize.out.mono ?_
                      rintro e Z ⟨rfl, rfl⟩
                      clear HLen HSize
                      go_wp2_with fail
                      go_roundw
                      case rel => obtain ⟨k', es', L', hh', mm', rfl, r⟩ := ROUND.out; exact ⟨k + 1, es', L', hh', mm', by go_num, r⟩
                      case measure => simp [intOf] <;> omega
                    · have f5 : decide (a1 < (tE : Int)) = false := decide_eq_false (by omega)
                      clear hbe Hse Hss
                      go_wp2_with fail
                      refine HLen.out.mono ?_
                      rintro e Z ⟨rfl, rfl⟩
                      go_wp2_with fail
                      refine HLen.out.mono ?_
                      rintro e Z ⟨rfl, rfl⟩
                      go_wp2_with fail
                      refine HSize.out.mono ?_
                      rintro e Z ⟨rfl, rfl⟩
                      clear HLen HSize
                      go_wp2_with fail
                      go_roundw
                      case rel => obtain ⟨k', es', L', hh', mm', rfl, r⟩ := ROUND.out; exact ⟨k + 1, es', L', hh', mm', by go_num, r⟩
                      case measure => simp [intOf] <;> omega
            | some x =>
              obtain ⟨hmem, hkey⟩ := fnd_some hf
              obtain ⟨l1, l2, hes⟩ := List.append_of_mem hmem
              subst hes
              have hKL : (keysOf (l1 ++ x :: l2)).Nodup ∧ ∀ b ∈ x.bs, b < 256 := by
                obtain ⟨mark, mp, n, D, hS, _, _, hKy⟩ := HLx.out.ex
                exact ⟨hKy, (hS.dat x (by simp)).1.lt⟩
              have htm := tot_mid l1 l2 x
              have hxs : x.size = x.key.size + x.bs.length := rfl
              have hb1 := bulk_le l (k + 1)
              have hb2 := Hbk.out
              have hc1 := HCx.out
              have HG := Lib.hid (get_yes g w.heap.size en sn hh mm l1 l2 x s X HLx.out hf (by omega) (by omega) (by omega))
              have hsaid := HIx.out s x hf
              have HIe : Hid (Inv (x :: (l1 ++ l2)) L) := HIx.out.get hKL.1
              have HBde : Hid ((x :: (l1 ++ l2)).length ≤ en ∧ tot (x :: (l1 ++ l2)) ≤ sn) := by have := HBdx.out; rw [← len_move, ← tot_move] at this; exact this
              have hLke := hLkx
              have HCe : Hid ((x :: (l1 ++ l2)).length ≤ k + 1 ∧ tot (x :: (l1 ++ l2)) ≤ bulk (l.take (k + 1)) ∧ hh + 1 ≤ k + 1 ∧ mm ≤ k + 1) := by rw [len_move, tot_move]; exact ⟨hc1.1, hc1.2.1, by omega, by omega⟩
              have HOL := Lib.hid fun (Y : World) (ho : Only (LS w.heap.size X) X Y) => (show Y.ownsRow w.heap.size 9 1 u8 (2 * L.length) (flat L) ∧ Below w.heap.size w Y from ⟨own_ls HOx.out ho, HBx.out.trans (ho.low HBx.out.size)⟩)
              have HWL := Lib.hid fun (Y : World) (ho : Only (LS w.heap.size X) X Y) => whole_ls HWx.out ho
              have HXL := Lib.hid hKL.2
              have HSd := Lib.hid hsaid
              clear HCx HIx HBdx hLkx hf HLx HOx HBx hmem hkey hKL htm hxs hb1 hb2 hc1 hsaid
              go_wp2_with fail
              refine HG.out.mono ?_
              rintro e Y ⟨vb, rfl, hownb, hLe, hOe⟩
              have HLe := Lib.hid hLe
              have y1 : Y.cell? ⟨bX, 1, none⟩ = some (.string s) := by rw [(HWL.out Y hOe).cell]; rfl
              have HOwne := Lib.hid (HOL.out Y hOe).1
              have HBe := Lib.hid (HOL.out Y hOe).2
              obtain ⟨a8, c8, rfl, _, _, hV⟩ := Vals.of_own HOwne.out
              obtain ⟨a9, c9, rfl, _, _, _, hnb⟩ := hownb.nums
              obtain ⟨j, hj, h1, h2, h3⟩ := HSd.out
              obtain ⟨b8, o8, rfl, hcell⟩ := hV.flat_at (by omega)
              have hst : ∀ m, (convert 31 9 (.slice a9 x.bs.length c9)).run Try.prog (Y.drewN m) = .ok (.string (strOf x.bs)) (Y.drewN m) := fun m =>
                str_of_nums (Y.drewN m) Y.heap.size 31 9 5 a9 c9 x.bs Try.underlying31 Try.underlying5 Try.underlying9 hnb HXL.out
              have hst0 := hst 0
              obtain ⟨n2, hn2⟩ : ∃ n2, n2 = 2 * L.length := ⟨_, rfl⟩
              have hn3 : n2 ≤ 200 := by omega
              have hn4 : 2 ≤ n2 := by omega
              rw [← hn2]
              have HN2 := Lib.hid hn2
              have HCell := Lib.hid hcell
              have Hj := Lib.hid hj
              have H1 : Hid (∀ h : j < L.length, kb (L[j]'h).1 = kb s) := fun _ => h1
              have H3 := Lib.hid h3
              obtain ⟨xl, hxl⟩ : ∃ z, z = x.bs.length := ⟨_, rfl⟩
              obtain ⟨tx, htx⟩ : ∃ z, z = strOf x.bs := ⟨_, rfl⟩
              rw [← hxl, ← htx] at hst
              rw [← hxl]
              rw [← htx] at h2
              have H2 : Hid (∀ h : j < L.length, (L[j]'h).2 = tx) := fun _ => h2
              have HHt := Lib.hid htx
              clear hn2 HG HOL HWL hLe hOe hownb hV hnb hcell h1 h2 h3 HSd hj hst0 hxl htx
              go_wp2_with fail
              go_loopw [13] (fun kv W => ∃ (n q : Nat), Hid (q = 2 * n) ∧ kv = .int .i64 (q : Int) ∧ q + 2 ≤ n2 ∧ Hid (∃ (hn : n < L.length), ∀ i (hi : i < L.length), n < i → kb (L[i]'hi).1 ≠ kb s) ∧ ∃ m, W = Y.drewN m) (fun kv _ => (intOf kv).toNat)
              case atStart =>
                have hn2 := HN2.out
                have hjj := Hj.out
                exact ⟨L.length - 1, n2 - 2, (by show _ = _; omega), by congr 1; omega, by omega, ⟨by omega, fun i hi h => by omega⟩, 0, rfl⟩
              case round =>
                obtain ⟨n, q, hq, rfl, hq2, hn, m, rfl⟩ := hrel
                obtain ⟨hn1, hn5⟩ := hn.out
                obtain ⟨e1, e2⟩ := HCell.out n hn1
                rw [← hq.out] at e1 e2
                have g1 : decide ((0 : Int) ≤ (q : Int)) = true := decide_eq_true (by omega)
                by_cases he : kb (L[n]'hn1).1 = kb s
                · have hjn : j = n := by
                    rcases Nat.lt_trichotomy j n with h | h | h
                    · exact absurd he (H3.out n hn1 h)
                    · exact h
                    · exact absurd (H1.out Hj.out) (hn5 j Hj.out h)
                  have e3 : (L[n]'hn1).1 = s := key_eq he
                  have e4 : (L[n]'hn1).2 = tx := by subst hjn; exact H2.out Hj.out
                  rw [e3] at e1
                  rw [e4] at e2
                  clear e3 e4 hjn he hn5 hn hq HCell H1 H2 H3 Hj hn1
                  have hn4b : q + 1 < n2 := by omega
                  have hqn : q < n2 := by omega
                  go_wp2_with fail
                  go_quiet (fail)
                  go_wp2_with fail
                  go_quiet (fail)
                  have hn2 := HN2.out
                  subst hn2
                  clear e1 e2 hst hq2 g1 hn4b hqn hn3 hn4 y1
                  have hbe := HBde.out
                  have ROUND := Lib.hid fun (dm : Nat) => (show ∃ (k' : Nat) (es' : List En) (L' : List (ByteArray × ByteArray)) (hh' mm' : Nat), k + 1 = k' ∧ k' ≤ l.length ∧ Hid (Lru (Y.drewN dm) w.heap.size g en sn hh' mm' es') ∧ Hid ((Y.drewN dm).ownsRow w.heap.size 9 1 (.slice (some ⟨b8, o8, none⟩) (2 * L.length) c8) (2 * L'.length) (flat L')) ∧ Hid (Inv es' L') ∧ Hid (es'.length ≤ en ∧ tot es' ≤ sn) ∧ Hid (es'.length ≤ k' ∧ tot es' ≤ bulk (l.take k') ∧ hh' ≤ k' ∧ mm' ≤ k') ∧ L'.length ≤ k' ∧ Hid (Below w.heap.size w (Y.drewN dm)) from
                    ⟨k + 1, x :: (l1 ++ l2), L, hh + 1, mm, rfl, Hlt.out, HLe.out.drewN dm, HOwne.out, HIe, HBde, HCe, hLke, ⟨HBe.out.os, HBe.out.tape, HBe.out.output, HBe.out.size, HBe.out.block⟩⟩)
                  have HLen := Lib.hid fun (dm : Nat) => (len_any g w.heap.size en sn (hh + 1) (mm) (x :: (l1 ++ l2)) (Y.drewN dm) (HLe.out.drewN dm))
                  have HSize := Lib.hid fun (dm : Nat) => (size_any g w.heap.size en sn (hh + 1) (mm) (x :: (l1 ++ l2)) (Y.drewN dm) (HLe.out.drewN dm))
                  obtain ⟨nE, hnE⟩ : ∃ z, z = (x :: (l1 ++ l2)).length := ⟨_, rfl⟩
                  obtain ⟨tE, htE⟩ : ∃ z, z = tot (x :: (l1 ++ l2)) := ⟨_, rfl⟩
                  rw [← hnE] at HLen hbe
                  rw [← htE] at HSize hbe
                  have Hse := HE.out
                  have Hss := HSN.out
                  clear hnE htE HLe HOwne HIe HBde HCe HBe
                  by_cases hz : nE = 0
                  · have f1 : decide ((0 : Int) < (nE : Int)) = false := decide_eq_false (by omega)
                    have f2 : decide (0 < nE) = false := decide_eq_false (by omega)
                    clear hbe Hse Hss
                    go_wp2_with fail
                    refine (HLen.out _).mono ?_
                    rintro e Z ⟨rfl, rfl⟩
                    clear HLen HSize
                    go_wp2_with fail
                    go_roundw
                    case rel => obtain ⟨k', es', L', hh', mm', rfl, r⟩ := ROUND.out _; exact ⟨k + 1, es', L', hh', mm', by go_num, r⟩
                    case measure => simp [intOf] <;> omega
                  · have f1 : decide ((0 : Int) < (nE : Int)) = true := decide_eq_true (by omega)
                    have f2 : decide (0 < nE) = true := decide_eq_true (by omega)
                    have f3 : decide (a0 < (nE : Int)) = false := decide_eq_false (by omega)
                    by_cases f4 : a1 < 0
                    · have f5 : decide ((0 : Int) < (tE : Int)) = false := decide_eq_false (by omega)
                      have f6 : decide (0 < tE) = false := decide_eq_false (by omega)
                      clear hbe Hse Hss
                      go_wp2_with fail
                      refine (HLen.out _).mono ?_
                      rintro e Z ⟨rfl, rfl⟩
                      go_wp2_with fail
                      refine (HLen.out _).mono ?_
                      rintro e Z ⟨rfl, rfl⟩
                      go_wp2_with fail
                      refine (HSize.out _).mono ?_
                      rintro e Z ⟨rfl, rfl⟩
                      clear HLen HSize
                      go_wp2_with fail
                      go_roundw
                      case rel => obtain ⟨k', es', L', hh', mm', rfl, r⟩ := ROUND.out _; exact ⟨k + 1, es', L', hh', mm', by go_num, r⟩
                      case measure => simp [intOf] <;> omega
                    · have f5 : decide (a1 < (tE : Int)) = false := decide_eq_false (by omega)
                      clear hbe Hse Hss
                      go_wp2_with fail
                      refine (HLen.out _).mono ?_
                      rintro e Z ⟨rfl, rfl⟩
                      go_wp2_with fail
                      refine (HLen.out _).mono ?_
                      rintro e Z ⟨rfl, rfl⟩
                      go_wp2_with fail
                      refine (HSize.out _).mono ?_
                      rintro e Z ⟨rfl, rfl⟩
                      clear HLen HSize
                      go_wp2_with fail
                      go_roundw
                      case rel => obtain ⟨k', es', L', hh', mm', rfl, r⟩ := ROUND.out _; exact ⟨k + 1, es', L', hh', mm', by go_num, r⟩
                      case measure => simp [intOf] <;> omega
                · have hn0 : 1 ≤ n := by
                    rcases Nat.lt_trichotomy j n with h | h | h
                    · omega
                    · exact absurd (H1.out Hj.out) (by subst h; exact he)
                    · exact absurd (H1.out Hj.out) (hn5 j Hj.out h)
                  have hq9 := hq.out
                  obtain ⟨t, ht⟩ : ∃ t, t = (L[n]'hn1).1 := ⟨_, rfl⟩
                  rw [← ht] at e1
                  have hne : (t.toList == s.toList) = false := by
                    rw [beq_eq_false_iff_ne, ByteArray.toList_eq, ByteArray.toList_eq]
                    rw [ht]
                    exact he
                  have REL : Hid (∃ (h : n - 1 < L.length), ∀ i (hi : i < L.length), n - 1 < i → kb (L[i]'hi).1 ≠ kb s) := ⟨by omega, fun i hi h => by
                    by_cases e : i = n
                    · subst e; exact he
                    · exact hn5 i hi (by omega)⟩
                  have HQ : Hid (q - 2 = 2 * (n - 1)) := by show _ = _; omega
                  have hq8 : 2 ≤ q := by omega
                  have hqn : q < n2 := by omega
                  clear he hn5 hn hq hn1 ht e2 hq9 hn0
                  go_wp2_with fail
                  go_quiet (fail)
                  go_wp2_with fail
                  go_roundw
                  case rel => exact ⟨n - 1, q - 2, HQ, by congr 1; omega, by omega, REL, _, rfl⟩
                  case measure => simp [intOf] <;> omega
          · have hno1 : 0 < en := by omega
            have hno2 : s.size + bs.length ≤ sn := by omega
            have hc1 := HC.out
            have hb1 := bulk_le l k
            have hb2 := Hbk.out
            have hbt := HBt.out
            have HP := Lib.hid (put_yes g w.heap.size en sn hh mm cc ad bs es s X HLx.out (by omega) (by omega) (by omega) hno1 hno2 HNx.out Hnil.out Hlt8.out (by omega) (by omega))
            have KEEP := Lib.hid fun (Y : World) (ho : Only (LS w.heap.size X) X Y) => (show Y.ownsRow w.heap.size 9 1 u8 (2 * L.length) (flat L) ∧ Below w.heap.size w Y ∧ Whole Y bX 33 #[.int .i64 1, .string s, .slice ad bs.length cc] ∧ Nums .u8 Y w.heap.size ad bs from ⟨own_ls HOx.out ho, HBx.out.trans (ho.low HBx.out.size), whole_ls HWx.out ho, HNx.out.below (ho.low HBx.out.size)⟩)
            have HEV := Lib.hid fun (xx : En) (h1 : xx.key = s) (h2 : xx.bs = bs) => (show ((evict en sn ((wo es s).length + 1) (xx :: wo es s)).length ≤ en ∧ tot (evict en sn ((wo es s).length + 1) (xx :: wo es s)) ≤ sn) ∧ ((evict en sn ((wo es s).length + 1) (xx :: wo es s)).length ≤ k + 1 ∧ tot (evict en sn ((wo es s).length + 1) (xx :: wo es s)) ≤ bulk (l.take (k + 1)) ∧ hh ≤ k ∧ mm ≤ k) from by
              refine ⟨evict_ok en sn _ _ (by simp), ?_, ?_, hc1.2.2⟩
              · have h5 := (evict_pre en sn ((wo es s).length + 1) (xx :: wo es s)).length_le
                have h6 : (wo es s).length ≤ es.length := List.length_filter_le _ _
                simp at h5
                omega
              · have h5 := tot_pre (evict_pre en sn ((wo es s).length + 1) (xx :: wo es s))
                have h6 := wo_le es s
                have h7 : tot (xx :: wo es s) = xx.size + tot (wo es s) := by unfold tot; simp
                have h8 : xx.size = s.size + bs.length := by unfold En.size; rw [h1, h2]
                omega)
            have HIP := Lib.hid fun (xx : En) (h1 : xx.key = s) (h2 : xx.bs = bs) => HIx.out.put h1 h2 en sn ((wo es s).length + 1)
            have hLkx : L.length + 1 ≤ k + 1 := by omega
            have Hl1 : Hid (2 * L.length + 2 ≤ maxLen) := by unfold Hid maxLen; omega
            have Hl2 : Hid ((2 * L.length + 2) * 16 ≤ 140737488355328) := by unfold Hid; omega
            clear HC hLk HNx Hnil HBt hno hno1 hno2 hc1 hb1 hb2 hbt HLx HOx HIx HBdx HBx HWx
            go_wp2_with fail
            refine HP.out.mono ?_
            rintro e Y ⟨rfl, xx, hxk, hxb, hL1, hO1⟩
            obtain ⟨hown1, hB1, hW1, hN1⟩ := KEEP.out Y hO1
            have y1 : Y.cell? ⟨bX, 1, none⟩ = some (.string s) := by rw [hW1.cell]; rfl
            have y2 : Y.cell? ⟨bX, 2, none⟩ = some (.slice ad bs.length cc) := by rw [hW1.cell]; rfl
            have hst := str_of_nums Y w.heap.size 31 9 5 ad cc bs Try.underlying31 Try.underlying5 Try.underlying9 hN1 Hlt8.out
            have HOa : Hid ((Y.alloc (.cells #[.string s, .string (strOf bs)] 9)).ownsRow w.heap.size 9 1 u8 (2 * L.length) (flat L)) := hown1.alloc _
            have HVa : Hid (Vals (Y.alloc (.cells #[.string s, .string (strOf bs)] 9)) (Y.heap.size + 1) 1 (some ⟨Y.heap.size, 0, none⟩) 2 [.string s, .string (strOf bs)]) := by
              have := Vals.of_block (w := Y.alloc (.cells #[.string s, .string (strOf bs)] 9)) (xs := [.string s, .string (strOf bs)]) (n := 2) (size := 1) (heap_alloc_new Y _) rfl
              show Vals _ _ _ _ _ _
              simpa using this
            have Hone : Hid (∀ u ∈ [Value.string s, Value.string (strOf bs)], u.oneCell' = true) := by intro u hu; simp at hu; rcases hu with rfl | rfl <;> rfl
            have HBa : Hid (Below w.heap.size w (Y.alloc (.cells #[.string s, .string (strOf bs)] 9))) := hB1.alloc hB1.size _
            have HLa : Hid (Lru (Y.alloc (.cells #[.string s, .string (strOf bs)] 9)) w.heap.size g en sn hh mm (evict en sn ((wo es s).length + 1) (xx :: wo es s))) := hL1.below ((Below.refl _ _).alloc (Nat.le_refl _) _)
            have HWa : Hid (Whole (Y.alloc (.cells #[.string s, .string (strOf bs)] 9)) bX 33 #[.int .i64 1, .string s, .slice ad bs.length cc]) := hW1.alloc _
            have HEv := Lib.hid (HEV.out xx hxk hxb)
            have HIx : Hid (Inv (evict en sn ((wo es s).length + 1) (xx :: wo es s)) (L ++ [(s, strOf bs)])) := HIP.out xx hxk hxb
            have HBdx := Lib.hid HEv.out.1
            have HCx := Lib.hid HEv.out.2
            obtain ⟨es, hes2⟩ : ∃ z, z = evict en sn ((wo es s).length + 1) (xx :: wo es s) := ⟨_, rfl⟩
            rw [← hes2] at HLa HIx HBdx HCx
            clear hes2 HEv HIP HEV hL1 hO1 hown1 hB1 hW1 hN1 KEEP HP hxk hxb q0 q1 q2 Hlt8
            have HBsz : Hid (w.heap.size ≤ (Y.alloc (.cells #[.string s, .string (strOf bs)] 9)).heap.size) := HBa.out.size
            go_wp2_with (at_builtin; refine app_vals rfl (.tmp 40) (.tmp 46) 41 rfl w.heap.size 9 i0 _ 1 16 Try.underlying41 hi0 hz0 hz1 hz2 rfl (by omega) u8 (2 * L.length) (flat L) rfl HOa.out (Y.heap.size + 1) _ 2 2 [.string s, .string (strOf bs)] rfl HVa.out Hone.out Hl1.out Hl2.out HBsz.out ?_)
            intro v2 X h2 h3 _
            have hoX : Only (fun b => u8.ownBlock = some b) (Y.alloc (.cells #[.string s, .string (strOf bs)] 9)) X := Only.of_grown h3 (fun b hb => hb)
            have HLx : Hid (Lru X w.heap.size g en sn hh mm es) := HLa.out.strs hoX (fun b hb => own_str_type HOa.out hb)
            have HWx : Hid (Whole X bX 33 #[.int .i64 1, .string s, .slice ad bs.length cc]) := HWa.out.only hoX (fun hb => by
              obtain ⟨cs, f, h9⟩ := own_str_type HOa.out hb
              exact absurd (cells_inj h9 HWa.out) (by decide))
            have HBx : Hid (Below w.heap.size w X) := below_of_grown HBa.out HOa.out h3 HBsz.out
            have HOx : Hid (X.ownsRow w.heap.size 9 1 v2 (2 * (L ++ [(s, strOf bs)]).length) (flat (L ++ [(s, strOf bs)]))) := by
              have e1 : 2 * (L ++ [(s, strOf bs)]).length = 2 * L.length + 2 := by simp; omega
              rw [e1, ← flat_append]
              exact h2
            have q1 : X.cell? ⟨bX, 1, none⟩ = some (.string s) := by rw [HWx.out.cell]; rfl
            have hLkx2 : (L ++ [(s, strOf bs)]).length ≤ k + 1 := by simpa using hLkx
            obtain ⟨L, hL2⟩ : ∃ z, z = L ++ [(s, strOf bs)] := ⟨_, rfl⟩
            rw [← hL2] at HOx HIx hLkx2
            have hLkx := hLkx2
            clear hL2 hLkx2 h2 h3 hoX HLa HWa HBa HOa HVa Hone HBsz Hl1 Hl2 hst y1 y2
            go_wp2_with fail
            clear q1
            cases hf : fnd es s with
            | none =>
              have HG := Lib.hid (get_no g w.heap.size en sn hh mm es s X HLx.out hf (by omega) (by have := HCx.out; omega))
              have HIe := HIx
              have HBde := HBdx
              have hLke := hLkx
              have HCe : Hid (es.length ≤ k + 1 ∧ tot es ≤ bulk (l.take (k + 1)) ∧ hh ≤ k + 1 ∧ mm + 1 ≤ k + 1) := by have := HCx.out; exact ⟨this.1, this.2.1, by omega, by omega⟩
              have HOL := Lib.hid fun (Y : World) (ho : Only (LS w.heap.size X) X Y) => (show Y.ownsRow w.heap.size 9 1 v2 (2 * L.length) (flat L) ∧ Below w.heap.size w Y from ⟨own_ls HOx.out ho, HBx.out.trans (ho.low HBx.out.size)⟩)
              clear HCx HIx HBdx hLkx hf HLx HOx HBx
              go_wp2_with fail
              refine HG.out.mono ?_
              rintro e Y ⟨rfl, hLe, hOe⟩
              have HLe := Lib.hid hLe
              have HOwne := Lib.hid (HOL.out Y hOe).1
              have HBe := Lib.hid (HOL.out Y hOe).2
              obtain ⟨a8, c8, rfl, _, _, _⟩ := Vals.of_own HOwne.out
              obtain ⟨n2, hn2⟩ : ∃ n2, n2 = 2 * L.length := ⟨_, rfl⟩
              have hn3 : n2 ≤ 200 := by omega
              have HOwne2 := HOwne
              rw [← hn2]
              have HN2 := Lib.hid hn2
              clear hn2
              clear HG HOL hLe hOe HOwne2
              by_cases hz2 : n2 < 2
              · have g1 : decide ((0 : Int) ≤ (n2 : Int) - 2) = false := decide_eq_false (by omega)
                have g2 : decide ((2 : Int) ≤ (n2 : Int)) = false := decide_eq_false (by omega)
                have g3 : decide (2 ≤ n2) = false := decide_eq_false (by omega)
                go_wp2_with fail
                go_loopw [13] (fun kv W => kv = .int .i64 ((n2 : Int) - 2) ∧ W = Y) (fun _ _ => 0)
                case atStart => exact ⟨rfl, rfl⟩
                case round =>
                  obtain ⟨rfl, rfl⟩ := hrel
                  have hn2 := HN2.out
                  subst hn2
                  have hbe := HBde.out
                  have ROUND := Lib.hid (show ∃ (k' : Nat) (es' : List En) (L' : List (ByteArray × ByteArray)) (hh' mm' : Nat), k + 1 = k' ∧ k' ≤ l.length ∧ Hid (Lru wr w.heap.size g en sn hh' mm' es') ∧ Hid (wr.ownsRow w.heap.size 9 1 (.slice a8 (2 * L.length) c8) (2 * L'.length) (flat L')) ∧ Hid (Inv es' L') ∧ Hid (es'.length ≤ en ∧ tot es' ≤ sn) ∧ Hid (es'.length ≤ k' ∧ tot es' ≤ bulk (l.take k') ∧ hh' ≤ k' ∧ mm' ≤ k') ∧ L'.length ≤ k' ∧ Hid (Below w.heap.size w wr) from
                    ⟨k + 1, es, L, hh, mm + 1, rfl, Hlt.out, HLe, HOwne, HIe, HBde, HCe, hLke, HBe⟩)
                  have HLen := Lib.hid (len_any g w.heap.size en sn (hh) (mm + 1) (es) wr HLe.out)
                  have HSize := Lib.hid (size_any g w.heap.size en sn (hh) (mm + 1) (es) wr HLe.out)
                  obtain ⟨nE, hnE⟩ : ∃ z, z = (es).length := ⟨_, rfl⟩
                  obtain ⟨tE, htE⟩ : ∃ z, z = tot (es) := ⟨_, rfl⟩
                  rw [← hnE] at HLen hbe
                  rw [← htE] at HSize hbe
                  have Hse := HE.out
                  have Hss := HSN.out
                  clear hnE htE HLe HOwne HIe HBde HCe HBe
                  by_cases hz : nE = 0
                  · have f1 : decide ((0 : Int) < (nE : Int)) = false := decide_eq_false (by omega)
                    have f2 : decide (0 < nE) = false := decide_eq_false (by omega)
                    clear hbe Hse Hss
                    go_wp2_with fail
                    refine HLen.out.mono ?_
                    rintro e Z ⟨rfl, rfl⟩
                    clear HLen HSize
                    go_wp2_with fail
                    go_roundw
                    case rel => obtain ⟨k', es', L', hh', mm', rfl, r⟩ := ROUND.out; exact ⟨k + 1, es', L', hh', mm', by go_num, r⟩
                    case measure => simp [intOf] <;> omega
                  · have f1 : decide ((0 : Int) < (nE : Int)) = true := decide_eq_true (by omega)
                    have f2 : decide (0 < nE) = true := decide_eq_true (by omega)
                    have f3 : decide (a0 < (nE : Int)) = false := decide_eq_false (by omega)
                    by_cases f4 : a1 < 0
                    · have f5 : decide ((0 : Int) < (tE : Int)) = false := decide_eq_false (by omega)
                      have f6 : decide (0 < tE) = false := decide_eq_false (by omega)
                      clear hbe Hse Hss
                      go_wp2_with fail
                      refine HLen.out.mono ?_
                      rintro e Z ⟨rfl, rfl⟩
                      go_wp2_with fail
                      refine HLen.out.mono ?_
                      rintro e Z ⟨rfl, rfl⟩
                      go_wp2_with fail
                      refine HSize.out.mono ?_
                      rintro e Z ⟨rfl, rfl⟩
                      clear HLen HSize
                      go_wp2_with fail
                      go_roundw
                      case rel => obtain ⟨k', es', L', hh', mm', rfl, r⟩ := ROUND.out; exact ⟨k + 1, es', L', hh', mm', by go_num, r⟩
                      case measure => simp [intOf] <;> omega
                    · have f5 : decide (a1 < (tE : Int)) = false := decide_eq_false (by omega)
                      clear hbe Hse Hss
                      go_wp2_with fail
                      refine HLen.out.mono ?_
                      rintro e Z ⟨rfl, rfl⟩
                      go_wp2_with fail
                      refine HLen.out.mono ?_
                      rintro e Z ⟨rfl, rfl⟩
                      go_wp2_with fail
                      refine HSize.out.mono ?_
                      rintro e Z ⟨rfl, rfl⟩
                      clear HLen HSize
                      go_wp2_with fail
                      go_roundw
                      case rel => obtain ⟨k', es', L', hh', mm', rfl, r⟩ := ROUND.out; exact ⟨k + 1, es', L', hh', mm', by go_num, r⟩
                      case measure => simp [intOf] <;> omega
              · have g1 : decide ((0 : Int) ≤ (n2 : Int) - 2) = true := decide_eq_true (by omega)
                have g2 : decide ((2 : Int) ≤ (n2 : Int)) = true := decide_eq_true (by omega)
                have g3 : decide (2 ≤ n2) = true := decide_eq_true (by omega)
                go_wp2_with fail
                go_loopw [13] (fun kv W => kv = .int .i64 ((n2 : Int) - 2) ∧ W = Y) (fun _ _ => 0)
                case atStart => exact ⟨rfl, rfl⟩
                case round =>
                  obtain ⟨rfl, rfl⟩ := hrel
                  have hn2 := HN2.out
                  subst hn2
                  have hbe := HBde.out
                  have ROUND := Lib.hid (show ∃ (k' : Nat) (es' : List En) (L' : List (ByteArray × ByteArray)) (hh' mm' : Nat), k + 1 = k' ∧ k' ≤ l.length ∧ Hid (Lru wr w.heap.size g en sn hh' mm' es') ∧ Hid (wr.ownsRow w.heap.size 9 1 (.slice a8 (2 * L.length) c8) (2 * L'.length) (flat L')) ∧ Hid (Inv es' L') ∧ Hid (es'.length ≤ en ∧ tot es' ≤ sn) ∧ Hid (es'.length ≤ k' ∧ tot es' ≤ bulk (l.take k') ∧ hh' ≤ k' ∧ mm' ≤ k') ∧ L'.length ≤ k' ∧ Hid (Below w.heap.size w wr) from
                    ⟨k + 1, es, L, hh, mm + 1, rfl, Hlt.out, HLe, HOwne, HIe, HBde, HCe, hLke, HBe⟩)
                  have HLen := Lib.hid (len_any g w.heap.size en sn (hh) (mm + 1) (es) wr HLe.out)
                  have HSize := Lib.hid (size_any g w.heap.size en sn (hh) (mm + 1) (es) wr HLe.out)
                  obtain ⟨nE, hnE⟩ : ∃ z, z = (es).length := ⟨_, rfl⟩
                  obtain ⟨tE, htE⟩ : ∃ z, z = tot (es) := ⟨_, rfl⟩
                  rw [← hnE] at HLen hbe
                  rw [← htE] at HSize hbe
                  have Hse := HE.out
                  have Hss := HSN.out
                  clear hnE htE HLe HOwne HIe HBde HCe HBe
                  by_cases hz : nE = 0
                  · have f1 : decide ((0 : Int) < (nE : Int)) = false := decide_eq_false (by omega)
                    have f2 : decide (0 < nE) = false := decide_eq_false (by omega)
                    clear hbe Hse Hss
                    go_wp2_with fail
                    refine HLen.out.mono ?_
                    rintro e Z ⟨rfl, rfl⟩
                    clear HLen HSize
                    go_wp2_with fail
                    go_roundw
                    case rel => obtain ⟨k', es', L', hh', mm', rfl, r⟩ := ROUND.out; exact ⟨k + 1, es', L', hh', mm', by go_num, r⟩
                    case measure => simp [intOf] <;> omega
                  · have f1 : decide ((0 : Int) < (nE : Int)) = true := decide_eq_true (by omega)
                    have f2 : decide (0 < nE) = true := decide_eq_true (by omega)
                    have f3 : decide (a0 < (nE : Int)) = false := decide_eq_false (by omega)
                    by_cases f4 : a1 < 0
                    · have f5 : decide ((0 : Int) < (tE : Int)) = false := decide_eq_false (by omega)
                      have f6 : decide (0 < tE) = false := decide_eq_false (by omega)
                      clear hbe Hse Hss
                      go_wp2_with fail
                      refine HLen.out.mono ?_
                      rintro e Z ⟨rfl, rfl⟩
                      go_wp2_with fail
                      refine HLen.out.mono ?_
                      rintro e Z ⟨rfl, rfl⟩
                      go_wp2_with fail
                      refine HSize.out.mono ?_
                      rintro e Z ⟨rfl, rfl⟩
                      clear HLen HSize
                      go_wp2_with fail
                      go_roundw
                      case rel => obtain ⟨k', es', L', hh', mm', rfl, r⟩ := ROUND.out; exact ⟨k + 1, es', L', hh', mm', by go_num, r⟩
                      case measure => simp [intOf] <;> omega
                    · have f5 : decide (a1 < (tE : Int)) = false := decide_eq_false (by omega)
                      clear hbe Hse Hss
                      go_wp2_with fail
                      refine HLen.out.mono ?_
                      rintro e Z ⟨rfl, rfl⟩
                      go_wp2_with fail
                      refine HLen.out.mono ?_
                      rintro e Z ⟨rfl, rfl⟩
                      go_wp2_with fail
                      refine HSize.out.mono ?_
                      rintro e Z ⟨rfl, rfl⟩
                      clear HLen HSize
                      go_wp2_with fail
                      go_roundw
                      case rel => obtain ⟨k', es', L', hh', mm', rfl, r⟩ := ROUND.out; exact ⟨k + 1, es', L', hh', mm', by go_num, r⟩
                      case measure => simp [intOf] <;> omega
            | some x =>
              obtain ⟨hmem, hkey⟩ := fnd_some hf
              obtain ⟨l1, l2, hes⟩ := List.append_of_mem hmem
              subst hes
              have hKL : (keysOf (l1 ++ x :: l2)).Nodup ∧ ∀ b ∈ x.bs, b < 256 := by
                obtain ⟨mark, mp, n, D, hS, _, _, hKy⟩ := HLx.out.ex
                exact ⟨hKy, (hS.dat x (by simp)).1.lt⟩
              have htm := tot_mid l1 l2 x
              have hxs : x.size = x.key.size + x.bs.length := rfl
              have hb1 := bulk_le l (k + 1)
              have hb2 := Hbk.out
              have hc1 := HCx.out
              have HG := Lib.hid (get_yes g w.heap.size en sn hh mm l1 l2 x s X HLx.out hf (by omega) (by omega) (by omega))
              have hsaid := HIx.out s x hf
              have HIe : Hid (Inv (x :: (l1 ++ l2)) L) := HIx.out.get hKL.1
              have HBde : Hid ((x :: (l1 ++ l2)).length ≤ en ∧ tot (x :: (l1 ++ l2)) ≤ sn) := by have := HBdx.out; rw [← len_move, ← tot_move] at this; exact this
              have hLke := hLkx
              have HCe : Hid ((x :: (l1 ++ l2)).length ≤ k + 1 ∧ tot (x :: (l1 ++ l2)) ≤ bulk (l.take (k + 1)) ∧ hh + 1 ≤ k + 1 ∧ mm ≤ k + 1) := by rw [len_move, tot_move]; exact ⟨hc1.1, hc1.2.1, by omega, by omega⟩
              have HOL := Lib.hid fun (Y : World) (ho : Only (LS w.heap.size X) X Y) => (show Y.ownsRow w.heap.size 9 1 v2 (2 * L.length) (flat L) ∧ Below w.heap.size w Y from ⟨own_ls HOx.out ho, HBx.out.trans (ho.low HBx.out.size)⟩)
              have HWL := Lib.hid fun (Y : World) (ho : Only (LS w.heap.size X) X Y) => whole_ls HWx.out ho
              have HXL := Lib.hid hKL.2
              have HSd := Lib.hid hsaid
              clear HCx HIx HBdx hLkx hf HLx HOx HBx hmem hkey hKL htm hxs hb1 hb2 hc1 hsaid
              go_wp2_with fail
              refine HG.out.mono ?_
              rintro e Y ⟨vb, rfl, hownb, hLe, hOe⟩
              have HLe := Lib.hid hLe
              have y1 : Y.cell? ⟨bX, 1, none⟩ = some (.string s) := by rw [(HWL.out Y hOe).cell]; rfl
              have HOwne := Lib.hid (HOL.out Y hOe).1
              have HBe := Lib.hid (HOL.out Y hOe).2
              obtain ⟨a8, c8, rfl, _, _, hV⟩ := Vals.of_own HOwne.out
              obtain ⟨a9, c9, rfl, _, _, _, hnb⟩ := hownb.nums
              obtain ⟨j, hj, h1, h2, h3⟩ := HSd.out
              obtain ⟨b8, o8, rfl, hcell⟩ := hV.flat_at (by omega)
              have hst : ∀ m, (convert 31 9 (.slice a9 x.bs.length c9)).run Try.prog (Y.drewN m) = .ok (.string (strOf x.bs)) (Y.drewN m) := fun m =>
                str_of_nums (Y.drewN m) Y.heap.size 31 9 5 a9 c9 x.bs Try.underlying31 Try.underlying5 Try.underlying9 hnb HXL.out
              have hst0 := hst 0
              obtain ⟨n2, hn2⟩ : ∃ n2, n2 = 2 * L.length := ⟨_, rfl⟩
              have hn3 : n2 ≤ 200 := by omega
              have hn4 : 2 ≤ n2 := by omega
              rw [← hn2]
              have HN2 := Lib.hid hn2
              have HCell := Lib.hid hcell
              have Hj := Lib.hid hj
              have H1 : Hid (∀ h : j < L.length, kb (L[j]'h).1 = kb s) := fun _ => h1
              have H3 := Lib.hid h3
              obtain ⟨xl, hxl⟩ : ∃ z, z = x.bs.length := ⟨_, rfl⟩
              obtain ⟨tx, htx⟩ : ∃ z, z = strOf x.bs := ⟨_, rfl⟩
              rw [← hxl, ← htx] at hst
              rw [← hxl]
              rw [← htx] at h2
              have H2 : Hid (∀ h : j < L.length, (L[j]'h).2 = tx) := fun _ => h2
              have HHt := Lib.hid htx
              clear hn2 HG HOL HWL hLe hOe hownb hV hnb hcell h1 h2 h3 HSd hj hst0 hxl htx
              go_wp2_with fail
              go_loopw [13] (fun kv W => ∃ (n q : Nat), Hid (q = 2 * n) ∧ kv = .int .i64 (q : Int) ∧ q + 2 ≤ n2 ∧ Hid (∃ (hn : n < L.length), ∀ i (hi : i < L.length), n < i → kb (L[i]'hi).1 ≠ kb s) ∧ ∃ m, W = Y.drewN m) (fun kv _ => (intOf kv).toNat)
              case atStart =>
                have hn2 := HN2.out
                have hjj := Hj.out
                exact ⟨L.length - 1, n2 - 2, (by show _ = _; omega), by congr 1; omega, by omega, ⟨by omega, fun i hi h => by omega⟩, 0, rfl⟩
              case round =>
                obtain ⟨n, q, hq, rfl, hq2, hn, m, rfl⟩ := hrel
                obtain ⟨hn1, hn5⟩ := hn.out
                obtain ⟨e1, e2⟩ := HCell.out n hn1
                rw [← hq.out] at e1 e2
                have g1 : decide ((0 : Int) ≤ (q : Int)) = true := decide_eq_true (by omega)
                by_cases he : kb (L[n]'hn1).1 = kb s
                · have hjn : j = n := by
                    rcases Nat.lt_trichotomy j n with h | h | h
                    · exact absurd he (H3.out n hn1 h)
                    · exact h
                    · exact absurd (H1.out Hj.out) (hn5 j Hj.out h)
                  have e3 : (L[n]'hn1).1 = s := key_eq he
                  have e4 : (L[n]'hn1).2 = tx := by subst hjn; exact H2.out Hj.out
                  rw [e3] at e1
                  rw [e4] at e2
                  clear e3 e4 hjn he hn5 hn hq HCell H1 H2 H3 Hj hn1
                  have hn4b : q + 1 < n2 := by omega
                  have hqn : q < n2 := by omega
                  go_wp2_with fail
                  go_quiet (fail)
                  go_wp2_with fail
                  go_quiet (fail)
                  have hn2 := HN2.out
                  subst hn2
                  clear e1 e2 hst hq2 g1 hn4b hqn hn3 hn4 y1
                  have hbe := HBde.out
                  have ROUND := Lib.hid fun (dm : Nat) => (show ∃ (k' : Nat) (es' : List En) (L' : List (ByteArray × ByteArray)) (hh' mm' : Nat), k + 1 = k' ∧ k' ≤ l.length ∧ Hid (Lru (Y.drewN dm) w.heap.size g en sn hh' mm' es') ∧ Hid ((Y.drewN dm).ownsRow w.heap.size 9 1 (.slice (some ⟨b8, o8, none⟩) (2 * L.length) c8) (2 * L'.length) (flat L')) ∧ Hid (Inv es' L') ∧ Hid (es'.length ≤ en ∧ tot es' ≤ sn) ∧ Hid (es'.length ≤ k' ∧ tot es' ≤ bulk (l.take k') ∧ hh' ≤ k' ∧ mm' ≤ k') ∧ L'.length ≤ k' ∧ Hid (Below w.heap.size w (Y.drewN dm)) from
                    ⟨k + 1, x :: (l1 ++ l2), L, hh + 1, mm, rfl, Hlt.out, HLe.out.drewN dm, HOwne.out, HIe, HBde, HCe, hLke, ⟨HBe.out.os, HBe.out.tape, HBe.out.output, HBe.out.size, HBe.out.block⟩⟩)
                  have HLen := Lib.hid fun (dm : Nat) => (len_any g w.heap.size en sn (hh + 1) (mm) (x :: (l1 ++ l2)) (Y.drewN dm) (HLe.out.drewN dm))
                  have HSize := Lib.hid fun (dm : Nat) => (size_any g w.heap.size en sn (hh + 1) (mm) (x :: (l1 ++ l2)) (Y.drewN dm) (HLe.out.drewN dm))
                  obtain ⟨nE, hnE⟩ : ∃ z, z = (x :: (l1 ++ l2)).length := ⟨_, rfl⟩
                  obtain ⟨tE, htE⟩ : ∃ z, z = tot (x :: (l1 ++ l2)) := ⟨_, rfl⟩
                  rw [← hnE] at HLen hbe
                  rw [← htE] at HSize hbe
                  have Hse := HE.out
                  have Hss := HSN.out
                  clear hnE htE HLe HOwne HIe HBde HCe HBe
                  by_cases hz : nE = 0
                  · have f1 : decide ((0 : Int) < (nE : Int)) = false := decide_eq_false (by omega)
                    have f2 : decide (0 < nE) = false := decide_eq_false (by omega)
                    clear hbe Hse Hss
                    go_wp2_with fail
                    refine (HLen.out _).mono ?_
                    rintro e Z ⟨rfl, rfl⟩
                    clear HLen HSize
                    go_wp2_with fail
                    go_roundw
                    case rel => obtain ⟨k', es', L', hh', mm', rfl, r⟩ := ROUND.out _; exact ⟨k + 1, es', L', hh', mm', by go_num, r⟩
                    case measure => simp [intOf] <;> omega
                  · have f1 : decide ((0 : Int) < (nE : Int)) = true := decide_eq_true (by omega)
                    have f2 : decide (0 < nE) = true := decide_eq_true (by omega)
                    have f3 : decide (a0 < (nE : Int)) = false := decide_eq_false (by omega)
                    by_cases f4 : a1 < 0
                    · have f5 : decide ((0 : Int) < (tE : Int)) = false := decide_eq_false (by omega)
                      have f6 : decide (0 < tE) = false := decide_eq_false (by omega)
                      clear hbe Hse Hss
                      go_wp2_with fail
                      refine (HLen.out _).mono ?_
                      rintro e Z ⟨rfl, rfl⟩
                      go_wp2_with fail
                      refine (HLen.out _).mono ?_
                      rintro e Z ⟨rfl, rfl⟩
                      go_wp2_with fail
                      refine (HSize.out _).mono ?_
                      rintro e Z ⟨rfl, rfl⟩
                      clear HLen HSize
                      go_wp2_with fail
                      go_roundw
                      case rel => obtain ⟨k', es', L', hh', mm', rfl, r⟩ := ROUND.out _; exact ⟨k + 1, es', L', hh', mm', by go_num, r⟩
                      case measure => simp [intOf] <;> omega
                    · have f5 : decide (a1 < (tE : Int)) = false := decide_eq_false (by omega)
                      clear hbe Hse Hss
                      go_wp2_with fail
                      refine (HLen.out _).mono ?_
                      rintro e Z ⟨rfl, rfl⟩
                      go_wp2_with fail
                      refine (HLen.out _).mono ?_
                      rintro e Z ⟨rfl, rfl⟩
                      go_wp2_with fail
                      refine (HSize.out _).mono ?_
                      rintro e Z ⟨rfl, rfl⟩
                      clear HLen HSize
                      go_wp2_with fail
                      go_roundw
                      case rel => obtain ⟨k', es', L', hh', mm', rfl, r⟩ := ROUND.out _; exact ⟨k + 1, es', L', hh', mm', by go_num, r⟩
                      case measure => simp [intOf] <;> omega
                · have hn0 : 1 ≤ n := by
                    rcases Nat.lt_trichotomy j n with h | h | h
                    · omega
                    · exact absurd (H1.out Hj.out) (by subst h; exact he)
                    · exact absurd (H1.out Hj.out) (hn5 j Hj.out h)
                  have hq9 := hq.out
                  obtain ⟨t, ht⟩ : ∃ t, t = (L[n]'hn1).1 := ⟨_, rfl⟩
                  rw [← ht] at e1
                  have hne : (t.toList == s.toList) = false := by
                    rw [beq_eq_false_iff_ne, ByteArray.toList_eq, ByteArray.toList_eq]
                    rw [ht]
                    exact he
                  have REL : Hid (∃ (h : n - 1 < L.length), ∀ i (hi : i < L.length), n - 1 < i → kb (L[i]'hi).1 ≠ kb s) := ⟨by omega, fun i hi h => by
                    by_cases e : i = n
                    · subst e; exact he
                    · exact hn5 i hi (by omega)⟩
                  have HQ : Hid (q - 2 = 2 * (n - 1)) := by show _ = _; omega
                  have hq8 : 2 ≤ q := by omega
                  have hqn : q < n2 := by omega
                  clear he hn5 hn hq hn1 ht e2 hq9 hn0
                  go_wp2_with fail
                  go_quiet (fail)
                  go_wp2_with fail
                  go_roundw
                  case rel => exact ⟨n - 1, q - 2, HQ, by congr 1; omega, by omega, REL, _, rfl⟩
                  case measure => simp [intOf] <;> omega
        · have p1 : decide (kd = 1) = false := decide_eq_false hk1
          have p2 : (kd == 1) = false := by simpa using hk1
          have HCx : Hid (es.length ≤ k + 1 ∧ tot es ≤ bulk (l.take (k + 1)) ∧ hh ≤ k ∧ mm ≤ k) := by have h1 := HC.out; have h2 := HBt.out; exact ⟨by omega, by omega, h1.2.2⟩
          have hLkx : L.length ≤ k + 1 := by omega
          clear HC hLk HNx Hnil Hlt8 HBt q2
          go_wp2_with fail
          clear q0 q1
          cases hf : fnd es s with
          | none =>
            have HG := Lib.hid (get_no g w.heap.size en sn hh mm es s X HLx.out hf (by omega) (by have := HCx.out; omega))
            have HIe := HIx
            have HBde := HBdx
            have hLke := hLkx
            have HCe : Hid (es.length ≤ k + 1 ∧ tot es ≤ bulk (l.take (k + 1)) ∧ hh ≤ k + 1 ∧ mm + 1 ≤ k + 1) := by have := HCx.out; exact ⟨this.1, this.2.1, by omega, by omega⟩
            have HOL := Lib.hid fun (Y : World) (ho : Only (LS w.heap.size X) X Y) => (show Y.ownsRow w.heap.size 9 1 u8 (2 * L.length) (flat L) ∧ Below w.heap.size w Y from ⟨own_ls HOx.out ho, HBx.out.trans (ho.low HBx.out.size)⟩)
            clear HCx HIx HBdx hLkx hf HLx HOx HBx
            go_wp2_with fail
            refine HG.out.mono ?_
            rintro e Y ⟨rfl, hLe, hOe⟩
            have HLe := Lib.hid hLe
            have HOwne := Lib.hid (HOL.out Y hOe).1
            have HBe := Lib.hid (HOL.out Y hOe).2
            obtain ⟨a8, c8, rfl, _, _, _⟩ := Vals.of_own HOwne.out
            obtain ⟨n2, hn2⟩ : ∃ n2, n2 = 2 * L.length := ⟨_, rfl⟩
            have hn3 : n2 ≤ 200 := by omega
            have HOwne2 := HOwne
            rw [← hn2]
            have HN2 := Lib.hid hn2
            clear hn2
            clear HG HOL hLe hOe HOwne2
            by_cases hz2 : n2 < 2
            · have g1 : decide ((0 : Int) ≤ (n2 : Int) - 2) = false := decide_eq_false (by omega)
              have g2 : decide ((2 : Int) ≤ (n2 : Int)) = false := decide_eq_false (by omega)
              have g3 : decide (2 ≤ n2) = false := decide_eq_false (by omega)
              go_wp2_with fail
              go_loopw [13] (fun kv W => kv = .int .i64 ((n2 : Int) - 2) ∧ W = Y) (fun _ _ => 0)
              case atStart => exact ⟨rfl, rfl⟩
              case round =>
                obtain ⟨rfl, rfl⟩ := hrel
                have hn2 := HN2.out
                subst hn2
                have hbe := HBde.out
                have ROUND := Lib.hid (show ∃ (k' : Nat) (es' : List En) (L' : List (ByteArray × ByteArray)) (hh' mm' : Nat), k + 1 = k' ∧ k' ≤ l.length ∧ Hid (Lru wr w.heap.size g en sn hh' mm' es') ∧ Hid (wr.ownsRow w.heap.size 9 1 (.slice a8 (2 * L.length) c8) (2 * L'.length) (flat L')) ∧ Hid (Inv es' L') ∧ Hid (es'.length ≤ en ∧ tot es' ≤ sn) ∧ Hid (es'.length ≤ k' ∧ tot es' ≤ bulk (l.take k') ∧ hh' ≤ k' ∧ mm' ≤ k') ∧ L'.length ≤ k' ∧ Hid (Below w.heap.size w wr) from
                  ⟨k + 1, es, L, hh, mm + 1, rfl, Hlt.out, HLe, HOwne, HIe, HBde, HCe, hLke, HBe⟩)
                have HLen := Lib.hid (len_any g w.heap.size en sn (hh) (mm + 1) (es) wr HLe.out)
                have HSize := Lib.hid (size_any g w.heap.size en sn (hh) (mm + 1) (es) wr HLe.out)
                obtain ⟨nE, hnE⟩ : ∃ z, z = (es).length := ⟨_, rfl⟩
                obtain ⟨tE, htE⟩ : ∃ z, z = tot (es) := ⟨_, rfl⟩
                rw [← hnE] at HLen hbe
                rw [← htE] at HSize hbe
                have Hse := HE.out
                have Hss := HSN.out
                clear hnE htE HLe HOwne HIe HBde HCe HBe
                by_cases hz : nE = 0
                · have f1 : decide ((0 : Int) < (nE : Int)) = false := decide_eq_false (by omega)
                  have f2 : decide (0 < nE) = false := decide_eq_false (by omega)
                  clear hbe Hse Hss
                  go_wp2_with fail
                  refine HLen.out.mono ?_
                  rintro e Z ⟨rfl, rfl⟩
                  clear HLen HSize
                  go_wp2_with fail
                  go_roundw
                  case rel => obtain ⟨k', es', L', hh', mm', rfl, r⟩ := ROUND.out; exact ⟨k + 1, es', L', hh', mm', by go_num, r⟩
                  case measure => simp [intOf] <;> omega
                · have f1 : decide ((0 : Int) < (nE : Int)) = true := decide_eq_true (by omega)
                  have f2 : decide (0 < nE) = true := decide_eq_true (by omega)
                  have f3 : decide (a0 < (nE : Int)) = false := decide_eq_false (by omega)
                  by_cases f4 : a1 < 0
                  · have f5 : decide ((0 : Int) < (tE : Int)) = false := decide_eq_false (by omega)
                    have f6 : decide (0 < tE) = false := decide_eq_false (by omega)
                    clear hbe Hse Hss
                    go_wp2_with fail
                    refine HLen.out.mono ?_
                    rintro e Z ⟨rfl, rfl⟩
                    go_wp2_with fail
                    refine HLen.out.mono ?_
                    rintro e Z ⟨rfl, rfl⟩
                    go_wp2_with fail
                    refine HSize.out.mono ?_
                    rintro e Z ⟨rfl, rfl⟩
                    clear HLen HSize
                    go_wp2_with fail
                    go_roundw
                    case rel => obtain ⟨k', es', L', hh', mm', rfl, r⟩ := ROUND.out; exact ⟨k + 1, es', L', hh', mm', by go_num, r⟩
                    case measure => simp [intOf] <;> omega
                  · have f5 : decide (a1 < (tE : Int)) = false := decide_eq_false (by omega)
                    clear hbe Hse Hss
                    go_wp2_with fail
                    refine HLen.out.mono ?_
                    rintro e Z ⟨rfl, rfl⟩
                    go_wp2_with fail
                    refine HLen.out.mono ?_
                    rintro e Z ⟨rfl, rfl⟩
                    go_wp2_with fail
                    refine HSize.out.mono ?_
                    rintro e Z ⟨rfl, rfl⟩
                    clear HLen HSize
                    go_wp2_with fail
                    go_roundw
                    case rel => obtain ⟨k', es', L', hh', mm', rfl, r⟩ := ROUND.out; exact ⟨k + 1, es', L', hh', mm', by go_num, r⟩
                    case measure => simp [intOf] <;> omega
            · have g1 : decide ((0 : Int) ≤ (n2 : Int) - 2) = true := decide_eq_true (by omega)
              have g2 : decide ((2 : Int) ≤ (n2 : Int)) = true := decide_eq_true (by omega)
              have g3 : decide (2 ≤ n2) = true := decide_eq_true (by omega)
              go_wp2_with fail
              go_loopw [13] (fun kv W => kv = .int .i64 ((n2 : Int) - 2) ∧ W = Y) (fun _ _ => 0)
              case atStart => exact ⟨rfl, rfl⟩
              case round =>
                obtain ⟨rfl, rfl⟩ := hrel
                have hn2 := HN2.out
                subst hn2
                have hbe := HBde.out
                have ROUND := Lib.hid (show ∃ (k' : Nat) (es' : List En) (L' : List (ByteArray × ByteArray)) (hh' mm' : Nat), k + 1 = k' ∧ k' ≤ l.length ∧ Hid (Lru wr w.heap.size g en sn hh' mm' es') ∧ Hid (wr.ownsRow w.heap.size 9 1 (.slice a8 (2 * L.length) c8) (2 * L'.length) (flat L')) ∧ Hid (Inv es' L') ∧ Hid (es'.length ≤ en ∧ tot es' ≤ sn) ∧ Hid (es'.length ≤ k' ∧ tot es' ≤ bulk (l.take k') ∧ hh' ≤ k' ∧ mm' ≤ k') ∧ L'.length ≤ k' ∧ Hid (Below w.heap.size w wr) from
                  ⟨k + 1, es, L, hh, mm + 1, rfl, Hlt.out, HLe, HOwne, HIe, HBde, HCe, hLke, HBe⟩)
                have HLen := Lib.hid (len_any g w.heap.size en sn (hh) (mm + 1) (es) wr HLe.out)
                have HSize := Lib.hid (size_any g w.heap.size en sn (hh) (mm + 1) (es) wr HLe.out)
                obtain ⟨nE, hnE⟩ : ∃ z, z = (es).length := ⟨_, rfl⟩
                obtain ⟨tE, htE⟩ : ∃ z, z = tot (es) := ⟨_, rfl⟩
                rw [← hnE] at HLen hbe
                rw [← htE] at HSize hbe
                have Hse := HE.out
                have Hss := HSN.out
                clear hnE htE HLe HOwne HIe HBde HCe HBe
                by_cases hz : nE = 0
                · have f1 : decide ((0 : Int) < (nE : Int)) = false := decide_eq_false (by omega)
                  have f2 : decide (0 < nE) = false := decide_eq_false (by omega)
                  clear hbe Hse Hss
                  go_wp2_with fail
                  refine HLen.out.mono ?_
                  rintro e Z ⟨rfl, rfl⟩
                  clear HLen HSize
                  go_wp2_with fail
                  go_roundw
                  case rel => obtain ⟨k', es', L', hh', mm', rfl, r⟩ := ROUND.out; exact ⟨k + 1, es', L', hh', mm', by go_num, r⟩
                  case measure => simp [intOf] <;> omega
                · have f1 : decide ((0 : Int) < (nE : Int)) = true := decide_eq_true (by omega)
                  have f2 : decide (0 < nE) = true := decide_eq_true (by omega)
                  have f3 : decide (a0 < (nE : Int)) = false := decide_eq_false (by omega)
                  by_cases f4 : a1 < 0
                  · have f5 : decide ((0 : Int) < (tE : Int)) = false := decide_eq_false (by omega)
                    have f6 : decide (0 < tE) = false := decide_eq_false (by omega)
                    clear hbe Hse Hss
                    go_wp2_with fail
                    refine HLen.out.mono ?_
                    rintro e Z ⟨rfl, rfl⟩
                    go_wp2_with fail
                    refine HLen.out.mono ?_
                    rintro e Z ⟨rfl, rfl⟩
                    go_wp2_with fail
                    refine HSize.out.mono ?_
                    rintro e Z ⟨rfl, rfl⟩
                    clear HLen HSize
                    go_wp2_with fail
                    go_roundw
                    case rel => obtain ⟨k', es', L', hh', mm', rfl, r⟩ := ROUND.out; exact ⟨k + 1, es', L', hh', mm', by go_num, r⟩
                    case measure => simp [intOf] <;> omega
                  · have f5 : decide (a1 < (tE : Int)) = false := decide_eq_false (by omega)
                    clear hbe Hse Hss
                    go_wp2_with fail
                    refine HLen.out.mono ?_
                    rintro e Z ⟨rfl, rfl⟩
                    go_wp2_with fail
                    refine HLen.out.mono ?_
                    rintro e Z ⟨rfl, rfl⟩
                    go_wp2_with fail
                    refine HSize.out.mono ?_
                    rintro e Z ⟨rfl, rfl⟩
                    clear HLen HSize
                    go_wp2_with fail
                    go_roundw
                    case rel => obtain ⟨k', es', L', hh', mm', rfl, r⟩ := ROUND.out; exact ⟨k + 1, es', L', hh', mm', by go_num, r⟩
                    case measure => simp [intOf] <;> omega
          | some x =>
            obtain ⟨hmem, hkey⟩ := fnd_some hf
            obtain ⟨l1, l2, hes⟩ := List.append_of_mem hmem
            subst hes
            have hKL : (keysOf (l1 ++ x :: l2)).Nodup ∧ ∀ b ∈ x.bs, b < 256 := by
              obtain ⟨mark, mp, n, D, hS, _, _, hKy⟩ := HLx.out.ex
              exact ⟨hKy, (hS.dat x (by simp)).1.lt⟩
            have htm := tot_mid l1 l2 x
            have hxs : x.size = x.key.size + x.bs.length := rfl
            have hb1 := bulk_le l (k + 1)
            have hb2 := Hbk.out
            have hc1 := HCx.out
            have HG := Lib.hid (get_yes g w.heap.size en sn hh mm l1 l2 x s X HLx.out hf (by omega) (by omega) (by omega))
            have hsaid := HIx.out s x hf
            have HIe : Hid (Inv (x :: (l1 ++ l2)) L) := HIx.out.get hKL.1
            have HBde : Hid ((x :: (l1 ++ l2)).length ≤ en ∧ tot (x :: (l1 ++ l2)) ≤ sn) := by have := HBdx.out; rw [← len_move, ← tot_move] at this; exact this
            have hLke := hLkx
            have HCe : Hid ((x :: (l1 ++ l2)).length ≤ k + 1 ∧ tot (x :: (l1 ++ l2)) ≤ bulk (l.take (k + 1)) ∧ hh + 1 ≤ k + 1 ∧ mm ≤ k + 1) := by rw [len_move, tot_move]; exact ⟨hc1.1, hc1.2.1, by omega, by omega⟩
            have HOL := Lib.hid fun (Y : World) (ho : Only (LS w.heap.size X) X Y) => (show Y.ownsRow w.heap.size 9 1 u8 (2 * L.length) (flat L) ∧ Below w.heap.size w Y from ⟨own_ls HOx.out ho, HBx.out.trans (ho.low HBx.out.size)⟩)
            have HWL := Lib.hid fun (Y : World) (ho : Only (LS w.heap.size X) X Y) => whole_ls HWx.out ho
            have HXL := Lib.hid hKL.2
            have HSd := Lib.hid hsaid
            clear HCx HIx HBdx hLkx hf HLx HOx HBx hmem hkey hKL htm hxs hb1 hb2 hc1 hsaid
            go_wp2_with fail
            refine HG.out.mono ?_
            rintro e Y ⟨vb, rfl, hownb, hLe, hOe⟩
            have HLe := Lib.hid hLe
            have y1 : Y.cell? ⟨bX, 1, none⟩ = some (.string s) := by rw [(HWL.out Y hOe).cell]; rfl
            have HOwne := Lib.hid (HOL.out Y hOe).1
            have HBe := Lib.hid (HOL.out Y hOe).2
            obtain ⟨a8, c8, rfl, _, _, hV⟩ := Vals.of_own HOwne.out
            obtain ⟨a9, c9, rfl, _, _, _, hnb⟩ := hownb.nums
            obtain ⟨j, hj, h1, h2, h3⟩ := HSd.out
            obtain ⟨b8, o8, rfl, hcell⟩ := hV.flat_at (by omega)
            have hst : ∀ m, (convert 31 9 (.slice a9 x.bs.length c9)).run Try.prog (Y.drewN m) = .ok (.string (strOf x.bs)) (Y.drewN m) := fun m =>
              str_of_nums (Y.drewN m) Y.heap.size 31 9 5 a9 c9 x.bs Try.underlying31 Try.underlying5 Try.underlying9 hnb HXL.out
            have hst0 := hst 0
            obtain ⟨n2, hn2⟩ : ∃ n2, n2 = 2 * L.length := ⟨_, rfl⟩
            have hn3 : n2 ≤ 200 := by omega
            have hn4 : 2 ≤ n2 := by omega
            rw [← hn2]
            have HN2 := Lib.hid hn2
            have HCell := Lib.hid hcell
            have Hj := Lib.hid hj
            have H1 : Hid (∀ h : j < L.length, kb (L[j]'h).1 = kb s) := fun _ => h1
            have H3 := Lib.hid h3
            obtain ⟨xl, hxl⟩ : ∃ z, z = x.bs.length := ⟨_, rfl⟩
            obtain ⟨tx, htx⟩ : ∃ z, z = strOf x.bs := ⟨_, rfl⟩
            rw [← hxl, ← htx] at hst
            rw [← hxl]
            rw [← htx] at h2
            have H2 : Hid (∀ h : j < L.length, (L[j]'h).2 = tx) := fun _ => h2
            have HHt := Lib.hid htx
            clear hn2 HG HOL HWL hLe hOe hownb hV hnb hcell h1 h2 h3 HSd hj hst0 hxl htx
            go_wp2_with fail
            go_loopw [13] (fun kv W => ∃ (n q : Nat), Hid (q = 2 * n) ∧ kv = .int .i64 (q : Int) ∧ q + 2 ≤ n2 ∧ Hid (∃ (hn : n < L.length), ∀ i (hi : i < L.length), n < i → kb (L[i]'hi).1 ≠ kb s) ∧ ∃ m, W = Y.drewN m) (fun kv _ => (intOf kv).toNat)
            case atStart =>
              have hn2 := HN2.out
              have hjj := Hj.out
              exact ⟨L.length - 1, n2 - 2, (by show _ = _; omega), by congr 1; omega, by omega, ⟨by omega, fun i hi h => by omega⟩, 0, rfl⟩
            case round =>
              obtain ⟨n, q, hq, rfl, hq2, hn, m, rfl⟩ := hrel
              obtain ⟨hn1, hn5⟩ := hn.out
              obtain ⟨e1, e2⟩ := HCell.out n hn1
              rw [← hq.out] at e1 e2
              have g1 : decide ((0 : Int) ≤ (q : Int)) = true := decide_eq_true (by omega)
              by_cases he : kb (L[n]'hn1).1 = kb s
              · have hjn : j = n := by
                  rcases Nat.lt_trichotomy j n with h | h | h
                  · exact absurd he (H3.out n hn1 h)
                  · exact h
                  · exact absurd (H1.out Hj.out) (hn5 j Hj.out h)
                have e3 : (L[n]'hn1).1 = s := key_eq he
                have e4 : (L[n]'hn1).2 = tx := by subst hjn; exact H2.out Hj.out
                rw [e3] at e1
                rw [e4] at e2
                clear e3 e4 hjn he hn5 hn hq HCell H1 H2 H3 Hj hn1
                have hn4b : q + 1 < n2 := by omega
                have hqn : q < n2 := by omega
                go_wp2_with fail
                go_quiet (fail)
                go_wp2_with fail
                go_quiet (fail)
                have hn2 := HN2.out
                subst hn2
                clear e1 e2 hst hq2 g1 hn4b hqn hn3 hn4 y1
                have hbe := HBde.out
                have ROUND := Lib.hid fun (dm : Nat) => (show ∃ (k' : Nat) (es' : List En) (L' : List (ByteArray × ByteArray)) (hh' mm' : Nat), k + 1 = k' ∧ k' ≤ l.length ∧ Hid (Lru (Y.drewN dm) w.heap.size g en sn hh' mm' es') ∧ Hid ((Y.drewN dm).ownsRow w.heap.size 9 1 (.slice (some ⟨b8, o8, none⟩) (2 * L.length) c8) (2 * L'.length) (flat L')) ∧ Hid (Inv es' L') ∧ Hid (es'.length ≤ en ∧ tot es' ≤ sn) ∧ Hid (es'.length ≤ k' ∧ tot es' ≤ bulk (l.take k') ∧ hh' ≤ k' ∧ mm' ≤ k') ∧ L'.length ≤ k' ∧ Hid (Below w.heap.size w (Y.drewN dm)) from
                  ⟨k + 1, x :: (l1 ++ l2), L, hh + 1, mm, rfl, Hlt.out, HLe.out.drewN dm, HOwne.out, HIe, HBde, HCe, hLke, ⟨HBe.out.os, HBe.out.tape, HBe.out.output, HBe.out.size, HBe.out.block⟩⟩)
                have HLen := Lib.hid fun (dm : Nat) => (len_any g w.heap.size en sn (hh + 1) (mm) (x :: (l1 ++ l2)) (Y.drewN dm) (HLe.out.drewN dm))
                have HSize := Lib.hid fun (dm : Nat) => (size_any g w.heap.size en sn (hh + 1) (mm) (x :: (l1 ++ l2)) (Y.drewN dm) (HLe.out.drewN dm))
                obtain ⟨nE, hnE⟩ : ∃ z, z = (x :: (l1 ++ l2)).length := ⟨_, rfl⟩
                obtain ⟨tE, htE⟩ : ∃ z, z = tot (x :: (l1 ++ l2)) := ⟨_, rfl⟩
                rw [← hnE] at HLen hbe
                rw [← htE] at HSize hbe
                have Hse := HE.out
                have Hss := HSN.out
                clear hnE htE HLe HOwne HIe HBde HCe HBe
                by_cases hz : nE = 0
                · have f1 : decide ((0 : Int) < (nE : Int)) = false := decide_eq_false (by omega)
                  have f2 : decide (0 < nE) = false := decide_eq_false (by omega)
                  clear hbe Hse Hss
                  go_wp2_with fail
                  refine (HLen.out _).mono ?_
                  rintro e Z ⟨rfl, rfl⟩
                  clear HLen HSize
                  go_wp2_with fail
                  go_roundw
                  case rel => obtain ⟨k', es', L', hh', mm', rfl, r⟩ := ROUND.out _; exact ⟨k + 1, es', L', hh', mm', by go_num, r⟩
                  case measure => simp [intOf] <;> omega
                · have f1 : decide ((0 : Int) < (nE : Int)) = true := decide_eq_true (by omega)
                  have f2 : decide (0 < nE) = true := decide_eq_true (by omega)
                  have f3 : decide (a0 < (nE : Int)) = false := decide_eq_false (by omega)
                  by_cases f4 : a1 < 0
                  · have f5 : decide ((0 : Int) < (tE : Int)) = false := decide_eq_false (by omega)
                    have f6 : decide (0 < tE) = false := decide_eq_false (by omega)
                    clear hbe Hse Hss
                    go_wp2_with fail
                    refine (HLen.out _).mono ?_
                    rintro e Z ⟨rfl, rfl⟩
                    go_wp2_with fail
                    refine (HLen.out _).mono ?_
                    rintro e Z ⟨rfl, rfl⟩
                    go_wp2_with fail
                    refine (HSize.out _).mono ?_
                    rintro e Z ⟨rfl, rfl⟩
                    clear HLen HSize
                    go_wp2_with fail
                    go_roundw
                    case rel => obtain ⟨k', es', L', hh', mm', rfl, r⟩ := ROUND.out _; exact ⟨k + 1, es', L', hh', mm', by go_num, r⟩
                    case measure => simp [intOf] <;> omega
                  · have f5 : decide (a1 < (tE : Int)) = false := decide_eq_false (by omega)
                    clear hbe Hse Hss
                    go_wp2_with fail
                    refine (HLen.out _).mono ?_
                    rintro e Z ⟨rfl, rfl⟩
                    go_wp2_with fail
                    refine (HLen.out _).mono ?_
                    rintro e Z ⟨rfl, rfl⟩
                    go_wp2_with fail
                    refine (HSize.out _).mono ?_
                    rintro e Z ⟨rfl, rfl⟩
                    clear HLen HSize
                    go_wp2_with fail
                    go_roundw
                    case rel => obtain ⟨k', es', L', hh', mm', rfl, r⟩ := ROUND.out _; exact ⟨k + 1, es', L', hh', mm', by go_num, r⟩
                    case measure => simp [intOf] <;> omega
              · have hn0 : 1 ≤ n := by
                  rcases Nat.lt_trichotomy j n with h | h | h
                  · omega
                  · exact absurd (H1.out Hj.out) (by subst h; exact he)
                  · exact absurd (H1.out Hj.out) (hn5 j Hj.out h)
                have hq9 := hq.out
                obtain ⟨t, ht⟩ : ∃ t, t = (L[n]'hn1).1 := ⟨_, rfl⟩
                rw [← ht] at e1
                have hne : (t.toList == s.toList) = false := by
                  rw [beq_eq_false_iff_ne, ByteArray.toList_eq, ByteArray.toList_eq]
                  rw [ht]
                  exact he
                have REL : Hid (∃ (h : n - 1 < L.length), ∀ i (hi : i < L.length), n - 1 < i → kb (L[i]'hi).1 ≠ kb s) := ⟨by omega, fun i hi h => by
                  by_cases e : i = n
                  · subst e; exact he
                  · exact hn5 i hi (by omega)⟩
                have HQ : Hid (q - 2 = 2 * (n - 1)) := by show _ = _; omega
                have hq8 : 2 ≤ q := by omega
                have hqn : q < n2 := by omega
                clear he hn5 hn hq hn1 ht e2 hq9 hn0
                go_wp2_with fail
                go_quiet (fail)
                go_wp2_with fail
                go_roundw
                case rel => exact ⟨n - 1, q - 2, HQ, by congr 1; omega, by omega, REL, _, rfl⟩
                case measure => simp [intOf] <;> omega
      · obtain rfl : k = l.length := by omega
        have d1 : decide ((l.length : Int) < (l.length : Int)) = false := decide_eq_false (by omega)
        go_wp2_with fail
        refine (live34_any _).mono ?_
        rintro e Y ⟨rfl, hB⟩
        have HB2 := Lib.hid (HB.out.trans (hB.mono HB.out.size))
        clear hB
        go_wp2_with fail
        go_ret
        exact ⟨rfl, HB2.out⟩
end Go.Proofs.Ythbgijpakjfjkaa
