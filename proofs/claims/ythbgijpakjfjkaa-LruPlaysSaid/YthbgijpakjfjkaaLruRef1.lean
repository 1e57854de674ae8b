/- Layer 34: the reference: New, Size, without. -/
import Derived.Test.YthbgijpakjfjkaaLruB
import Derived.Test.YthbgijpakjfjkaaLru10
namespace Go.Proofs.Ythbgijpakjfjkaa
open Go.RowKit
set_option linter.unusedVariables false
set_option maxRecDepth 100000

/-- An entry of the reference's. -/
structure REn where
  key : ByteArray
  v : Value
  bs : List Nat
def rcells (rl : List REn) : List Value := rl.flatMap fun r => [Value.string r.key, r.v]
theorem rcells_length (rl : List REn) : (rcells rl).length = rl.length * 2 := by
  induction rl with
  | nil => rfl
  | cons p L ih => unfold rcells at ih ⊢; rw [List.flatMap_cons, List.length_append, ih]; simp; omega
theorem rcells_at : ∀ (L : List REn) (j : Nat) (hj : j < L.length), (rcells L)[j * 2]? = some (.string (L[j]'hj).key) ∧ (rcells L)[j * 2 + 1]? = some (L[j]'hj).v
  | p :: L, 0, _ => ⟨rfl, rfl⟩
  | p :: L, j + 1, hj => by
    have := rcells_at L j (by simpa using hj)
    have e : rcells (p :: L) = Value.string p.key :: p.v :: rcells L := rfl
    rw [e, show (j + 1) * 2 = j * 2 + 1 + 1 by omega]
    simpa using this
/-- The bytes of each stand below B. -/
def RBy (w : World) (B : Nat) (rl : List REn) : Prop := ∀ r ∈ rl, ∃ ad cc, r.v = .slice ad r.bs.length cc ∧ Nums .u8 w B ad r.bs ∧ (ad = none → cc = 0 ∧ r.bs = []) ∧ ∀ x ∈ r.bs, x < 256
theorem RBy.below {w w' : World} {B : Nat} {rl : List REn} (h : RBy w B rl) (hb : Below B w w') : RBy w' B rl := fun r hr => by
  obtain ⟨ad, cc, h1, h2, h3, h4⟩ := h r hr
  exact ⟨ad, cc, h1, h2.below hb, h3, h4⟩
def rtot (rl : List REn) : Nat := (rl.map fun r => r.key.size + r.bs.length).sum
theorem rtot_take (l : List REn) (k : Nat) (h : k < l.length) : rtot (l.take (k + 1)) = rtot (l.take k) + ((l[k]).key.size + (l[k]).bs.length) := by
  have e := List.take_succ_eq_append_getElem h
  unfold rtot
  rw [e, List.map_append, List.sum_append]
  simp
theorem rtot_le (l : List REn) (k : Nat) : rtot (l.take k) ≤ rtot l := by
  have e : l.take k ++ l.drop k = l := List.take_append_drop k l
  have : rtot l = rtot (l.take k) + rtot (l.drop k) := by
    conv => lhs; rw [← e]
    unfold rtot
    rw [List.map_append, List.sum_append]
  omega
theorem Vals.r_at {w : World} {B n : Nat} {a : Option Addr} {L : List REn} (h : Vals w B 2 a n (rcells L)) (hL : 0 < L.length) : ∃ b off, a = some ⟨b, off, none⟩ ∧ b < B ∧ ∀ j (hj : j < L.length), w.cell? ⟨b, off + j * 2, none⟩ = some (.string (L[j]'hj).key) ∧ w.cell? ⟨b, off + j * 2 + 1, none⟩ = some (L[j]'hj).v := by
  obtain ⟨b, off, e, hb, hc⟩ := h.2 (by rw [rcells_length]; omega)
  refine ⟨b, off, e, hb, fun j hj => ⟨?_, ?_⟩⟩
  · rw [hc (j * 2) (by rw [rcells_length]; omega)]
    exact (rcells_at L j hj).1
  · rw [Nat.add_assoc, hc (j * 2 + 1) (by rw [rcells_length]; omega)]
    exact (rcells_at L j hj).2
theorem newR_any (ent sz : Int) (en sn : Nat) (w : World) (he : ent ≤ 0 ∧ en = 0 ∨ ent = en ∧ 0 < en) (hs : sz ≤ 0 ∧ sn = 0 ∨ sz = sn ∧ 0 < sn) :
    Calls Try.prog 9 #[.int .i64 ent, .int .i64 sz] w fun e w' => e = .returned (.agg #[.slice none 0 0, .int .i64 (en : Int), .int .i64 (sn : Int), .int .i64 0, .int .i64 0]) ∧ Below w.heap.size w w' := by
  have key : ∀ x : Int, ∀ n : Nat, (x ≤ 0 ∧ n = 0 ∨ x = n ∧ 0 < n) → (x < 0 ∧ n = 0) ∨ (¬ x < 0 ∧ x = n) := fun x n h => by omega
  rcases key _ _ he with ⟨h1, h2⟩ | ⟨h1, rfl⟩ <;> rcases key _ _ hs with ⟨h3, h4⟩ | ⟨h3, rfl⟩
  all_goals
    clear he hs key
    try subst h2
    try subst h4
    go_enter Try.func9, Try.ntmps9
    go_wp2_with fail
    exact bodyPost_ret (by simp [results, Try.results9, go_sem]) rfl ⟨rfl, by exact (((Below.refl _ _).alloc (Nat.le_refl _) _))⟩
set_option maxHeartbeats 8000000 in
theorem sizeR_any (a : Option Addr) (c : Nat) (p q r s : Value) (rl : List REn) (B B2 : Nat) (w : World) (hV : Vals w B 2 a rl.length (rcells rl)) (hB : B ≤ w.heap.size) (hR : RBy w B2 rl) (ht : rtot rl ≤ 1000000000) (hl : rl.length ≤ 1000000000) :
    Calls Try.prog 20 #[.agg #[.slice a rl.length c, p, q, r, s]] w fun e w' => e = .returned (.int .i64 (rtot rl : Int)) ∧ Below w.heap.size w w' := by
  have HV := Lib.hid (hV.below ((Below.refl B w).alloc hB (.cells #[.slice a rl.length c, p, q, r, s] 29)))
  have HR := Lib.hid hR
  have Ht := Lib.hid ht
  have HBB := Lib.hid hB
  clear hV hR ht hB
  go_enter Try.func20, Try.ntmps20
  go_upto_region 1 with (fail)
  obtain ⟨b, hb⟩ : ∃ b, b = w.heap.size := ⟨_, rfl⟩
  obtain ⟨X, hX⟩ : ∃ X, X = w.alloc (.cells #[.slice a rl.length c, p, q, r, s] 29) := ⟨_, rfl⟩
  have hW : Whole X b 29 #[.slice a rl.length c, p, q, r, s] := by rw [hX, hb]; exact Whole.new w _ _
  have HB := Lib.hid (show Below w.heap.size w X from by rw [hX]; exact (Below.refl _ _).alloc (Nat.le_refl _) _)
  have x0 : X.cell? ⟨b, 0, none⟩ = some (.slice a rl.length c) := by rw [hW.cell]; rfl
  rw [← hX] at HV
  rw [← hX, ← hb]
  clear hX hb hW
  go_wp2_with fail
  go_loopw [3, 4] (fun n i W => ∃ k u : Nat, n = .int .i64 (u : Int) ∧ i = .int .i64 (k : Int) ∧ k ≤ rl.length ∧ Hid (u = rtot (rl.take k)) ∧ u ≤ 1000000000 ∧ ∃ j, W = X.drewN j) (fun _ i _ => rl.length - (intOf i).toNat)
  case atStart => exact ⟨0, 0, rfl, rfl, Nat.zero_le _, rfl, by omega, 0, rfl⟩
  case round =>
    obtain ⟨k, u, rfl, rfl, hk, hu, hu2, j, rfl⟩ := hrel
    by_cases hlt : k < rl.length
    · obtain ⟨b2, off, rfl, _, hcell⟩ := HV.out.r_at (by omega)
      obtain ⟨e1, e2⟩ := hcell k hlt
      obtain ⟨ad, cc, h1, _, _, _⟩ := HR.out _ (List.getElem_mem hlt)
      have hbk := rtot_take rl k hlt
      have hbl := rtot_le rl (k + 1)
      have htt := Ht.out
      rw [h1] at e2
      obtain ⟨s1, hs⟩ : ∃ z, z = (rl[k]).key := ⟨_, rfl⟩
      obtain ⟨m, hm⟩ : ∃ z, z = (rl[k]).bs.length := ⟨_, rfl⟩
      rw [← hs] at e1 hbk
      rw [← hm] at e2 hbk
      have hsm : u + (s1.size + m) ≤ 1000000000 := by rw [hu.out]; omega
      have HU : Hid (u + (s1.size + m) = rtot (rl.take (k + 1))) := by rw [hbk, ← hu.out]; rfl
      have Hlt := Lib.hid hlt
      have d1 : decide ((k : Int) < (rl.length : Int)) = true := decide_eq_true (by omega)
      clear hs hm hbk hu hbl htt h1 hcell
      go_wp2_with fail
      go_quiet (fail)
      go_wp2_with fail
      go_roundw
      case rel => exact ⟨k + 1, u + (s1.size + m), by congr 1; omega, by go_num, Hlt.out, HU, by omega, _, rfl⟩
      case measure => simp [intOf] <;> omega
    · obtain rfl : k = rl.length := by omega
      rw [List.take_length] at hu
      have d1 : decide ((rl.length : Int) < (rl.length : Int)) = false := decide_eq_false (by omega)
      have hB2 := HB.out
      go_wp2_with fail
      go_ret
      exact ⟨by rw [← hu.out]; rfl, ⟨hB2.os, hB2.tape, hB2.output, hB2.size, hB2.block⟩⟩
/-- Those without a key. -/
def rwo (rl : List REn) (s : ByteArray) : List REn := rl.filter fun r => decide (kb r.key ≠ kb s)
theorem rwo_yes (rl : List REn) (s : ByteArray) (k : Nat) (h : k < rl.length) (he : kb (rl[k]).key = kb s) : rwo (rl.take (k + 1)) s = rwo (rl.take k) s := by
  have e := List.take_succ_eq_append_getElem h
  unfold rwo
  rw [e, List.filter_append]
  simp [he]
theorem rwo_not (rl : List REn) (s : ByteArray) (k : Nat) (h : k < rl.length) (he : kb (rl[k]).key ≠ kb s) : rwo (rl.take (k + 1)) s = rwo (rl.take k) s ++ [rl[k]] := by
  have e := List.take_succ_eq_append_getElem h
  unfold rwo
  rw [e, List.filter_append]
  congr 1
  simp [he]
theorem rcells_append (l m : List REn) : rcells (l ++ m) = rcells l ++ rcells m := by simp [rcells]
theorem reninfo : (Try.prog.info? 43).map (fun i => (i.zero, i.size, i.bytes)) = some (some (.agg #[.string ByteArray.empty, .slice none 0 0]), 2, 40) := by kernel_rfl
def WoPost (w : World) (rl : List REn) (e : Ending) (w' : World) : Prop := ∃ v, e = .returned v ∧ w'.ownsRow w.heap.size 43 2 v rl.length (rcells rl) ∧ Below w.heap.size w w'
set_option maxHeartbeats 8000000 in
theorem without_any (a : Option Addr) (c B : Nat) (s : ByteArray) (rl : List REn) (w : World) (hV : Vals w B 2 a rl.length (rcells rl)) (hB : B ≤ w.heap.size) (hone : ∀ r ∈ rl, r.v.oneCell' = true) (hl : rl.length ≤ 1000000) :
    Calls Try.prog 25 #[.slice a rl.length c, .string s] w (WoPost w (rwo rl s)) := by
  obtain ⟨i0, hi0, hz0, hz1, hz2⟩ := info_parts reninfo
  have HV := Lib.hid (hV.more hB)
  have HOne := Lib.hid hone
  clear hV hB hone
  go_enter Try.func25, Try.ntmps25
  go_wp2_with fail
  go_loopw [5, 6] (fun v i W => ∃ k : Nat, i = .int .i64 (k : Int) ∧ k ≤ rl.length ∧ W.ownsRow w.heap.size 43 2 v (rwo (rl.take k) s).length (rcells (rwo (rl.take k) s)) ∧ Below w.heap.size w W) (fun _ i _ => rl.length - (intOf i).toNat)
  case atStart => exact ⟨0, rfl, Nat.zero_le _, ⟨rfl, .inl ⟨rfl, rfl⟩⟩, Below.refl _ _⟩
  case round =>
    obtain ⟨k, rfl, hk, hown, hB⟩ := hrel
    by_cases hlt : k < rl.length
    · obtain ⟨b2, off, rfl, hb2, hcell⟩ := HV.out.r_at (by omega)
      obtain ⟨e1, e2⟩ := hcell k hlt
      have x1 : wr.cell? ⟨b2, off + k * 2, none⟩ = some (.string (rl[k]).key) := (hB.cell hb2).trans e1
      have x2 : wr.cell? ⟨b2, off + k * 2 + 1, none⟩ = some (rl[k]).v := (hB.cell hb2).trans e2
      have hov := HOne.out _ (List.getElem_mem hlt)
      have hlen : (rwo (rl.take k) s).length ≤ k := Nat.le_trans (List.length_filter_le _ _) (by simp; omega)
      obtain ⟨t, ht⟩ : ∃ z, z = (rl[k]).key := ⟨_, rfl⟩
      obtain ⟨v9, hv9⟩ : ∃ z, z = (rl[k]).v := ⟨_, rfl⟩
      rw [← ht] at x1
      rw [← hv9] at x2 hov
      have d1 : decide ((k : Int) < (rl.length : Int)) = true := decide_eq_true (by omega)
      have Hlt := Lib.hid hlt
      by_cases he : kb (rl[k]).key = kb s
      · have hts : t = s := by rw [ht]; exact key_eq he
        subst hts
        have hst := rwo_yes rl t k hlt he
        rw [← hst] at hown
        have HOw := Lib.hid hown
        have HBl := Lib.hid hB
        clear hown hB hst he ht hv9 e1 e2 hcell hov hlen
        go_wp2_with fail
        go_roundw
        case rel => exact ⟨k + 1, by go_num, Hlt.out, HOw.out, HBl.out⟩
        case measure => simp [intOf] <;> omega
      · have hne : (t.toList == s.toList) = false := by
          rw [beq_eq_false_iff_ne, ByteArray.toList_eq, ByteArray.toList_eq]
          rw [ht]
          exact he
        have hst := rwo_not rl s k hlt he
        have hr : rcells [rl[k]] = [.string t, v9] := by rw [ht, hv9]; rfl
        have HST : Hid ((rwo (rl.take (k + 1)) s).length = (rwo (rl.take k) s).length + 1 ∧ rcells (rwo (rl.take (k + 1)) s) = rcells (rwo (rl.take k) s) ++ [.string t, v9]) := by
          rw [hst, rcells_append]; exact ⟨by simp, congrArg (rcells (rwo (rl.take k) s) ++ ·) hr⟩
        obtain ⟨R, hR⟩ : ∃ z, z = rwo (rl.take k) s := ⟨_, rfl⟩
        rw [← hR] at HST hown hlen
        have hB9 := hB.size
        have HOa : Hid ((wr.alloc (.cells #[.string t, v9] 43)).ownsRow w.heap.size 43 2 u5 R.length (rcells R)) := hown.alloc _
        have HBa : Hid (Below w.heap.size w (wr.alloc (.cells #[.string t, v9] 43))) := hB.alloc hB9 _
        have HVa : Hid (Vals (wr.alloc (.cells #[.string t, v9] 43)) (wr.heap.size + 1) 2 (some ⟨wr.heap.size, 0, none⟩) 1 [.string t, v9]) := by
          have := Vals.of_block (w := wr.alloc (.cells #[.string t, v9] 43)) (xs := [.string t, v9]) (n := 1) (size := 2) (heap_alloc_new wr _) rfl
          show Vals _ _ _ _ _ _
          simpa using this
        have Hone : Hid (∀ u ∈ [Value.string t, v9], u.oneCell' = true) := by
          intro u hu; simp at hu; rcases hu with rfl | rfl
          · rfl
          · exact hov
        have Hl1 : Hid (R.length + 1 ≤ maxLen) := by unfold Hid maxLen; omega
        have Hl2 : Hid ((R.length + 1) * 40 ≤ 140737488355328) := by unfold Hid; omega
        have HBs : Hid (w.heap.size ≤ (wr.alloc (.cells #[.string t, v9] 43)).heap.size) := HBa.out.size
        clear hown hB hst he ht hv9 e1 e2 hcell hr hR hlen hov
        go_wp2_with (at_builtin; refine app_vals rfl (.tmp 20) (.tmp 25) 27 rfl w.heap.size 43 i0 _ 2 40 Try.underlying27 hi0 hz0 hz1 hz2 rfl (by omega) u5 R.length (rcells R) rfl HOa.out (wr.heap.size + 1) _ 1 1 [.string t, v9] rfl HVa.out Hone.out Hl1.out Hl2.out HBs.out ?_)
        intro v2 X h2 h3 _
        have hBX := Lib.hid (below_of_grown HBa.out HOa.out h3 HBs.out)
        rw [← HST.out.1, ← HST.out.2] at h2
        have H2 := Lib.hid h2
        clear h2 h3
        go_wp2_with fail
        go_roundw
        case rel => exact ⟨k + 1, by go_num, Hlt.out, H2.out, hBX.out⟩
        case measure => simp [intOf] <;> omega
    · obtain rfl : k = rl.length := by omega
      rw [List.take_length] at hown
      have d1 : decide ((rl.length : Int) < (rl.length : Int)) = false := decide_eq_false (by omega)
      go_wp2_with fail
      go_ret
      exact ⟨_, rfl, hown, hB⟩
end Go.Proofs.Ythbgijpakjfjkaa
