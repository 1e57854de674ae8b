/- Walks over layer 12: Get. -/
import Derived.Test.YtaafcmgkmdbefaaDirGetPost
namespace Go.Proofs.Ytaafcmgkmdbefaa
open Go.RowKit Var
set_option linter.unusedVariables false
set_option maxRecDepth 100000

theorem made_ents (n : Nat) : madeCells #[.int .u64 0, .int .u64 0, .int .u64 0, .int .u64 0] (n * 4) = (ents (List.replicate n ⟨0, 0, 0, 0⟩)).toArray := by
  have hz : ∀ j, j < 4 → (#[.int .u64 0, .int .u64 0, .int .u64 0, .int .u64 0] : Array Value)[j]! = .int .u64 0 := by
    intro j hj
    have : j = 0 ∨ j = 1 ∨ j = 2 ∨ j = 3 := by omega
    rcases this with rfl | rfl | rfl | rfl <;> rfl
  have h1 : ents (List.replicate n ⟨0, 0, 0, 0⟩) = List.replicate (n * 4) (.int .u64 0) := by
    induction n with
    | zero => rfl
    | succ n ih =>
      have e : ents (List.replicate (n + 1) ⟨0, 0, 0, 0⟩) = En.cs ⟨0, 0, 0, 0⟩ ++ ents (List.replicate n ⟨0, 0, 0, 0⟩) := by simp [ents, List.replicate_succ]
      rw [e, ih, show (n + 1) * 4 = 4 + n * 4 by omega, ← List.replicate_append_replicate]
      rfl
  rw [h1]
  apply Array.ext
  · simp [size_madeCells]
  · intro j hj1 hj2
    simp only [madeCells, Array.getElem_map, Array.getElem_range, List.getElem_toArray, List.getElem_replicate]
    exact hz _ (Nat.mod_lt _ (by decide))
theorem tch_below {w X Y : World} {gb : Nat} (h : Only (tch gb) X Y) (hg : w.heap.size ≤ gb) (hb : Below w.heap.size w X) : Below w.heap.size w Y :=
  hb.trans (h.below (fun k hk e => by rcases e with e | e <;> omega) hb.size)
theorem bx_store {X : World} {gb gl : Nat} {A : Option Addr} {L c : Nat} {s : Nat × Nat} (h : Bx X gb A L c s) (hg : gb + 1 + 1 < gl) (j : Nat) (v : Value) : Bx (X.setCell ⟨gl, j, none⟩ v) gb A L c s := by
  have o : Only (fun k => k = gl) X (X.setCell ⟨gl, j, none⟩ v) := Only.setCell (S := fun k => k = gl) (Only.refl _ _) (p := ⟨gl, j, none⟩) (fun _ => rfl) _
  exact ⟨h.b.only o (by omega), h.a.only o (by omega), h.e.only o (by omega)⟩
theorem bx_below {X Y : World} {gb : Nat} {A : Option Addr} {L c : Nat} {s : Nat × Nat} (h : Bx X gb A L c s) (hb : Below X.heap.size X Y) : Bx Y gb A L c s := ⟨h.b.below hb h.b.lt, h.a.below hb h.a.lt, h.e.below hb h.e.lt⟩
theorem arr_ok_set {arr : List En} {i : Nat} {e : En} (h : ∀ s ∈ arr, s.ok) (he : e.ok) : ∀ s ∈ arr.set i e, s.ok := fun s hs => by
  rcases List.mem_or_eq_of_mem_set hs with h1 | h1
  · exact h s h1
  · rw [h1]; exact he
theorem arr_step {l : List Nat} {p0 n q i : Nat} {arr : List En} {e : En} (hi : i < n) (ha : arr = arrE l p0 n q i) (he : fE l p0 n q (i + 1) i = e) : arr.set i e = arrE l p0 n q (i + 1) := by
  rw [ha]
  exact range_set hi (fun j hj => fE_other hj) he
theorem offF_lt (arr : List En) (i v : Nat) : offF arr i v < 18446744073709551616 := by
  unfold offF
  split
  · split
    · omega
    · exact Nat.mod_lt _ (by omega)
  · exact Nat.mod_lt _ (by omega)
theorem offF_at {l : List Nat} {p0 n i v : Nat} {arr : List En} (ha : arr = arrE l p0 n 3 i) (hv : v = vAt l p0 (3 * n + i)) (hv2 : v < 18446744073709551616) (h0 : i = 0 → v ≠ 0) (hi : i < n) : offF arr i v = offAt l p0 n i := by
  unfold offF
  cases i with
  | zero =>
    rw [if_neg (fun h => by omega)]
    have hv3 := h0 rfl
    show _ = vAt l p0 (3 * n) - 1
    rw [show vAt l p0 (3 * n) = v from hv.symm]
    omega
  | succ k =>
    have e : offAt l p0 n (k + 1) = if vAt l p0 (3 * n + (k + 1)) = 0 then (offAt l p0 n k + vAt l p0 (2 * n + k)) % 18446744073709551616 else vAt l p0 (3 * n + (k + 1)) - 1 := rfl
    rw [e, ← hv]
    by_cases hz : v = 0
    · rw [if_pos ⟨hz, by omega⟩, if_pos hz, Nat.add_sub_cancel]
      have hk : arr[k]? = some (fE l p0 n 3 (k + 1) k) := by
        subst ha
        simp [arrE, show k < n by omega]
      rw [hk]
      simp [fE]
    · rw [if_neg (fun h => hz h.1), if_neg hz]
      omega
theorem fE_0 (l : List Nat) (p0 n i : Nat) : fE l p0 n 0 (i + 1) i = ⟨idAt l p0 i, (fE l p0 n 0 i i).off, (fE l p0 n 0 i i).len, (fE l p0 n 0 i i).run⟩ := by simp [fE]
theorem fE_1 (l : List Nat) (p0 n i : Nat) : fE l p0 n 1 (i + 1) i = ⟨(fE l p0 n 1 i i).id, (fE l p0 n 1 i i).off, (fE l p0 n 1 i i).len, vAt l p0 (n + i)⟩ := by simp [fE]
theorem fE_2 (l : List Nat) (p0 n i : Nat) : fE l p0 n 2 (i + 1) i = ⟨(fE l p0 n 2 i i).id, (fE l p0 n 2 i i).off, vAt l p0 (2 * n + i), (fE l p0 n 2 i i).run⟩ := by simp [fE]
theorem fE_3 (l : List Nat) (p0 n i : Nat) : fE l p0 n 3 (i + 1) i = ⟨(fE l p0 n 3 i i).id, offAt l p0 n i, (fE l p0 n 3 i i).len, (fE l p0 n 3 i i).run⟩ := by simp [fE]
theorem arr_at {l : List Nat} {p0 n q i : Nat} {arr : List En} (ha : arr = arrE l p0 n q i) (j : Nat) (hj : j < arr.length) : arr[j] = fE l p0 n q i j := by
  subst ha
  simp [arrE]

set_option maxHeartbeats 16000000 in
theorem get_any (A : Option Addr) (c : Nat) (l : List Nat) (w : World) (hN : Nums .u8 w w.heap.size A l) (hb : ∀ x ∈ l, x < 256) (hl : l.length ≤ 100000) (R : List En × Nat) (hR : getE l = R) :
    Calls Try.prog 13 #[.slice A l.length c] w (GetPost w R) := by
  obtain ⟨i0, hi0, hz0, hz1, hz2⟩ := info_parts eninfo
  obtain ⟨L, hL⟩ : ∃ L, L = l.length := ⟨_, rfl⟩
  have HN := Lib.hid hN
  have Hb := Lib.hid hb
  have HR := Lib.hid hR
  have HL := Lib.hid hL
  have HLl : Hid (l.length ≤ 100000) := hl
  rw [← hL] at hl ⊢
  clear hN hb hR hL
  go_enter Try.func13, Try.ntmps13
  go_upto_region 3 with (fail)
  obtain ⟨gb, hgb⟩ : ∃ g, g = w.heap.size := ⟨_, rfl⟩
  obtain ⟨X0, hX0⟩ : ∃ X, X = ((w.alloc (.cells #[.slice A L c] 24)).alloc (.cells #[.int .i64 0] 3)).alloc (.cells #[.int .i64 0] 25) := ⟨_, rfl⟩
  have HXs : Hid (Bx X0 gb A L c (0, 0)) := by
    rw [hX0, hgb]
    refine ⟨((Whole.new w _ _).alloc _).alloc _, ?_, ?_⟩
    · have := (Whole.new (w.alloc (.cells #[.slice A L c] 24)) 3 #[.int .i64 0]).alloc (.cells #[.int .i64 0] 25)
      simpa using this
    · have := Whole.new ((w.alloc (.cells #[.slice A L c] 24)).alloc (.cells #[.int .i64 0] 3)) 25 #[.int .i64 0]
      simpa using this
  have HBs : Hid (Below w.heap.size w X0) := by rw [hX0]; exact (((Below.refl _ _).alloc (Nat.le_refl _) _).alloc (by simp) _).alloc (by simp; omega) _
  have Hgb : Hid (w.heap.size ≤ gb) := by show _ ≤ _; omega
  rw [← hX0, ← hgb]
  clear hX0 hgb
  have HX9 := Lib.hid (next_any gb A c l (0, 0) X0 (by rw [← HL.out]; exact HXs.out) (cells8 ((HN.out.below HBs.out).more HBs.out.size) Hb.out) (by have := HLl.out; have := HL.out; omega))
  rw [← HL.out] at HX9
  have hnx : nx l (0, 0) = ((vres l (0 : Nat)).1, ((vres l (0 : Nat)).2.2, (vres l (0 : Nat)).2.1)) := by unfold nx; rw [if_neg (by simp)]
  rw [hnx] at HX9
  have hn64 := vres_lt l (0 : Nat) Hb.out
  have hn0 := vres_zero l (0 : Nat)
  have hRe := HR.out
  unfold getE at hRe
  rw [show (0 : Int) = ((0 : Nat) : Int) from rfl] at hRe
  generalize vres l (0 : Nat) = r at *
  obtain ⟨n, p0, e0⟩ := r
  simp only at HX9 hn64 hn0 hRe
  clear hnx HR
  go_wp2_with fail
  refine HX9.out.mono ?_
  rintro e X1 ⟨rfl, hbx, honly⟩
  have HX1 := Lib.hid hbx
  have HB1 := Lib.hid (tch_below honly Hgb.out HBs.out)
  clear hbx honly HX9 HXs HBs
  by_cases hbig : 65536 < n
  · have d1 : decide ((65536 : Int) < (n : Int)) = true := decide_eq_true (by omega)
    have d2 : decide (65536 < n) = true := decide_eq_true hbig
    have he0 : e0 = 0 := by
      by_cases h : e0 = 0
      · exact h
      · have := hn0 h; omega
    rw [if_neg (by simp [he0]), if_pos hbig] at hRe
    subst hRe
    clear hbig hn0 hn64
    go_wp2_with fail
    go_ret2
    exact ⟨_, rfl, rde_nil _ _, HB1.out⟩
  · have d1 : decide ((65536 : Int) < (n : Int)) = false := decide_eq_false (by omega)
    have d2 : decide (65536 < n) = false := decide_eq_false hbig
    have w0 : IntKind.i64.wrap (n : Int) = (n : Int) := IntWalk.i64_in _ ⟨by omega, by omega⟩
    have Hn : Hid (n ≤ 65536) := by show _ ≤ _; omega
    obtain ⟨E, hE⟩ : ∃ E, (if e0 ≠ 0 then e0 else fstE l p0 n (4 * n) 0) = E := ⟨_, rfl⟩
    have HI0 : Hid (invE l p0 n E 0 (e0, p0)) := by
      show invE _ _ _ _ _ _
      by_cases h : e0 = 0
      · rw [← hE, if_neg (by simp [h]), h]; exact inv_start
      · rw [← hE, if_pos h]; exact .inr ⟨rfl, h⟩
    have HRe : Hid ((if E ≠ 0 then ([], E) else if pAt l p0 (4 * n) < l.length ∨ rightE (outE l p0 n) = false then ([], 3) else (outE l p0 n, 0)) = R) := by
      show _ = _
      rw [← hRe, ← hE]
      by_cases h : e0 = 0
      · simp only [h, ne_eq, not_true_eq_false, if_false, hbig]
      · simp only [ne_eq, h, not_false_eq_true, if_true]
    have hmk := run_make (P := Try.prog) X1 22 39 i0 _ Try.underlying22 hi0 hz0 .i64 .i64 (n : Int) (n : Int) (by omega) (Int.le_refl _) (by rw [hz2]; have := Hn.out; omega) (by have := Hn.out; omega)
    simp only [Int.toNat_natCast] at hmk
    rw [hz1] at hmk
    clear hRe hE hbig hn0 hn64 HLl
    have HLl : Hid (l.length ≤ 100000) := by show _ ≤ _; have := HL.out; omega
    rw [show (Value.agg #[.int .u64 0, .int .u64 0, .int .u64 0, .int .u64 0]).cells = #[.int .u64 0, .int .u64 0, .int .u64 0, .int .u64 0] from rfl, made_ents] at hmk
    go_upto_region 7 with (fail)
    obtain ⟨gl, hgl⟩ : ∃ g, g = X1.heap.size := ⟨_, rfl⟩
    obtain ⟨X2, hX2⟩ : ∃ X, X = X1.alloc (.cells (ents (List.replicate n ⟨0, 0, 0, 0⟩)).toArray 39) := ⟨_, rfl⟩
    have HX0 : Hid (Bx X2 gb A L c (e0, p0)) := by rw [hX2]; exact ⟨HX1.out.b.alloc _, HX1.out.a.alloc _, HX1.out.e.alloc _⟩
    have HW0 : Hid (Whole X2 gl 39 (ents (List.replicate n ⟨0, 0, 0, 0⟩)).toArray) := by rw [hX2, hgl]; exact Whole.new X1 _ _
    have HB0 : Hid (Below w.heap.size w X2) := by rw [hX2]; exact below_then HB1.out ((Below.refl _ _).alloc (Nat.le_refl _) _) HB1.out.size
    have Hgl : Hid (gb + 1 + 1 < gl) := by show _ < _; rw [hgl]; exact HX1.out.e.lt
    rw [← hX2, ← hgl]
    have HO0 : Hid (∀ e ∈ List.replicate n (⟨0, 0, 0, 0⟩ : En), e.ok) := fun e he => by rw [List.eq_of_mem_replicate he]; simp [En.ok]
    have HA0 : Hid ((e0, p0).1 = 0 → List.replicate n (⟨0, 0, 0, 0⟩ : En) = arrE l p0 n 0 0) := fun _ => (arr_start l p0 n).symm
    have HAl : Hid ((List.replicate n (⟨0, 0, 0, 0⟩ : En)).length = n) := by show _ = _; simp
    have Hglb : Hid (w.heap.size ≤ gl) := by show _ ≤ _; have := Hgl.out; have := Hgb.out; omega
    obtain ⟨S0, hS0⟩ : ∃ S, S = (e0, p0) := ⟨_, rfl⟩
    obtain ⟨A0, hA0⟩ : ∃ S, S = List.replicate n (⟨0, 0, 0, 0⟩ : En) := ⟨_, rfl⟩
    rw [← hS0] at HX0 HI0 HA0
    rw [← hA0] at HW0 HA0 HO0 HAl
    clear hX2 hgl hmk hS0 hA0 HX1 HB1 d1 d2 w0
    go_wp2_with fail
    go_loopw [25, 9] (fun x y W => ∃ (i : Nat) (s : Nat × Nat) (arr : List En) (d : Nat), i ≤ n ∧ x = .int .i64 (i : Int) ∧ y = .int .u64 (d : Int) ∧ d < 18446744073709551616 ∧ arr.length = n ∧ Hid (Bx W gb A L c s) ∧ Hid (Whole W gl 39 (ents arr).toArray) ∧ Hid (Below w.heap.size w W) ∧ Hid (invE l p0 n E i s) ∧ Hid (s.1 = 0 → arr = arrE l p0 n 0 i) ∧ Hid (∀ e ∈ arr, e.ok) ∧ Hid (s.1 = 0 → d = if i = 0 then 0 else idAt l p0 (i - 1))) (fun x _ _ => n - (intOf x).toNat)
    case atStart => exact ⟨0, S0, A0, 0, Nat.zero_le _, rfl, rfl, by omega, HAl.out, HX0, HW0, HB0, HI0, HA0, HO0, Lib.hid (fun _ => rfl)⟩
    case round =>
      obtain ⟨i, s, arr, d, hi, rfl, rfl, hd, hal, HX, HW, HB, HI, HAr, HO, HD⟩ := hrel
      by_cases hlt : i < n
      · have HX9 := Lib.hid (next_any gb A c l s wr (by rw [← HL.out]; exact HX.out) (cells8 ((HN.out.below HB.out).more HB.out.size) Hb.out) (by have := HLl.out; have := HL.out; omega))
        rw [← HL.out] at HX9
        have Hnx := Lib.hid (nx_inv HI.out (by omega))
        have Hvl := Lib.hid (nx_lt l s Hb.out)
        have Hne := Lib.hid fun h => nx_err (l := l) (s := s) h
        obtain ⟨⟨v, s2⟩, hnx⟩ : ∃ r, nx l s = r := ⟨_, rfl⟩
        rw [hnx] at HX9 Hnx Hvl Hne
        clear hnx
        go_wp2_with fail
        refine HX9.out.mono ?_
        rintro e Y ⟨rfl, hbx, honly⟩
        have HX2 := Lib.hid hbx
        have HW2 := Lib.hid (HW.out.only honly (fun e => by have := Hgl.out; rcases e with e | e <;> omega))
        have HB2 := Lib.hid (tch_below honly Hgb.out HB.out)
        clear hbx honly HX9
        have wd : IntKind.u64.wrap ((d : Int) + (v : Int)) = (((d + v) % 18446744073709551616 : Nat) : Int) := by rw [← Int.natCast_add]; exact u64_mod _
        obtain ⟨D, hD⟩ : ∃ D, (d + v) % 18446744073709551616 = D := ⟨_, rfl⟩
        have hDl : D < 18446744073709551616 := by rw [← hD]; exact Nat.mod_lt _ (by omega)
        rw [hD] at wd
        have hil : i < arr.length := by omega
        obtain ⟨b9, o9, e9, _, q0, q1, q2, q3⟩ := (show EAt Y Y.heap.size (some ⟨gl, 0, none⟩) arr from Vals.of_block HW2.out (ents_length arr)).at i hil
        injection e9 with e9
        injection e9 with e91 e92
        subst e91 e92
        simp only [Nat.zero_add] at q0 q1 q2 q3
        have hok := HO.out _ (List.getElem_mem hil)
        have hat := fun h => arr_at (l := l) (p0 := p0) (n := n) (q := 0) (i := i) (arr := arr) h i hil
        have hws := fun e v hj he => (show Whole (Y.setCell ⟨gl, i * 4, none⟩ v) gl 39 _ from whole_set HW2.out i 0 e v hil hj he)
        have hf := HW2.out.frozen (i * 4)
        generalize hae : arr[i]'hil = ent at *
        obtain ⟨id, off, len, run⟩ := ent
        simp only at q0 q1 q2 q3
        have hi0 : (0 : Int) ≤ (i : Int) := by omega
        have hn6 : n ≤ 65536 := Hn.out
        have hi1 : (i : Int) < (n : Int) := by omega
        have HW3 := Lib.hid (hws ⟨D, off, len, run⟩ (.int .u64 ((D : Nat) : Int)) (by omega) rfl)
        have HX3 := Lib.hid (bx_store HX2.out Hgl.out (i * 4) (.int .u64 ((D : Nat) : Int)))
        have HB3 := Lib.hid (HB2.out.setCell (p := ⟨gl, i * 4, none⟩) Hglb.out (.int .u64 ((D : Nat) : Int)))
        have HO3 := Lib.hid (arr_ok_set (i := i) HO.out (show En.ok ⟨D, off, len, run⟩ from ⟨hDl, hok.2.1, hok.2.2.1, hok.2.2.2⟩))
        have hid : s2.1 = 0 → D = idAt l p0 i := fun h0 => by
          have h2 : v = vAt l p0 i := Hnx.out.1 h0
          have h3 := HD.out (Hne.out h0)
          have h4 : v < 18446744073709551616 := Hvl.out
          rw [← hD, h3]
          cases i with
          | zero => rw [if_pos rfl, Nat.zero_add, h2]; exact Nat.mod_eq_of_lt (by rw [← h2]; exact h4)
          | succ k => rw [if_neg (by omega), h2, Nat.add_sub_cancel]; rfl
        have HA3 : Hid (s2.1 = 0 → arr.set i ⟨D, off, len, run⟩ = arrE l p0 n 0 (i + 1)) := fun h0 => arr_step hlt (HAr.out (Hne.out h0)) (by
          have h1 := hat (HAr.out (Hne.out h0))
          rw [fE_0, ← h1, hid h0])
        have HI3 : Hid (invE l p0 n E (i + 1) s2) := Hnx.out.2.1 (by omega)
        have HD3 : Hid (s2.1 = 0 → D = if i + 1 = 0 then 0 else idAt l p0 (i + 1 - 1)) := fun h0 => by rw [if_neg (by omega), Nat.add_sub_cancel]; exact hid h0
        clear hws hat hok Hnx Hne hae hid hD HD
        go_wp2_with fail
        go_roundw
        case rel => exact ⟨i + 1, s2, arr.set i ⟨D, off, len, run⟩, D, by omega, by go_num, rfl, hDl, by rw [List.length_set]; exact hal, HX3, HW3, HB3, HI3, HA3, HO3, HD3⟩
        case measure => simp [intOf]; omega
      · obtain rfl : i = n := by omega
        clear HX0 HW0 HB0 HI0 HA0 HO0 HAl
        have HX0 := HX
        have HW0 := HW
        have HB0 := HB
        have HI0 : Hid (invE l p0 i E (i + 0) s) := by
          have := HI.out
          show invE _ _ _ _ _ _
          rwa [show i + 0 = i from by omega]
        have HA0 : Hid (s.1 = 0 → arr = arrE l p0 i (0 + 1) 0) := fun h => by rw [HAr.out h]; exact arr_next l p0 i 0 (by omega)
        have HO0 := HO
        have HAl : Hid (arr.length = i) := hal
        obtain ⟨S0, hS0⟩ : ∃ S, S = s := ⟨_, rfl⟩
        obtain ⟨A0, hA0⟩ : ∃ S, S = arr := ⟨_, rfl⟩
        rw [← hS0] at HX0 HI0 HA0
        rw [← hA0] at HW0 HA0 HO0 HAl
        clear HX HW HB HI HAr HO hS0 hA0 hi hlt hal
        obtain ⟨n, hn⟩ : ∃ n, n = i := ⟨_, rfl⟩
        subst hn
        clear HD hd
        go_wp2_with fail
        go_loopw [40] (fun x W => ∃ (i : Nat) (s : Nat × Nat) (arr : List En), i ≤ n ∧ x = .int .i64 (i : Int) ∧ arr.length = n ∧ Hid (Bx W gb A L c s) ∧ Hid (Whole W gl 39 (ents arr).toArray) ∧ Hid (Below w.heap.size w W) ∧ Hid (invE l p0 n E (n + i) s) ∧ Hid (s.1 = 0 → arr = arrE l p0 n 1 i) ∧ Hid (∀ e ∈ arr, e.ok)) (fun x _ => n - (intOf x).toNat)
        case atStart => exact ⟨0, S0, A0, Nat.zero_le _, rfl, HAl.out, HX0, HW0, HB0, HI0, HA0, HO0⟩
        case round =>
          obtain ⟨i, s, arr, hi, rfl, hal, HX, HW, HB, HI, HAr, HO⟩ := hrel
          by_cases hlt : i < n
          · have HX9 := Lib.hid (next_any gb A c l s wr (by rw [← HL.out]; exact HX.out) (cells8 ((HN.out.below HB.out).more HB.out.size) Hb.out) (by have := HLl.out; have := HL.out; omega))
            rw [← HL.out] at HX9
            have Hnx := Lib.hid (nx_inv HI.out (by omega))
            have Hvl := Lib.hid (nx_lt l s Hb.out)
            have Hne := Lib.hid fun h => nx_err (l := l) (s := s) h
            obtain ⟨⟨v, s2⟩, hnx⟩ : ∃ r, nx l s = r := ⟨_, rfl⟩
            rw [hnx] at HX9 Hnx Hvl Hne
            clear hnx
            go_wp2_with fail
            refine HX9.out.mono ?_
            rintro e Y ⟨rfl, hbx, honly⟩
            have HX2 := Lib.hid hbx
            have HW2 := Lib.hid (HW.out.only honly (fun e => by have := Hgl.out; rcases e with e | e <;> omega))
            have HB2 := Lib.hid (tch_below honly Hgb.out HB.out)
            clear hbx honly HX9
            have hil : i < arr.length := by omega
            obtain ⟨b9, o9, e9, _, q0, q1, q2, q3⟩ := (show EAt Y Y.heap.size (some ⟨gl, 0, none⟩) arr from Vals.of_block HW2.out (ents_length arr)).at i hil
            injection e9 with e9
            injection e9 with e91 e92
            subst e91 e92
            simp only [Nat.zero_add] at q0 q1 q2 q3
            have hok := HO.out _ (List.getElem_mem hil)
            have hat := fun h => arr_at (l := l) (p0 := p0) (n := n) (q := 1) (i := i) (arr := arr) h i hil
            have hws := fun e v hj he => whole_set HW2.out i 3 e v hil hj he
            have hf := HW2.out.frozen (i * 4 + 3)
            generalize hae : arr[i]'hil = ent at *
            obtain ⟨id, off, len, run⟩ := ent
            simp only at q0 q1 q2 q3
            have hi0 : (0 : Int) ≤ (i : Int) := by omega
            have hn6 : n ≤ 65536 := Hn.out
            have hi1 : (i : Int) < (n : Int) := by omega
            have HW3 := Lib.hid (hws ⟨id, off, len, v⟩ (.int .u64 ((v : Nat) : Int)) (by omega) rfl)
            have HX3 := Lib.hid (bx_store HX2.out Hgl.out (i * 4 + 3) (.int .u64 ((v : Nat) : Int)))
            have HB3 := Lib.hid (HB2.out.setCell (p := ⟨gl, i * 4 + 3, none⟩) Hglb.out (.int .u64 ((v : Nat) : Int)))
            have HO3 := Lib.hid (arr_ok_set (i := i) HO.out (show En.ok ⟨id, off, len, v⟩ from ⟨hok.1, hok.2.1, hok.2.2.1, Hvl.out⟩))
            have HA3 : Hid (s2.1 = 0 → arr.set i ⟨id, off, len, v⟩ = arrE l p0 n 1 (i + 1)) := fun h0 => arr_step hlt (HAr.out (Hne.out h0)) (by
              have h1 := hat (HAr.out (Hne.out h0))
              have h2 : v = vAt l p0 (n + i) := Hnx.out.1 h0
              rw [fE_1, ← h1, h2])
            have HI3 : Hid (invE l p0 n E (n + (i + 1)) s2) := Hnx.out.2.1 (by omega)
            clear hws hat hok Hnx Hne hae
            go_wp2_with fail
            go_roundw
            case rel => exact ⟨i + 1, s2, arr.set i ⟨id, off, len, v⟩, by omega, by go_num, by rw [List.length_set]; exact hal, HX3, HW3, HB3, HI3, HA3, HO3⟩
            case measure => simp [intOf]; omega
          · obtain rfl : i = n := by omega
            clear HX0 HW0 HB0 HI0 HA0 HO0 HAl
            have HX0 := HX
            have HW0 := HW
            have HB0 := HB
            have HI0 : Hid (invE l p0 i E (2 * i + 0) s) := by
              have := HI.out
              show invE _ _ _ _ _ _
              rwa [show 2 * i + 0 = i + i from by omega]
            have HA0 : Hid (s.1 = 0 → arr = arrE l p0 i (1 + 1) 0) := fun h => by rw [HAr.out h]; exact arr_next l p0 i 1 (by omega)
            have HO0 := HO
            have HAl : Hid (arr.length = i) := hal
            obtain ⟨S0, hS0⟩ : ∃ S, S = s := ⟨_, rfl⟩
            obtain ⟨A0, hA0⟩ : ∃ S, S = arr := ⟨_, rfl⟩
            rw [← hS0] at HX0 HI0 HA0
            rw [← hA0] at HW0 HA0 HO0 HAl
            clear HX HW HB HI HAr HO hS0 hA0 hi hlt hal
            obtain ⟨n, hn⟩ : ∃ n, n = i := ⟨_, rfl⟩
            subst hn
            go_wp2_with fail
            go_loopw [52] (fun x W => ∃ (i : Nat) (s : Nat × Nat) (arr : List En), i ≤ n ∧ x = .int .i64 (i : Int) ∧ arr.length = n ∧ Hid (Bx W gb A L c s) ∧ Hid (Whole W gl 39 (ents arr).toArray) ∧ Hid (Below w.heap.size w W) ∧ Hid (invE l p0 n E (2 * n + i) s) ∧ Hid (s.1 = 0 → arr = arrE l p0 n 2 i) ∧ Hid (∀ e ∈ arr, e.ok)) (fun x _ => n - (intOf x).toNat)
            case atStart => exact ⟨0, S0, A0, Nat.zero_le _, rfl, HAl.out, HX0, HW0, HB0, HI0, HA0, HO0⟩
            case round =>
              obtain ⟨i, s, arr, hi, rfl, hal, HX, HW, HB, HI, HAr, HO⟩ := hrel
              by_cases hlt : i < n
              · have HX9 := Lib.hid (next_any gb A c l s wr (by rw [← HL.out]; exact HX.out) (cells8 ((HN.out.below HB.out).more HB.out.size) Hb.out) (by have := HLl.out; have := HL.out; omega))
                rw [← HL.out] at HX9
                have Hnx := Lib.hid (nx_inv HI.out (by omega))
                have Hvl := Lib.hid (nx_lt l s Hb.out)
                have Hne := Lib.hid fun h => nx_err (l := l) (s := s) h
                obtain ⟨⟨v, s2⟩, hnx⟩ : ∃ r, nx l s = r := ⟨_, rfl⟩
                rw [hnx] at HX9 Hnx Hvl Hne
                clear hnx
                go_wp2_with fail
                refine HX9.out.mono ?_
                rintro e Y ⟨rfl, hbx, honly⟩
                have HX2 := Lib.hid hbx
                have HW2 := Lib.hid (HW.out.only honly (fun e => by have := Hgl.out; rcases e with e | e <;> omega))
                have HB2 := Lib.hid (tch_below honly Hgb.out HB.out)
                clear hbx honly HX9
                have hil : i < arr.length := by omega
                obtain ⟨b9, o9, e9, _, q0, q1, q2, q3⟩ := (show EAt Y Y.heap.size (some ⟨gl, 0, none⟩) arr from Vals.of_block HW2.out (ents_length arr)).at i hil
                injection e9 with e9
                injection e9 with e91 e92
                subst e91 e92
                simp only [Nat.zero_add] at q0 q1 q2 q3
                have hok := HO.out _ (List.getElem_mem hil)
                have hat := fun h => arr_at (l := l) (p0 := p0) (n := n) (q := 2) (i := i) (arr := arr) h i hil
                have hws := fun e v hj he => whole_set HW2.out i 2 e v hil hj he
                have hf := HW2.out.frozen (i * 4 + 2)
                generalize hae : arr[i]'hil = ent at *
                obtain ⟨id, off, len, run⟩ := ent
                simp only at q0 q1 q2 q3
                have hi0 : (0 : Int) ≤ (i : Int) := by omega
                have hn6 : n ≤ 65536 := Hn.out
                have hi1 : (i : Int) < (n : Int) := by omega
                have HW3 := Lib.hid (hws ⟨id, off, v, run⟩ (.int .u64 ((v : Nat) : Int)) (by omega) rfl)
                have HX3 := Lib.hid (bx_store HX2.out Hgl.out (i * 4 + 2) (.int .u64 ((v : Nat) : Int)))
                have HB3 := Lib.hid (HB2.out.setCell (p := ⟨gl, i * 4 + 2, none⟩) Hglb.out (.int .u64 ((v : Nat) : Int)))
                have HO3 := Lib.hid (arr_ok_set (i := i) HO.out (show En.ok ⟨id, off, v, run⟩ from ⟨hok.1, hok.2.1, Hvl.out, hok.2.2.2⟩))
                have HA3 : Hid (s2.1 = 0 → arr.set i ⟨id, off, v, run⟩ = arrE l p0 n 2 (i + 1)) := fun h0 => arr_step hlt (HAr.out (Hne.out h0)) (by
                  have h1 := hat (HAr.out (Hne.out h0))
                  have h2 : v = vAt l p0 (2 * n + i) := Hnx.out.1 h0
                  rw [fE_2, ← h1, h2])
                have HI3 : Hid (invE l p0 n E (2 * n + (i + 1)) s2) := Hnx.out.2.1 (by omega)
                clear hws hat hok Hnx Hne hae
                go_wp2_with fail
                go_roundw
                case rel => exact ⟨i + 1, s2, arr.set i ⟨id, off, v, run⟩, by omega, by go_num, by rw [List.length_set]; exact hal, HX3, HW3, HB3, HI3, HA3, HO3⟩
                case measure => simp [intOf]; omega
              · obtain rfl : i = n := by omega
                clear HX0 HW0 HB0 HI0 HA0 HO0 HAl
                have HX0 := HX
                have HW0 := HW
                have HB0 := HB
                have HI0 : Hid (invE l p0 i E (3 * i + 0) s) := by
                  have := HI.out
                  show invE _ _ _ _ _ _
                  rwa [show 3 * i + 0 = 2 * i + i from by omega]
                have HA0 : Hid (s.1 = 0 → arr = arrE l p0 i (2 + 1) 0) := fun h => by rw [HAr.out h]; exact arr_next l p0 i 2 (by omega)
                have HO0 := HO
                have HAl : Hid (arr.length = i) := hal
                obtain ⟨S0, hS0⟩ : ∃ S, S = s := ⟨_, rfl⟩
                obtain ⟨A0, hA0⟩ : ∃ S, S = arr := ⟨_, rfl⟩
                rw [← hS0] at HX0 HI0 HA0
                rw [← hA0] at HW0 HA0 HO0 HAl
                clear HX HW HB HI HAr HO hS0 hA0 hi hlt hal
                obtain ⟨n, hn⟩ : ∃ n, n = i := ⟨_, rfl⟩
                subst hn
                go_wp2_with fail
                go_loopw [64] (fun x W => ∃ (i : Nat) (s : Nat × Nat) (arr : List En), i ≤ n ∧ x = .int .i64 (i : Int) ∧ arr.length = n ∧ Hid (Bx W gb A L c s) ∧ Hid (Whole W gl 39 (ents arr).toArray) ∧ Hid (Below w.heap.size w W) ∧ Hid (invE l p0 n E (3 * n + i) s) ∧ Hid (s.1 = 0 → arr = arrE l p0 n 3 i) ∧ Hid (∀ e ∈ arr, e.ok)) (fun x _ => n - (intOf x).toNat)
                case atStart => exact ⟨0, S0, A0, Nat.zero_le _, rfl, HAl.out, HX0, HW0, HB0, HI0, HA0, HO0⟩
                case round =>
                  obtain ⟨i, s, arr, hi, rfl, hal, HX, HW, HB, HI, HAr, HO⟩ := hrel
                  by_cases hlt : i < n
                  · have HX9 := Lib.hid (next_any gb A c l s wr (by rw [← HL.out]; exact HX.out) (cells8 ((HN.out.below HB.out).more HB.out.size) Hb.out) (by have := HLl.out; have := HL.out; omega))
                    rw [← HL.out] at HX9
                    have Hnx := Lib.hid (nx_inv HI.out (by omega))
                    have Hvl := Lib.hid (nx_lt l s Hb.out)
                    have Hne := Lib.hid fun h => nx_err (l := l) (s := s) h
                    obtain ⟨⟨v, s2⟩, hnx⟩ : ∃ r, nx l s = r := ⟨_, rfl⟩
                    rw [hnx] at HX9 Hnx Hvl Hne
                    clear hnx
                    go_wp2_with fail
                    refine HX9.out.mono ?_
                    rintro e Y ⟨rfl, hbx, honly⟩
                    have HX2 := Lib.hid hbx
                    have HW2 := Lib.hid (HW.out.only honly (fun e => by have := Hgl.out; rcases e with e | e <;> omega))
                    have HB2 := Lib.hid (tch_below honly Hgb.out HB.out)
                    clear hbx honly HX9
                    have c9 := HX2.out.e.cell 0
                    have f9 := HX2.out.e.frozen 0
                    simp only [List.getElem?_toArray, List.getElem?_cons_zero, List.getElem?_cons_succ] at c9
                    have hn6 : n ≤ 65536 := Hn.out
                    by_cases hs2 : s2.1 = 0
                    · have z1 : (((s2.1 : Nat) : Int) == 0) = true := by rw [hs2]; rfl
                      by_cases hi0' : i = 0
                      · have z2 : ((i : Int) == 0) = true := by rw [hi0']; rfl
                        by_cases hv0 : v = 0
                        · have z3 : ((v : Int) == 0) = true := by rw [hv0]; rfl
                          have Hi0 := Lib.hid hi0'
                          have Hv0 := Lib.hid hv0
                          clear hi0' hv0
                          obtain ⟨Z, hZ⟩ : ∃ Z, Z = Y.setCell ⟨gb + 1 + 1, 0, none⟩ (.int .i64 3) := ⟨_, rfl⟩
                          have HXz : Hid (Bx Z gb A L c (3, s2.2)) := by
                            rw [hZ]
                            have o : Only (fun k => k = gb + 1 + 1) Y (Y.setCell ⟨gb + 1 + 1, 0, none⟩ (.int .i64 3)) := Only.setCell (S := fun k => k = gb + 1 + 1) (Only.refl _ _) (p := ⟨gb + 1 + 1, 0, none⟩) (fun _ => rfl) _
                            exact ⟨HX2.out.b.only o (by omega), HX2.out.a.only o (by omega), by have := HX2.out.e.set 0 (.int .i64 3); simpa using this⟩
                          have HWz : Hid (Whole Z gl 39 (ents arr).toArray) := by
                            rw [hZ]
                            exact HW2.out.only (Only.setCell (S := fun k => k = gb + 1 + 1) (Only.refl _ _) (p := ⟨gb + 1 + 1, 0, none⟩) (fun _ => rfl) _) (by have := Hgl.out; omega)
                          have HBz : Hid (Below w.heap.size w Z) := by rw [hZ]; exact HB2.out.setCell (p := ⟨gb + 1 + 1, 0, none⟩) (by have := Hgb.out; show _ ≤ gb + 1 + 1; omega) _
                          go_upto_region 30 with (fail)
                          rw [← hZ]
                          clear hZ
                          have HI3 : Hid (invE l p0 n E (3 * n + (i + 1)) (3, s2.2)) := by
                            have := Hnx.out.2.2 (by have := Hi0.out; omega)
                            rw [if_pos ⟨hs2, Hv0.out⟩] at this
                            exact this
                          have Hof := Lib.hid (offset_any gl arr i v n Z HWz.out (by omega) (by have := Hn.out; omega) Hvl.out)
                          rw [hal] at Hof
                          obtain ⟨F, hF⟩ : ∃ F, offF arr i v = F := ⟨_, rfl⟩
                          rw [hF] at Hof
                          have hFl : F < 18446744073709551616 := by rw [← hF]; exact offF_lt arr i v
                          have HFO : Hid ((3, s2.2).1 = 0 → F = offAt l p0 n i) := fun h0 => absurd h0 (by show ¬ (3 : Nat) = 0; omega)
                          clear hF
                          clear c9 f9 z1 z2 z3
                          go_wp2_with fail
                          refine Hof.out.mono ?_
                          rintro e Z2 ⟨rfl, hz⟩
                          have HX4 := Lib.hid (bx_below HXz.out hz)
                          have HW4 := Lib.hid (HWz.out.below hz HWz.out.lt)
                          have HB4 := Lib.hid (below_then HBz.out hz HBz.out.size)
                          clear hz Hof
                          have hil : i < arr.length := by omega
                          obtain ⟨b9, o9, e9, _, q0, q1, q2, q3⟩ := (show EAt Z2 Z2.heap.size (some ⟨gl, 0, none⟩) arr from Vals.of_block HW4.out (ents_length arr)).at i hil
                          injection e9 with e9
                          injection e9 with e91 e92
                          subst e91 e92
                          simp only [Nat.zero_add] at q0 q1 q2 q3
                          have hok := HO.out _ (List.getElem_mem hil)
                          have hat := fun h => arr_at (l := l) (p0 := p0) (n := n) (q := 3) (i := i) (arr := arr) h i hil
                          have hws := fun e v hj he => whole_set HW4.out i 1 e v hil hj he
                          have hf := HW4.out.frozen (i * 4 + 1)
                          generalize hae : arr[i]'hil = ent at *
                          obtain ⟨id, off, len, run⟩ := ent
                          simp only at q0 q1 q2 q3
                          have hi0 : (0 : Int) ≤ (i : Int) := by omega
                          have hn6 : n ≤ 65536 := Hn.out
                          have hi1 : (i : Int) < (n : Int) := by omega
                          have HW3 := Lib.hid (hws ⟨id, F, len, run⟩ (.int .u64 ((F : Nat) : Int)) (by omega) rfl)
                          have HX3 := Lib.hid (bx_store HX4.out Hgl.out (i * 4 + 1) (.int .u64 ((F : Nat) : Int)))
                          have HB3 := Lib.hid (HB4.out.setCell (p := ⟨gl, i * 4 + 1, none⟩) Hglb.out (.int .u64 ((F : Nat) : Int)))
                          have HO3 := Lib.hid (arr_ok_set (i := i) HO.out (show En.ok ⟨id, F, len, run⟩ from ⟨hok.1, hFl, hok.2.2.1, hok.2.2.2⟩))
                          have HA3 : Hid ((3, s2.2).1 = 0 → arr.set i ⟨id, F, len, run⟩ = arrE l p0 n 3 (i + 1)) := fun h0 => absurd h0 (by show ¬ (3 : Nat) = 0; omega)
                          clear hws hat hok Hnx Hne hae HFO
                          go_wp2_with fail
                          go_roundw
                          case rel => exact ⟨i + 1, (3, s2.2), arr.set i ⟨id, F, len, run⟩, by omega, by go_num, by rw [List.length_set]; exact hal, HX3, HW3, HB3, HI3, HA3, HO3⟩
                          case measure => simp [intOf]; omega
                        · have z3 : ((v : Int) == 0) = false := beq_eq_false_iff_ne.mpr (by omega)
                          have Hi0 := Lib.hid hi0'
                          clear hi0'
                          go_upto_region 30 with (fail)
                          have HI3 : Hid (invE l p0 n E (3 * n + (i + 1)) s2) := by
                            have := Hnx.out.2.2 (by have := Hi0.out; omega)
                            rw [if_neg (fun h => hv0 h.2)] at this
                            exact this
                          have Hof := Lib.hid (offset_any gl arr i v n Y HW2.out (by omega) (by have := Hn.out; omega) Hvl.out)
                          rw [hal] at Hof
                          obtain ⟨F, hF⟩ : ∃ F, offF arr i v = F := ⟨_, rfl⟩
                          rw [hF] at Hof
                          have hFl : F < 18446744073709551616 := by rw [← hF]; exact offF_lt arr i v
                          have HFO : Hid (s2.1 = 0 → F = offAt l p0 n i) := fun h0 => by rw [← hF]; exact offF_at (HAr.out (Hne.out h0)) (Hnx.out.1 h0) Hvl.out (fun _ => hv0) hlt
                          clear hF
                          clear c9 f9 z1 z2 z3
                          go_wp2_with fail
                          refine Hof.out.mono ?_
                          rintro e Z2 ⟨rfl, hz⟩
                          have HX4 := Lib.hid (bx_below HX2.out hz)
                          have HW4 := Lib.hid (HW2.out.below hz HW2.out.lt)
                          have HB4 := Lib.hid (below_then HB2.out hz HB2.out.size)
                          clear hz Hof
                          have hil : i < arr.length := by omega
                          obtain ⟨b9, o9, e9, _, q0, q1, q2, q3⟩ := (show EAt Z2 Z2.heap.size (some ⟨gl, 0, none⟩) arr from Vals.of_block HW4.out (ents_length arr)).at i hil
                          injection e9 with e9
                          injection e9 with e91 e92
                          subst e91 e92
                          simp only [Nat.zero_add] at q0 q1 q2 q3
                          have hok := HO.out _ (List.getElem_mem hil)
                          have hat := fun h => arr_at (l := l) (p0 := p0) (n := n) (q := 3) (i := i) (arr := arr) h i hil
                          have hws := fun e v hj he => whole_set HW4.out i 1 e v hil hj he
                          have hf := HW4.out.frozen (i * 4 + 1)
                          generalize hae : arr[i]'hil = ent at *
                          obtain ⟨id, off, len, run⟩ := ent
                          simp only at q0 q1 q2 q3
                          have hi0 : (0 : Int) ≤ (i : Int) := by omega
                          have hn6 : n ≤ 65536 := Hn.out
                          have hi1 : (i : Int) < (n : Int) := by omega
                          have HW3 := Lib.hid (hws ⟨id, F, len, run⟩ (.int .u64 ((F : Nat) : Int)) (by omega) rfl)
                          have HX3 := Lib.hid (bx_store HX4.out Hgl.out (i * 4 + 1) (.int .u64 ((F : Nat) : Int)))
                          have HB3 := Lib.hid (HB4.out.setCell (p := ⟨gl, i * 4 + 1, none⟩) Hglb.out (.int .u64 ((F : Nat) : Int)))
                          have HO3 := Lib.hid (arr_ok_set (i := i) HO.out (show En.ok ⟨id, F, len, run⟩ from ⟨hok.1, hFl, hok.2.2.1, hok.2.2.2⟩))
                          have HA3 : Hid (s2.1 = 0 → arr.set i ⟨id, F, len, run⟩ = arrE l p0 n 3 (i + 1)) := fun h0 => arr_step hlt (HAr.out (Hne.out h0)) (by
                            have h1 := hat (HAr.out (Hne.out h0))
                            rw [fE_3, ← h1, HFO.out h0])
                          clear hws hat hok Hnx Hne hae HFO
                          go_wp2_with fail
                          go_roundw
                          case rel => exact ⟨i + 1, s2, arr.set i ⟨id, F, len, run⟩, by omega, by go_num, by rw [List.length_set]; exact hal, HX3, HW3, HB3, HI3, HA3, HO3⟩
                          case measure => simp [intOf]; omega
                      · have z2 : ((i : Int) == 0) = false := beq_eq_false_iff_ne.mpr (by omega)
                        go_upto_region 30 with (fail)
                        have HI3 : Hid (invE l p0 n E (3 * n + (i + 1)) s2) := Hnx.out.2.1 (by omega)
                        have Hof := Lib.hid (offset_any gl arr i v n Y HW2.out (by omega) (by have := Hn.out; omega) Hvl.out)
                        rw [hal] at Hof
                        obtain ⟨F, hF⟩ : ∃ F, offF arr i v = F := ⟨_, rfl⟩
                        rw [hF] at Hof
                        have hFl : F < 18446744073709551616 := by rw [← hF]; exact offF_lt arr i v
                        have HFO : Hid (s2.1 = 0 → F = offAt l p0 n i) := fun h0 => by rw [← hF]; exact offF_at (HAr.out (Hne.out h0)) (Hnx.out.1 h0) Hvl.out (fun h => absurd h hi0') hlt
                        clear hF
                        clear c9 f9 z1 z2
                        go_wp2_with fail
                        refine Hof.out.mono ?_
                        rintro e Z2 ⟨rfl, hz⟩
                        have HX4 := Lib.hid (bx_below HX2.out hz)
                        have HW4 := Lib.hid (HW2.out.below hz HW2.out.lt)
                        have HB4 := Lib.hid (below_then HB2.out hz HB2.out.size)
                        clear hz Hof
                        have hil : i < arr.length := by omega
                        obtain ⟨b9, o9, e9, _, q0, q1, q2, q3⟩ := (show EAt Z2 Z2.heap.size (some ⟨gl, 0, none⟩) arr from Vals.of_block HW4.out (ents_length arr)).at i hil
                        injection e9 with e9
                        injection e9 with e91 e92
                        subst e91 e92
                        simp only [Nat.zero_add] at q0 q1 q2 q3
                        have hok := HO.out _ (List.getElem_mem hil)
                        have hat := fun h => arr_at (l := l) (p0 := p0) (n := n) (q := 3) (i := i) (arr := arr) h i hil
                        have hws := fun e v hj he => whole_set HW4.out i 1 e v hil hj he
                        have hf := HW4.out.frozen (i * 4 + 1)
                        generalize hae : arr[i]'hil = ent at *
                        obtain ⟨id, off, len, run⟩ := ent
                        simp only at q0 q1 q2 q3
                        have hi0 : (0 : Int) ≤ (i : Int) := by omega
                        have hn6 : n ≤ 65536 := Hn.out
                        have hi1 : (i : Int) < (n : Int) := by omega
                        have HW3 := Lib.hid (hws ⟨id, F, len, run⟩ (.int .u64 ((F : Nat) : Int)) (by omega) rfl)
                        have HX3 := Lib.hid (bx_store HX4.out Hgl.out (i * 4 + 1) (.int .u64 ((F : Nat) : Int)))
                        have HB3 := Lib.hid (HB4.out.setCell (p := ⟨gl, i * 4 + 1, none⟩) Hglb.out (.int .u64 ((F : Nat) : Int)))
                        have HO3 := Lib.hid (arr_ok_set (i := i) HO.out (show En.ok ⟨id, F, len, run⟩ from ⟨hok.1, hFl, hok.2.2.1, hok.2.2.2⟩))
                        have HA3 : Hid (s2.1 = 0 → arr.set i ⟨id, F, len, run⟩ = arrE l p0 n 3 (i + 1)) := fun h0 => arr_step hlt (HAr.out (Hne.out h0)) (by
                          have h1 := hat (HAr.out (Hne.out h0))
                          rw [fE_3, ← h1, HFO.out h0])
                        clear hws hat hok Hnx Hne hae HFO
                        go_wp2_with fail
                        go_roundw
                        case rel => exact ⟨i + 1, s2, arr.set i ⟨id, F, len, run⟩, by omega, by go_num, by rw [List.length_set]; exact hal, HX3, HW3, HB3, HI3, HA3, HO3⟩
                        case measure => simp [intOf]; omega
                    · have z1 : (((s2.1 : Nat) : Int) == 0) = false := beq_eq_false_iff_ne.mpr (by omega)
                      go_upto_region 30 with (fail)
                      have HI3 : Hid (invE l p0 n E (3 * n + (i + 1)) s2) := by
                        by_cases hz : i = 0
                        · have := Hnx.out.2.2 (by omega)
                          rw [if_neg (fun h => hs2 h.1)] at this
                          exact this
                        · exact Hnx.out.2.1 (by omega)
                      have Hof := Lib.hid (offset_any gl arr i v n Y HW2.out (by omega) (by have := Hn.out; omega) Hvl.out)
                      rw [hal] at Hof
                      obtain ⟨F, hF⟩ : ∃ F, offF arr i v = F := ⟨_, rfl⟩
                      rw [hF] at Hof
                      have hFl : F < 18446744073709551616 := by rw [← hF]; exact offF_lt arr i v
                      have HFO : Hid (s2.1 = 0 → F = offAt l p0 n i) := fun h0 => absurd h0 hs2
                      clear hF
                      clear c9 f9 z1
                      go_wp2_with fail
                      refine Hof.out.mono ?_
                      rintro e Z2 ⟨rfl, hz⟩
                      have HX4 := Lib.hid (bx_below HX2.out hz)
                      have HW4 := Lib.hid (HW2.out.below hz HW2.out.lt)
                      have HB4 := Lib.hid (below_then HB2.out hz HB2.out.size)
                      clear hz Hof
                      have hil : i < arr.length := by omega
                      obtain ⟨b9, o9, e9, _, q0, q1, q2, q3⟩ := (show EAt Z2 Z2.heap.size (some ⟨gl, 0, none⟩) arr from Vals.of_block HW4.out (ents_length arr)).at i hil
                      injection e9 with e9
                      injection e9 with e91 e92
                      subst e91 e92
                      simp only [Nat.zero_add] at q0 q1 q2 q3
                      have hok := HO.out _ (List.getElem_mem hil)
                      have hat := fun h => arr_at (l := l) (p0 := p0) (n := n) (q := 3) (i := i) (arr := arr) h i hil
                      have hws := fun e v hj he => whole_set HW4.out i 1 e v hil hj he
                      have hf := HW4.out.frozen (i * 4 + 1)
                      generalize hae : arr[i]'hil = ent at *
                      obtain ⟨id, off, len, run⟩ := ent
                      simp only at q0 q1 q2 q3
                      have hi0 : (0 : Int) ≤ (i : Int) := by omega
                      have hn6 : n ≤ 65536 := Hn.out
                      have hi1 : (i : Int) < (n : Int) := by omega
                      have HW3 := Lib.hid (hws ⟨id, F, len, run⟩ (.int .u64 ((F : Nat) : Int)) (by omega) rfl)
                      have HX3 := Lib.hid (bx_store HX4.out Hgl.out (i * 4 + 1) (.int .u64 ((F : Nat) : Int)))
                      have HB3 := Lib.hid (HB4.out.setCell (p := ⟨gl, i * 4 + 1, none⟩) Hglb.out (.int .u64 ((F : Nat) : Int)))
                      have HO3 := Lib.hid (arr_ok_set (i := i) HO.out (show En.ok ⟨id, F, len, run⟩ from ⟨hok.1, hFl, hok.2.2.1, hok.2.2.2⟩))
                      have HA3 : Hid (s2.1 = 0 → arr.set i ⟨id, F, len, run⟩ = arrE l p0 n 3 (i + 1)) := fun h0 => arr_step hlt (HAr.out (Hne.out h0)) (by
                        have h1 := hat (HAr.out (Hne.out h0))
                        rw [fE_3, ← h1, HFO.out h0])
                      clear hws hat hok Hnx Hne hae HFO
                      go_wp2_with fail
                      go_roundw
                      case rel => exact ⟨i + 1, s2, arr.set i ⟨id, F, len, run⟩, by omega, by go_num, by rw [List.length_set]; exact hal, HX3, HW3, HB3, HI3, HA3, HO3⟩
                      case measure => simp [intOf]; omega
                  · obtain rfl : i = n := by omega
                    have hI4 : invE l p0 i E (4 * i) s := by
                      have := HI.out
                      rwa [show 3 * i + i = 4 * i from by omega] at this
                    obtain ⟨hsE, hsp⟩ := inv_end hI4
                    have c9 := HX.out.e.cell 0
                    have c8 := HX.out.a.cell 0
                    have c7 := HX.out.b.cell 0
                    simp only [List.getElem?_toArray, List.getElem?_cons_zero, List.getElem?_cons_succ] at c7 c8 c9
                    rw [hsE] at c9
                    by_cases hE0 : E = 0
                    · have hs0 : s.1 = 0 := by omega
                      have hsp2 := hsp hE0
                      have harr : arr = outE l p0 i := by rw [HAr.out hs0]; exact arr_done l p0 i
                      have hRe := HRe.out
                      rw [if_neg (by simp [hE0])] at hRe
                      rw [hsp2] at c8
                      have z1 : ((E : Int) != 0) = false := by rw [hE0]; rfl
                      obtain ⟨P, hP⟩ : ∃ P, pAt l p0 (4 * i) = P := ⟨_, rfl⟩
                      rw [hP] at hRe c8
                      by_cases hPl : P < l.length
                      · have z2 : decide ((P : Int) < (L : Int)) = true := decide_eq_true (by have := HL.out; omega)
                        have z3 : decide (P < L) = true := decide_eq_true (by have := HL.out; omega)
                        rw [if_pos (.inl hPl)] at hRe
                        subst hRe
                        have HBf := HB
                        clear hI4 hsE hsp hE0 hs0 hsp2 harr hP hPl
                        go_wp2_with fail
                        go_ret2
                        exact ⟨_, rfl, rde_nil _ _, HBf.out⟩
                      · have z2 : decide ((P : Int) < (L : Int)) = false := decide_eq_false (by have := HL.out; omega)
                        have z3 : decide (P < L) = false := decide_eq_false (by have := HL.out; omega)
                        have HRD : Hid (RdE wr wr.heap.size (.slice (some ⟨gl, 0, none⟩) arr.length i) arr) := ⟨_, i, rfl, by omega, by have := Hn.out; unfold maxLen; omega, Vals.of_block HW.out (ents_length arr), HO.out⟩
                        obtain ⟨t, ht⟩ : ∃ t, rightE arr = t := ⟨_, rfl⟩
                        have Hq := Lib.hid (right_any _ arr wr HRD.out (by have := Hn.out; omega) t ht)
                        rw [hal] at Hq
                        have HBf := HB
                        rw [← harr, ht] at hRe
                        cases t
                        · rw [if_pos (.inr rfl)] at hRe
                          subst hRe
                          clear hI4 hsE hsp hE0 hs0 hsp2 harr hP hPl ht
                          go_wp2_with fail
                          refine Hq.out.mono ?_
                          rintro e Y ⟨rfl, hY⟩
                          have HY := Lib.hid (below_then HBf.out hY HBf.out.size)
                          clear hY Hq c7 c8 c9
                          go_wp2_with fail
                          go_ret2
                          exact ⟨_, rfl, rde_nil _ _, HY.out⟩
                        · rw [if_neg (by simp [hPl])] at hRe
                          subst hRe
                          clear hI4 hsE hsp hE0 hs0 hsp2 hP hPl ht
                          go_wp2_with fail
                          refine Hq.out.mono ?_
                          rintro e Y ⟨rfl, hY⟩
                          have HY := Lib.hid (below_then HBf.out hY HBf.out.size)
                          have HRY := Lib.hid ((HRD.out.below hY).more hY.size)
                          clear hY Hq c7 c8 c9
                          go_wp2_with fail
                          go_ret2
                          exact ⟨_, rfl, by have := HRY.out; rwa [hal] at this, HY.out⟩
                    · have z1 : ((E : Int) != 0) = true := by simp [bne]; omega
                      have hRe := HRe.out
                      rw [if_pos hE0] at hRe
                      subst hRe
                      have HBf := HB
                      clear hI4 hsE hsp hE0
                      go_wp2_with fail
                      go_quiet (fail)
                      go_wp2_with fail
                      go_ret2
                      exact ⟨_, rfl, rde_nil _ _, below_drawnE HBf.out _⟩
end Go.Proofs.Ytaafcmgkmdbefaa
