/- Walks over layer 12: Get's reader, its entries, offset. -/
import Derived.Test.YtaafcmgkmdbefaaDirGetMath
namespace Go.Proofs.Ytaafcmgkmdbefaa
open Go.RowKit Var
set_option linter.unusedVariables false
set_option maxRecDepth 100000

/-- The reader's boxes: its bytes, its place, its error. -/
structure Bx (X : World) (gb : Nat) (A : Option Addr) (L c : Nat) (s : Nat × Nat) : Prop where
  b : Whole X gb 24 #[.slice A L c]
  a : Whole X (gb + 1) 3 #[.int .i64 (s.2 : Int)]
  e : Whole X (gb + 1 + 1) 25 #[.int .i64 (s.1 : Int)]
def tch (gb k : Nat) : Prop := k = gb + 1 ∨ k = gb + 1 + 1
theorem nx_lt (l : List Nat) (s : Nat × Nat) (h : ∀ x ∈ l, x < 256) : (nx l s).1 < 18446744073709551616 := by
  unfold nx
  split
  · show 0 < _; omega
  · exact vres_lt l _ h
theorem nx_err {l : List Nat} {s : Nat × Nat} (h : (nx l s).2.1 = 0) : s.1 = 0 := by
  unfold nx at h
  split at h
  · next h2 => exact absurd h h2
  · next h2 => omega
set_option maxHeartbeats 4000000 in
theorem next_any (gb : Nat) (A : Option Addr) (c : Nat) (l : List Nat) (s : Nat × Nat) (X : World) (h : Bx X gb A l.length c s) (hc : Cells8 X A l) (hl : l.length ≤ 1000000) :
    Calls Try.prog 20 #[.pointer (some ⟨gb + 1 + 1, 0, none⟩), .pointer (some ⟨gb, 0, none⟩), .pointer (some ⟨gb + 1, 0, none⟩)] X fun e w' => e = .returned (.int .u64 ((nx l s).1 : Int)) ∧ Bx w' gb A l.length c (nx l s).2 ∧ Only (tch gb) X w' := by
  obtain ⟨er, p⟩ := s
  have HE := Lib.hid h.e
  have HA := Lib.hid h.a
  have HB := Lib.hid h.b
  have e0 := h.e.cell 0
  have a0 := h.a.cell 0
  have b0 := h.b.cell 0
  have fe := h.e.frozen 0
  have fa := h.a.frozen 0
  simp only [List.getElem?_toArray, List.getElem?_cons_zero, List.getElem?_cons_succ] at e0 a0 b0
  by_cases he : er = 0
  · subst he
    have hn : nx l (0, p) = ((vres l (p : Nat)).1, ((vres l (p : Nat)).2.2, (vres l (p : Nat)).2.1)) := by unfold nx; rw [if_neg (by simp)]
    have hv := Lib.hid (varint_any A l c (p : Nat) X hc (by omega))
    rw [hn]
    generalize vres l (p : Nat) = r at *
    obtain ⟨v, N, E⟩ := r
    simp only at hv ⊢
    obtain ⟨L, hL⟩ : ∃ L, l.length = L := ⟨_, rfl⟩
    rw [hL] at hv b0 HB ⊢
    have HF : Hid (Bx ((X.setCell ⟨gb + 1, 0, none⟩ (.int .i64 (N : Int))).setCell ⟨gb + 1 + 1, 0, none⟩ (.int .i64 (E : Int))) gb A L c (E, N)) := by
      have o1 : Only (fun k => k = gb + 1) X (X.setCell ⟨gb + 1, 0, none⟩ (.int .i64 (N : Int))) := Only.setCell (S := fun k => k = gb + 1) (Only.refl _ _) (fun _ => rfl) _
      have o2 : Only (fun k => k = gb + 1 + 1) (X.setCell ⟨gb + 1, 0, none⟩ (.int .i64 (N : Int))) ((X.setCell ⟨gb + 1, 0, none⟩ (.int .i64 (N : Int))).setCell ⟨gb + 1 + 1, 0, none⟩ (.int .i64 (E : Int))) := Only.setCell (S := fun k => k = gb + 1 + 1) (Only.refl _ _) (fun _ => rfl) _
      refine ⟨(HB.out.only o1 (by omega)).only o2 (by omega), ?_, ?_⟩
      · have := (HA.out.set 0 (.int .i64 (N : Int))).only o2 (by omega)
        simpa using this
      · have := (HE.out.only o1 (by omega)).set 0 (.int .i64 (E : Int))
        simpa using this
    have HO : Hid (Only (tch gb) X ((X.setCell ⟨gb + 1, 0, none⟩ (.int .i64 (N : Int))).setCell ⟨gb + 1 + 1, 0, none⟩ (.int .i64 (E : Int)))) :=
      Only.setCell (Only.setCell (Only.refl _ _) (p := ⟨gb + 1, 0, none⟩) (fun _ => .inl rfl) _) (p := ⟨gb + 1 + 1, 0, none⟩) (fun _ => .inr rfl) _
    clear h hc hl hn hL HE HA HB
    go_enter Try.func20, Try.ntmps20
    go_wp2_with fail
    refine hv.out.mono ?_
    rintro e Y ⟨rfl, rfl⟩
    go_wp2_with fail
    go_ret
    exact ⟨rfl, HF.out, HO.out⟩
  · have hn : nx l (er, p) = (0, (er, p)) := by unfold nx; rw [if_pos he]
    rw [hn]
    have n1 : ((er : Int) != 0) = true := by simp [bne]; omega
    have n2 : ((er : Int) == 0) = false := beq_eq_false_iff_ne.mpr (by omega)
    have H := Lib.hid h
    clear h hc hl hn he HE HA HB
    go_enter Try.func20, Try.ntmps20
    go_wp2_with fail
    go_ret
    exact ⟨rfl, H.out, Only.refl _ _⟩

theorem u64_mod (a : Nat) : IntKind.u64.wrap (a : Int) = ((a % 18446744073709551616 : Nat) : Int) := by
  simp [IntKind.wrap, IntKind.bits, IntKind.signed]
theorem u64_less {v : Nat} (h : v < 18446744073709551616) : IntKind.u64.wrap ((v : Int) - 1) = (((v + 18446744073709551615) % 18446744073709551616 : Nat) : Int) := by
  simp [IntKind.wrap, IntKind.bits, IntKind.signed]
  omega
/-- The entry's offset that a number stands for. -/
def offF (arr : List En) (i v : Nat) : Nat := if v = 0 ∧ 0 < i then (match arr[i - 1]? with
  | none => 0
  | some q => (q.off + q.len) % 18446744073709551616) else (v + 18446744073709551615) % 18446744073709551616
set_option maxHeartbeats 4000000 in
theorem offset_any (gl : Nat) (arr : List En) (i v c : Nat) (X : World) (h : Whole X gl 39 (ents arr).toArray) (hi : i < arr.length) (hl : arr.length ≤ 1000000) (hv : v < 18446744073709551616) :
    Calls Try.prog 22 #[.slice (some ⟨gl, 0, none⟩) arr.length c, .int .i64 (i : Int), .int .u64 (v : Int)] X fun e w' => e = .returned (.int .u64 ((offF arr i v : Nat) : Int)) ∧ Below X.heap.size X w' := by
  have w1 := u64_less hv
  unfold offF
  by_cases h0 : v = 0
  · subst h0
    by_cases h1 : 0 < i
    · rw [if_pos ⟨rfl, h1⟩]
      obtain ⟨j, rfl⟩ : ∃ j, i = j + 1 := ⟨i - 1, by omega⟩
      have hj : j < arr.length := by omega
      rw [Nat.add_sub_cancel, List.getElem?_eq_getElem hj]
      have hA : EAt X X.heap.size (some ⟨gl, 0, none⟩) arr := Vals.of_block h (ents_length arr)
      obtain ⟨b, o, e, _, q0, q1, q2, q3⟩ := hA.at j hj
      injection e with e
      injection e with e1 e2
      subst e1 e2
      simp only [Nat.zero_add] at q0 q1 q2 q3
      generalize arr[j]'hj = q at *
      obtain ⟨id, off, len, run⟩ := q
      simp only at q0 q1 q2 q3
      have n1 : decide ((0 : Int) < ((j + 1 : Nat) : Int)) = true := decide_eq_true (by omega)
      have n2 : IntKind.i64.wrap (((j + 1 : Nat) : Int) - 1) = (j : Int) := by rw [IntWalk.i64_in _ ⟨by omega, by omega⟩]; omega
      have n3 : IntKind.u64.wrap ((off : Int) + (len : Int)) = (((off + len) % 18446744073709551616 : Nat) : Int) := by rw [← Int.natCast_add]; exact u64_mod _
      obtain ⟨J, hJ⟩ : ∃ J : Nat, j + 1 = J := ⟨_, rfl⟩
      obtain ⟨S, hS⟩ : ∃ S : Nat, (off + len) % 18446744073709551616 = S := ⟨_, rfl⟩
      obtain ⟨L, hL⟩ : ∃ L : Nat, arr.length = L := ⟨_, rfl⟩
      rw [hJ] at n1 n2 ⊢
      rw [hS] at n3
      rw [hL] at hj ⊢
      have n4 : (0 : Int) ≤ (j : Int) := by omega
      have n5 : (j : Int) < (L : Int) := by omega
      have n6 : decide (0 < J) = true := decide_eq_true (by omega)
      have HS := Lib.hid hS
      clear hA h h1 hi hj hJ hS hL w1
      go_enter Try.func22, Try.ntmps22
      go_wp2_with fail
      go_quiet (fail)
      go_wp2_with fail
      go_ret
      exact ⟨by rw [HS.out]; rfl, below_drawnE (Below.refl _ _) _⟩
    · rw [if_neg (fun h => h1 h.2)]
      obtain rfl : i = 0 := by omega
      clear h hi
      go_enter Try.func22, Try.ntmps22
      go_wp2_with fail
      go_ret
      exact ⟨rfl, Below.refl _ _⟩
  · rw [if_neg (fun h => h0 h.1)]
    have n1 : ((v : Int) == 0) = false := beq_eq_false_iff_ne.mpr (by omega)
    obtain ⟨S, hS⟩ : ∃ S : Nat, (v + 18446744073709551615) % 18446744073709551616 = S := ⟨_, rfl⟩
    rw [hS] at w1 ⊢
    clear h hi h0 hS
    go_enter Try.func22, Try.ntmps22
    go_wp2_with fail
    go_ret
    exact ⟨rfl, Below.refl _ _⟩

theorem ents_set : ∀ (arr : List En) (i j : Nat) (e : En) (v : Value) (hi : i < arr.length) (hj : j < 4), e.cs = (arr[i].cs).set j v → (ents arr).set (i * 4 + j) v = ents (arr.set i e)
  | [], i, _, _, _, h, _, _ => by simp at h
  | a :: arr, 0, j, e, v, _, hj, he => by
    have h1 : ents (a :: arr) = a.cs ++ ents arr := by simp [ents]
    have h2 : ents ((a :: arr).set 0 e) = e.cs ++ ents arr := by simp [ents]
    rw [h1, h2, he, Nat.zero_mul, Nat.zero_add, List.set_append_left _ _ (by simpa [En.cs] using hj)]
    rfl
  | a :: arr, i + 1, j, e, v, hi, hj, he => by
    have h1 : ents (a :: arr) = a.cs ++ ents arr := by simp [ents]
    have h2 : ents ((a :: arr).set (i + 1) e) = a.cs ++ ents (arr.set i e) := by simp [ents]
    rw [h1, h2, List.set_append_right _ _ (by simp [En.cs]; omega), show (i + 1) * 4 + j - a.cs.length = i * 4 + j by simp [En.cs]; omega]
    rw [ents_set arr i j e v (by simpa using hi) hj (by simpa using he)]
theorem whole_set {X : World} {gl : Nat} {arr : List En} (h : Whole X gl 39 (ents arr).toArray) (i j : Nat) (e : En) (v : Value) (hi : i < arr.length) (hj : j < 4) (he : e.cs = (arr[i].cs).set j v) :
    Whole (X.setCell ⟨gl, i * 4 + j, none⟩ v) gl 39 (ents (arr.set i e)).toArray := by
  have := h.set (i * 4 + j) v
  rw [List.setIfInBounds_toArray, ents_set arr i j e v hi hj he] at this
  exact this
theorem range_set {f g : Nat → En} {n i : Nat} {e : En} (hi : i < n) (h : ∀ j, j ≠ i → f j = g j) (he : g i = e) : ((List.range n).map f).set i e = (List.range n).map g := by
  apply List.ext_getElem
  · simp
  · intro j h1 h2
    simp only [List.getElem_set, List.getElem_map, List.getElem_range]
    split
    · next hij => subst hij; exact he.symm
    · next hij => exact h j (fun e => hij e.symm)
/-- The entries of the q-th pass, its first i done. -/
def fE (l : List Nat) (p0 n q i j : Nat) : En := ⟨if 0 < q ∨ j < i then idAt l p0 j else 0, if 3 < q ∨ q = 3 ∧ j < i then offAt l p0 n j else 0, if 2 < q ∨ q = 2 ∧ j < i then vAt l p0 (2 * n + j) else 0, if 1 < q ∨ q = 1 ∧ j < i then vAt l p0 (n + j) else 0⟩
def arrE (l : List Nat) (p0 n q i : Nat) : List En := (List.range n).map (fE l p0 n q i)
theorem arr_next (l : List Nat) (p0 n q : Nat) (hq : q < 3) : arrE l p0 n q n = arrE l p0 n (q + 1) 0 := by
  unfold arrE
  apply List.map_congr_left
  intro j hj
  have hj' : j < n := List.mem_range.1 hj
  unfold fE
  have hq' : q = 0 ∨ q = 1 ∨ q = 2 := by omega
  rcases hq' with rfl | rfl | rfl <;> simp [hj']
theorem arr_done (l : List Nat) (p0 n : Nat) : arrE l p0 n 3 n = outE l p0 n := by
  unfold arrE outE
  apply List.map_congr_left
  intro j hj
  have hj' : j < n := List.mem_range.1 hj
  simp [fE, enAt, hj']
theorem arr_start (l : List Nat) (p0 n : Nat) : arrE l p0 n 0 0 = List.replicate n ⟨0, 0, 0, 0⟩ := by
  unfold arrE
  rw [List.eq_replicate_iff]
  refine ⟨by simp, fun b hb => ?_⟩
  obtain ⟨j, _, rfl⟩ := List.mem_map.1 hb
  simp [fE]
theorem fE_other {l : List Nat} {p0 n q i j : Nat} (h : j ≠ i) : fE l p0 n q i j = fE l p0 n q (i + 1) j := by
  have e : (j < i) ↔ (j < i + 1) := by omega
  unfold fE
  simp only [e]
end Go.Proofs.Ytaafcmgkmdbefaa
