/- Par4 -/
import Derived.Test.YtngnhkghpnamoaaPar3
namespace Go.Proofs.Ytngnhkghpnamoaa
open Go.RowKit Go.Shelf Huff Bit
set_option linter.unusedVariables false
set_option maxRecDepth 100000
attribute [local go_sem] Oper.semAt_some

theorem fix_err5 : errOf (fixL.map fun n : Nat => (n : Int)) false = 0 := by decide +kernel
theorem nats_ints (l : List Nat) : nats (l.map fun n : Nat => (n : Int)) = l := by
  unfold nats
  rw [List.map_map]
  conv => rhs; rw [← List.map_id l]
  exact List.map_congr_left fun x _ => rfl
theorem new_fixed (q : Nat) (X : World) (hF : Whole X q 3 (i64s fixL).toArray) :
    Calls Try.prog 40 #[.slice (some ⟨q, 0, none⟩) 288 288, .bool false] X fun e w' => ∃ gc, e = .returned (.tuple #[.pointer (some ⟨gc, 0, none⟩), .int .i64 0]) ∧ WordsAt w' gc fixL ∧ Below X.heap.size X w' := by
  have := new_yes (some ⟨q, 0, none⟩) 288 (fixL.map fun n : Nat => (n : Int)) false X (by
    have h1 : Nums .i64 X X.heap.size (some ⟨q, 0, none⟩) fixL := Nums.of_block (show X.heap[q]? = some (.cells (fixL.map fun n : Nat => Value.int .i64 (n : Int)).toArray 3 (0, 0)) from hF)
    exact Ints.of_nums h1) (by simp [fixL]) fix_err5
  rw [show (fixL.map fun n : Nat => (n : Int)).length = 288 by simp [fixL]] at this
  refine this.mono ?_
  rintro e w' ⟨gc, rfl, hC, hB⟩
  rw [nats_ints] at hC
  exact ⟨gc, rfl, .of hC, hB⟩
theorem Wr.empty {w w' : World} {g : Nat} (h : Wr w g (.slice none 0 0) 0 0) (hb : Below w.heap.size w w') : Wr w' g (.slice none 0 0) 0 0 :=
  ⟨h.1.below hb h.1.lt, ⟨rfl, .inl ⟨rfl, rfl⟩⟩, by decide, by simp [Value.ownBlock]⟩
theorem Wr.kept {W W' : World} {g N n : Nat} {v : Value} (hw : Wr W g v N n) (hk : ∀ (k : Nat) (cs : Array Value) (e : TypeId) (fz : Nat × Nat), W.heap[k]? = some (.cells cs e fz) → W'.heap[k]? = W.heap[k]?) : Wr W' g v N n := by
  refine ⟨(hk _ _ _ _ hw.1).trans hw.1, ⟨hw.2.1.1, ?_⟩, hw.2.2⟩
  rcases hw.2.1.2 with q | ⟨g', cap, cur, e1, hb, hg, rest⟩
  · exact .inl q
  · exact .inr ⟨g', cap, cur, e1, hb, (hk _ _ _ _ hg).trans hg, rest⟩
theorem PutI.kept {n₀ g gc q0 q6 : Nat} {a : Nat × Nat} {W W' : World} (h : PutI n₀ g gc q0 q6 a W) (hk : ∀ (k : Nat) (cs : Array Value) (e : TypeId) (fz : Nat × Nat), W.heap[k]? = some (.cells cs e fz) → W'.heap[k]? = W.heap[k]?) : PutI n₀ g gc q0 q6 a W' := by
  obtain ⟨⟨v, hw, hv⟩, hc, h0, h6⟩ := h
  refine ⟨⟨v, ⟨(hk _ _ _ _ hw.1).trans hw.1, ⟨hw.2.1.1, ?_⟩, hw.2.2⟩, hv⟩, hc.kept fun k _ e cs hw _ => hk k cs e _ hw, (hk _ _ _ _ h0).trans h0, (hk _ _ _ _ h6).trans h6⟩
  rcases hw.2.1.2 with q | ⟨g', cap, cur, e1, hb, hg, rest⟩
  · exact .inl q
  · exact .inr ⟨g', cap, cur, e1, hb, (hk _ _ _ _ hg).trans hg, rest⟩
theorem PutI.below {n₀ g gc q0 q6 : Nat} {a : Nat × Nat} {W W' : World} (h : PutI n₀ g gc q0 q6 a W) (hb : Below W.heap.size W W') : PutI n₀ g gc q0 q6 a W' :=
  h.kept fun k cs e fz hk => hb.block k (Array.getElem?_eq_some_iff.1 hk).1
/-- All of the bits that are put of bytes. -/
def accE (l : List Mt) : Nat × Nat := l.foldl (fun a x => emit a x.1) (3, 3)
theorem accE_snoc (l : List Mt) (x : Mt) : accE (l ++ [x]) = emit (accE l) x.1 := by simp [accE]
theorem emit_n (a : Nat × Nat) (x : Mt) : (emit a x.1).2 ≤ a.2 + 32 := by
  obtain ⟨x, hx⟩ := x
  unfold emit
  split
  · next h =>
    have := addW1_n a (i := x.2) (by rcases hx with ⟨_, h2⟩ | ⟨h2, _⟩ <;> omega)
    show (addW1 a x.2).2 ≤ _
    omega
  · next h =>
    have hx2 : x.1 ≤ 258 ∧ x.2 ≤ 256 := by rcases hx with ⟨h2, _⟩ | ⟨_, h2, _, h3⟩ <;> omega
    obtain ⟨s1, s2, s3⟩ := symE_in hx2.1
    obtain ⟨f1, f2, f3⟩ := farE_in (n := x.2) (by omega)
    have := addW1_n a s1
    show (addW1 a (symE x.1).1).2 + (symE x.1).2.2 + 5 + (farE x.2).2.2 ≤ _
    omega
theorem accE_n (l : List Mt) : (accE l).2 ≤ 3 + 32 * l.length := by
  have : ∀ (l : List Mt) (a : Nat × Nat), (l.foldl (fun a x => emit a x.1) a).2 ≤ a.2 + 32 * l.length := by
    intro l
    induction l with
    | nil => intro a; exact Nat.le_add_right _ _
    | cons x l ih => intro a; have h1 := ih (emit a x.1); have h2 := emit_n a x; simp only [List.foldl_cons, List.length_cons]; omega
  exact this l (3, 3)
def fixedE {l : List Nat} (hb : Bytes255 l) : Nat × Nat := addW1 (accE (parseE hb)) 256
def padE (n : Nat) : Nat := (8 - n % 8) % 8

theorem cells_kept {B : Nat} {A C : World} {row : Option Nat} (hg : A.grownBy C row) (hr : ∀ r, row = some r → B ≤ r ∧ ∃ o : Obj, A.heap[r]? = some o ∧ o.isCells = false) :
    ∀ (k : Nat) (cs : Array Value) (e : TypeId) (fz : Nat × Nat), A.heap[k]? = some (.cells cs e fz) → C.heap[k]? = A.heap[k]? := by
  intro k cs e fz hk
  refine hg.block k (Array.getElem?_eq_some_iff.1 hk).1 (fun q => ?_)
  obtain ⟨_, o, ho, hn⟩ := hr k q.symm
  rw [hk] at ho
  injection ho with ho
  subst ho
  cases hn
def putIv (w : World) (n₀ g gc q0 q6 Bs : Nat) (u : Value) (pre : List Mt) (W : World) : Prop := PutI n₀ g gc q0 q6 (accE pre) W ∧ Boxed W Bs 22 u ∧ Below n₀ w W
def putAx (g q0 q6 gc g2 Bs : Nat) (u : Value) (x : Mt) (a' : Act) (W : World) : Prop := ∃ Bm, Whole W Bm 84 (mcs x.1) ∧ a' = { tmps := #[.pointer (some ⟨g, 0, none⟩), u, .pointer (some ⟨q0, 0, none⟩), undef, .slice (some ⟨q0 + 1, 0, none⟩) 288 288, .slice (some ⟨g2, 0, none⟩) 30 30, .pointer (some ⟨q6, 0, none⟩), .int .i64 0, .pointer (some ⟨Bm, 0, none⟩), undef, undef, undef,
  .tuple #[.slice (some ⟨q0 + 1, 0, none⟩) 288 288, .slice (some ⟨g2, 0, none⟩) 30 30], .tuple #[.slice (some ⟨q0 + 1, 0, none⟩) 288 288, .slice (some ⟨g2, 0, none⟩) 30 30], .slice (some ⟨q0 + 1, 0, none⟩) 288 288, .slice (some ⟨g2, 0, none⟩) 30 30, .tuple #[.pointer (some ⟨gc, 0, none⟩), .int .i64 0], .slice (some ⟨q0 + 1, 0, none⟩) 288 288, .tuple #[.pointer (some ⟨gc, 0, none⟩), .int .i64 0],
  .pointer (some ⟨gc, 0, none⟩), .int .i64 0, .pointer (some ⟨g, 0, none⟩), .int .i64 0, .pointer (some ⟨g, 0, none⟩), .int .i64 0, u, .func (.func 66) #[] #[.pointer (some ⟨Bs, 0, none⟩)], .agg (mcs x.1), undef, undef, undef, undef, undef, undef, undef, undef, undef, undef, undef, undef, undef, undef, undef, undef, undef, undef, undef, undef, undef, undef, undef, undef, undef, undef, undef, undef, undef, undef, undef, undef, undef, undef, undef, undef, undef, undef, undef, undef, undef, undef, undef, undef, undef], defers := [] }
theorem put_end {w : World} {n₀ g gc q0 q6 Bs B : Nat} {u : Value} {pre : List Mt} {x : Mt} {W W' : World} {a : Nat × Nat} (hi : putIv w n₀ g gc q0 q6 Bs u pre W) (hk : PutK n₀ W W') (hI : PutI n₀ g gc q0 q6 a W') (he : accE (pre ++ [x]) = a) :
    KeepsFrom B W W' ∧ Kb n₀ Bs W W' ∧ putIv w n₀ g gc q0 q6 Bs u (pre ++ [x]) W' :=
  ⟨⟨hk.below.size, fun k o _ h ho => hk.others k o h ho⟩, ⟨hk.below, hk.same _ _ _ _ hi.2.1 (by decide) (by decide)⟩, ⟨by rw [he]; exact hI, boxed_putK hi.2.1 hk (by decide) (by decide), hi.2.2.trans hk.below⟩⟩
set_option maxHeartbeats 8000000 in
theorem putFixed_go (g n₀ : Nat) (A : Option Addr) (c : Nat) (l : List Nat) (w : World) (hb : Bytes255 l) (hl : l.length ≤ 3000) (hN : Nums .u8 w n₀ A l) (hWr : Wr w g (.slice none 0 0) 0 0) (hg : n₀ ≤ g) :
    CallsIn Fence.wide 9 Try.prog 21 #[.pointer (some ⟨g, 0, none⟩), .slice A l.length c] w fun e w' => (∃ v, e = .returned v) ∧ (∃ v, Wr w' g v (fixedE hb).1 ((fixedE hb).2 + padE (fixedE hb).2)) ∧ Below n₀ w w' := by
  have HWr := Lib.hid hWr
  have HN := Lib.hid hN
  have hgw : g < w.heap.size := hWr.1.lt
  obtain ⟨L, hL⟩ : ∃ L, L = l.length := ⟨_, rfl⟩
  have HL := Lib.hid hL
  rw [← hL] at hl ⊢
  have Hfix := Lib.hid fixed_any
  have Hnew := Lib.hid new_fixed
  clear hN hWr hL
  refine callsIn_of_wp_marks Try.func21 rfl trivial ?_ rfl
  simp only [Try.ntmps21, List.size_toArray, List.length_cons, List.length_nil, Nat.reduceAdd, Nat.reduceSub, Array.replicate_succ, Array.replicate_zero, List.push_toArray, List.append_toArray, List.nil_append, List.cons_append]
  gi_wp2_with fail
  refine ⟨trivial, ?_⟩
  refine (callsIn_wide.2 (Hfix.out _)).mono ?_
  rintro e X1 ⟨g2, rfl, hF, hV, hB⟩
  rw [World.size_alloc] at hF hB
  have HB1 : Hid (Below w.heap.size w X1) := ((Below.refl _ _).alloc (Nat.le_refl _) _).trans (hB.mono (Nat.le_succ _))
  have HB1a : Hid (Boxed X1 w.heap.size 43 (.pointer (some ⟨g, 0, none⟩))) := by
    have := (Boxed.new w 43 (.pointer (some ⟨g, 0, none⟩)))
    exact (hB.block w.heap.size (Nat.lt_succ_self _)).trans this
  have Hnew1 := Lib.hid (Hnew.out _ _ hF)
  clear hF hV hB
  gi_wp2_with fail
  refine ⟨trivial, ?_⟩
  refine (callsIn_wide.2 Hnew1.out).mono ?_
  rintro e X2 ⟨gc, rfl, hC, hB⟩
  have hB2 : Below w.heap.size w X2 := HB1.out.trans (hB.mono HB1.out.size)
  have h2 : Boxed X2 w.heap.size 43 (.pointer (some ⟨g, 0, none⟩)) := (hB.block _ HB1a.out.lt).trans HB1a.out
  have HI3 : Hid (PutI n₀ g gc w.heap.size X2.heap.size (0, 0) (X2.alloc (.cells #[.pointer (some ⟨gc, 0, none⟩)] 77)) ∧ Below w.heap.size w (X2.alloc (.cells #[.pointer (some ⟨gc, 0, none⟩)] 77))) := by
    have hb32 : Below X2.heap.size X2 (X2.alloc (.cells #[.pointer (some ⟨gc, 0, none⟩)] 77)) := (Below.refl _ _).alloc (Nat.le_refl _) _
    have hB3 := hB2.alloc hB2.size (.cells #[.pointer (some ⟨gc, 0, none⟩)] 77)
    exact ⟨⟨⟨_, HWr.out.empty hB3, fun k hk => by cases hk⟩, hC.below hb32, h2.alloc _, Boxed.new X2 _ _⟩, hB3⟩
  have c2 : X2.cell? ⟨w.heap.size, 0, none⟩ = some (.pointer (some ⟨g, 0, none⟩)) := h2.cell
  have hw2 : w.heap.size < X2.heap.size := h2.lt
  have hw2n : w.heap.size ≠ X2.heap.size := by omega
  have HT1 : Hid (Calls Try.prog 41 #[.pointer (some ⟨g, 0, none⟩), .int .u32 1, .int .i64 1] (X2.alloc (.cells #[.pointer (some ⟨gc, 0, none⟩)] 77)) fun e W' => e = .returned (.int .i64 0) ∧ PutN n₀ g gc w.heap.size X2.heap.size (X2.alloc (.cells #[.pointer (some ⟨gc, 0, none⟩)] 77)) (1, 1) W') := put_bits HI3.out.1 hg 1 1 (by omega) (by omega) (by show 0 < 100000; omega)
  have hq6w : X2.heap.size < (X2.alloc (.cells #[.pointer (some ⟨gc, 0, none⟩)] 77)).heap.size := HI3.out.1.b6.lt
  clear hB hC hB2 h2
  gi_wp2_with fail
  refine ⟨trivial, ?_⟩
  refine (callsIn_wide.2 HT1.out).mono ?_
  rintro e X4 ⟨rfl, hP⟩
  obtain ⟨q0, hq0⟩ : ∃ q0, w.heap.size = q0 := ⟨_, rfl⟩
  obtain ⟨q6, hq6⟩ : ∃ q6, X2.heap.size = q6 := ⟨_, rfl⟩
  rw [hq0, hq6] at hP
  rw [hq0, hq6] at HI3
  obtain ⟨W3, hW3⟩ : ∃ W3, X2.alloc (.cells #[.pointer (some ⟨gc, 0, none⟩)] 77) = W3 := ⟨_, rfl⟩
  rw [hW3] at hP HI3
  rw [hq0, hq6]
  have HP := Lib.hid hP
  have c0 : X4.cell? ⟨q0, 0, none⟩ = some (.pointer (some ⟨g, 0, none⟩)) := hP.1.b0.cell
  have HT2 : Hid (Calls Try.prog 41 #[.pointer (some ⟨g, 0, none⟩), .int .u32 1, .int .i64 2] X4 fun e W' => e = .returned (.int .i64 0) ∧ PutN n₀ g gc q0 q6 X4 (3, 3) W') := put_bits hP.1 hg 1 2 (by omega) (by omega) (by show 1 < 100000; omega)
  have Hw := Lib.hid hw2
  have Hq := Lib.hid hq0
  clear hP HT1 c2 hw2n hq6w hw2 hq6 hW3 Hnew Hnew1 HB1 HB1a Hfix hq0
  gi_wp2_with fail
  refine ⟨trivial, ?_⟩
  refine (callsIn_wide.2 HT2.out).mono ?_
  rintro e X5 ⟨rfl, hP⟩
  have HP2 := Lib.hid hP
  have c5 : X5.cell? ⟨q0, 0, none⟩ = some (.pointer (some ⟨g, 0, none⟩)) := hP.1.b0.cell
  clear hP c0 HT2
  gi_wp2_with fail
  refine ⟨trivial, ?_⟩
  refine (matches_in _ _ trivial rfl _ _ _ _).mono ?_
  rintro e w' ⟨rfl, rfl⟩
  gi_wp2
  obtain ⟨Bs, hBs⟩ : ∃ Bs, X5.heap.size = Bs := ⟨_, rfl⟩
  obtain ⟨W0, hW0⟩ : ∃ W0, X5.alloc (.cells #[.slice A L c] 22) = W0 := ⟨_, rfl⟩
  have hX5 : Below n₀ w X5 := (HI3.out.2.mono (by have := Hq.out; omega)).trans (HP.out.2.below.trans HP2.out.2.below)
  have hsz : W0.heap.size = Bs + 1 := by rw [← hW0, ← hBs]; simp
  have hn₀s : n₀ ≤ Bs := by rw [← hBs]; have := hX5.size; omega
  have bB : Boxed W0 Bs 22 (.slice A L c) := by rw [← hW0, ← hBs]; exact Boxed.new X5 _ _
  have hI0 : putIv w n₀ g gc q0 q6 Bs (.slice A L c) [] W0 := by
    refine ⟨?_, bB, ?_⟩
    · rw [← hW0]; exact HP2.out.1.below ((Below.refl _ _).alloc (Nat.le_refl _) _)
    · rw [← hW0]; exact hX5.alloc (by rw [hBs]; exact hn₀s) _
  have HS := matches_stops (9 - 1) (by omega) Bs n₀ A c l hb (by have := HL.out; omega) W0 (by omega) hn₀s (by rw [← HL.out]; exact bB.cell) (HN.out.below (by rw [← hW0]; exact hX5.alloc (by rw [hBs]; exact hn₀s) _))
  rw [hBs, hW0]
  have HI0 := Lib.hid hI0
  clear hW0 hBs hX5 bB hI0 c5 HP HP2 HI3
  refine wpIn_rangeFunc_ownH rfl (by omega) (gf := 66) (lb := #[.pointer (some ⟨Bs, 0, none⟩)]) rfl trivial (enters_of Try.func66 (by kernel_rfl) rfl)
    HS (fun h k => kb_trans h k) (fun W l o o' hl ho hc hw => ?kb) (Below.refl _ _) (fun _ => rfl)
    (putIv w n₀ g gc q0 q6 Bs (.slice A L c)) (fun _ _ _ => False) ?hI (fun _ _ _ _ _ h _ _ => h) HI0.out
    (putAx g q0 q6 gc g2 Bs (.slice A L c)) ?hAx ?assign ?body ?done ?stop
  case kb => exact ⟨belowK_b (w := W0) (by omega) W l o o' hl ho hc hw, World.putObj_heap_other (by omega)⟩
  case hI => exact fun s A' C row hs hg hr => ⟨hs.1.kept (cells_kept hg hr), (cells_kept hg hr _ _ _ _ hs.2.1).trans hs.2.1, hs.2.2.grown hg (by have := hs.2.2.size; omega) (fun k hk => by have := (hr k hk).1; omega)⟩
  case hAx => exact fun x a' s A' C row ⟨Bm, h1, h2⟩ hg hr => ⟨Bm, (cells_kept hg hr _ _ _ _ h1).trans h1, h2⟩
  case assign =>
    rintro l pre x W K hi hK
    have Hi := Lib.hid hi
    have HK := Lib.hid hK
    clear hi hK
    unfold encM
    obtain ⟨x, hx⟩ := x
    have hx' := Lib.hid hx
    simp only [mcs]
    gi_wp2
    have hn : Bs < W.heap.size := Hi.out.2.1.lt
    have hb1 : ∀ o, Below W.heap.size W (W.alloc o) := fun o => (Below.refl _ _).alloc (Nat.le_refl _) _
    exact HK.out _ _ ((KeepsOthers.alloc _ _).from _) (kb_below (hb1 _) (by omega) hn)
      ⟨Hi.out.1.below (hb1 _), Hi.out.2.1.alloc _, Hi.out.2.2.alloc (by omega) _⟩ ⟨W.heap.size, Whole.new W _ _, rfl⟩
  case body =>
    rintro lp pre x a' W hlW ⟨r, hr⟩ hi ⟨Bm, wM, rfl⟩ hlt
    have hacc : (accE pre).2 ≤ 96000 := by have := accE_n pre; have := HL.out; omega
    have hsn := accE_snoc pre x
    obtain ⟨x, hx⟩ := x
    obtain ⟨m1, m2⟩ := x
    obtain ⟨a0, ha0⟩ : ∃ a, accE pre = a := ⟨_, rfl⟩
    have hI := hi.1
    rw [ha0] at hI hacc hsn
    have c0 : W.cell? ⟨q0, 0, none⟩ = some (.pointer (some ⟨g, 0, none⟩)) := hI.b0.cell
    have c6 : W.cell? ⟨q6, 0, none⟩ = some (.pointer (some ⟨gc, 0, none⟩)) := hI.b6.cell
    have p0 : W.cell? ⟨Bm, 0, none⟩ = some (.int .i64 (m1 : Int)) := wM.cell 0
    have p1 : W.cell? ⟨Bm, 1, none⟩ = some (.int .i64 (m2 : Int)) := wM.cell 1
    have HI := Lib.hid hI
    have Hi := Lib.hid hi
    have HM := Lib.hid wM
    simp only [mcs] at *
    clear hi hI wM hlt hr ha0
    by_cases h0 : m1 = 0
    · subst h0
      have hm2 : m2 ≤ 255 := by rcases hx with ⟨_, h⟩ | ⟨h, _⟩ <;> simp only at h <;> omega
      have HP := Lib.hid (put_word HI.out hg m2 (by omega) (by omega))
      have Hsn : Hid (accE (pre ++ [⟨(0, m2), hx⟩]) = addW1 a0 m2) := hsn
      clear hsn
      gi_wp2
      refine ⟨trivial, ?_⟩
      refine (CallsIn.inRound lp (callsIn_wide.2 HP.out)).mono ?_
      rintro e W1 ⟨rfl, hP⟩
      have HP1 := Lib.hid hP
      clear hP
      gi_wp2
      exact put_end Hi.out HP1.out.2 HP1.out.1 Hsn.out
    · have d1 : ((m1 : Int) == 0) = false := beq_eq_false_iff_ne.mpr (by omega)
      have hx2 : 3 ≤ m1 ∧ m1 ≤ 258 ∧ 1 ≤ m2 ∧ m2 ≤ 256 := by rcases hx with ⟨h, _⟩ | h <;> simp only at h <;> omega
      have hse : emit a0 (m1, m2) = addB (addT (addB (addW1 a0 (symE m1).1) (symE m1).2.1 (symE m1).2.2) (farE m2).1 5) (farE m2).2.1 (farE m2).2.2 := if_neg h0
      rw [hse] at hsn
      obtain ⟨b1, b2, b3⟩ := symE_in hx2.2.1
      obtain ⟨b4, b5, b6⟩ := farE_in (n := m2) (by omega)
      have hsy := fun X => sym_any (m1 : Int) ⟨by omega, by omega⟩ X
      have hfy := fun X => far_any (m2 : Int) ⟨by omega, by omega⟩ X
      rw [if_pos (by omega), Int.toNat_natCast] at hsy
      rw [if_pos (by omega), Int.toNat_natCast] at hfy
      change ∀ X, Calls Try.prog _ _ X fun e w' => e = .returned (tup3 (symE m1)) ∧ X = w' at hsy
      change ∀ X, Calls Try.prog _ _ X fun e w' => e = .returned (tup3 (farE m2)) ∧ X = w' at hfy
      obtain ⟨⟨s1, s2, s3⟩, hs⟩ : ∃ s, symE m1 = s := ⟨_, rfl⟩
      obtain ⟨⟨f1, f2, f3⟩, hf⟩ : ∃ s, farE m2 = s := ⟨_, rfl⟩
      rw [hs] at hsn hsy b1 b2 b3
      rw [hf] at hsn hfy b4 b5 b6
      simp only at b1 b2 b3 b4 b5 b6
      have Hsy : Hid (∀ X, Calls Try.prog 44 #[.int .i64 (m1 : Int)] X fun e w' => e = .returned (.tuple #[.int .i64 (s1 : Int), .int .i64 (s2 : Int), .int .i64 (s3 : Int)]) ∧ X = w') := hsy
      have Hfy : Hid (∀ X, Calls Try.prog 45 #[.int .i64 (m2 : Int)] X fun e w' => e = .returned (.tuple #[.int .i64 (f1 : Int), .int .i64 (f2 : Int), .int .i64 (f3 : Int)]) ∧ X = w') := hfy
      obtain ⟨a1, ha1⟩ : ∃ a, addW1 a0 s1 = a := ⟨_, rfl⟩
      obtain ⟨a2, ha2⟩ : ∃ a, addB a1 s2 s3 = a := ⟨_, rfl⟩
      obtain ⟨a3, ha3⟩ : ∃ a, addT a2 f1 5 = a := ⟨_, rfl⟩
      obtain ⟨a4, ha4⟩ : ∃ a, addB a3 f2 f3 = a := ⟨_, rfl⟩
      have n1 : a1.2 ≤ a0.2 + 9 := by rw [← ha1]; exact addW1_n a0 b1
      have n2 : a2.2 ≤ a0.2 + 14 := by rw [← ha2]; show a1.2 + s3 ≤ _; omega
      have n3 : a3.2 ≤ a0.2 + 19 := by rw [← ha3]; show a2.2 + 5 ≤ _; omega
      have H1 : Hid (∀ X, PutI n₀ g gc q0 q6 a0 X → _) := fun X h => by have := put_word h hg s1 b1 (by omega); rw [ha1] at this; exact this
      have H2 : Hid (∀ X, PutI n₀ g gc q0 q6 a1 X → _) := fun X h => by have := put_bits h hg s2 s3 (by omega) (by omega) (by omega); rw [ha2] at this; exact this
      have H3 : Hid (∀ X, PutI n₀ g gc q0 q6 a2 X → Calls Try.prog 46 #[.pointer (some ⟨g, 0, none⟩), .int .u32 (f1 : Int), .int .i64 5] X fun e W' => e = .returned (.int .i64 0) ∧ PutN n₀ g gc q0 q6 X a3 W') := fun X h => by have := put_turned h hg f1 5 (by omega) (by omega) (by omega); rw [ha3] at this; exact this
      have H4 : Hid (∀ X, PutI n₀ g gc q0 q6 a3 X → _) := fun X h => by have := put_bits h hg f2 f3 (by omega) (by omega) (by omega); rw [ha4] at this; exact this
      rw [ha1, ha2, ha3, ha4] at hsn
      have Hsn := Lib.hid hsn
      have HU : Hid (∀ X' n, PutI n₀ g gc q0 q6 n X' → PutK n₀ W X' → X'.cell? ⟨q0, 0, none⟩ = some (.pointer (some ⟨g, 0, none⟩)) ∧ X'.cell? ⟨q6, 0, none⟩ = some (.pointer (some ⟨gc, 0, none⟩)) ∧ X'.cell? ⟨Bm, 1, none⟩ = some (.int .i64 (m2 : Int))) :=
        fun X' n h hk => ⟨h.b0.cell, h.b6.cell, (whole_putK HM.out hk (by decide) (by decide)).cell 1⟩
      clear hsn hsy hfy hs hf ha1 ha2 ha3 ha4 hse n1 n2 n3 hx2 h0
      gi_wp2
      refine ⟨trivial, ?_⟩
      refine (CallsIn.inRound lp (callsIn_wide.2 (Hsy.out _))).mono ?_
      rintro e X0 ⟨rfl, rfl⟩
      gi_wp2
      refine ⟨trivial, ?_⟩
      refine (CallsIn.inRound lp (callsIn_wide.2 (H1.out _ HI.out))).mono ?_
      rintro e W1 ⟨rfl, hP⟩
      have HP1 : Hid (PutI n₀ g gc q0 q6 a1 W1 ∧ PutK n₀ W W1) := ⟨hP.1, hP.2⟩
      obtain ⟨u10, u16, u1m⟩ := HU.out W1 _ HP1.out.1 HP1.out.2
      clear hP
      gi_wp2
      refine ⟨trivial, ?_⟩
      refine (CallsIn.inRound lp (callsIn_wide.2 (H2.out _ HP1.out.1))).mono ?_
      rintro e W2 ⟨rfl, hP⟩
      have HP2 : Hid (PutI n₀ g gc q0 q6 a2 W2 ∧ PutK n₀ W W2) := ⟨hP.1, HP1.out.2.trans hP.2⟩
      obtain ⟨u20, u26, u2m⟩ := HU.out W2 _ HP2.out.1 HP2.out.2
      clear hP
      gi_wp2
      refine ⟨trivial, ?_⟩
      refine (CallsIn.inRound lp (callsIn_wide.2 (Hfy.out _))).mono ?_
      rintro e X0 ⟨rfl, rfl⟩
      gi_wp2
      refine ⟨trivial, ?_⟩
      refine (CallsIn.inRound lp (callsIn_wide.2 (H3.out _ HP2.out.1))).mono ?_
      rintro e W3 ⟨rfl, hP⟩
      have HP3 : Hid (PutI n₀ g gc q0 q6 a3 W3 ∧ PutK n₀ W W3) := ⟨hP.1, HP2.out.2.trans hP.2⟩
      obtain ⟨u30, u36, u3m⟩ := HU.out W3 _ HP3.out.1 HP3.out.2
      clear hP
      gi_wp2
      refine ⟨trivial, ?_⟩
      refine (CallsIn.inRound lp (callsIn_wide.2 (H4.out _ HP3.out.1))).mono ?_
      rintro e W4 ⟨rfl, hP⟩
      have HP4 : Hid (PutI n₀ g gc q0 q6 a4 W4 ∧ PutK n₀ W W4) := ⟨hP.1, HP3.out.2.trans hP.2⟩
      obtain ⟨u40, u46, u4m⟩ := HU.out W4 _ HP4.out.1 HP4.out.2
      clear hP
      gi_wp2
      exact put_end Hi.out HP4.out.2 HP4.out.1 Hsn.out
  case done =>
    rintro D ys W hD rfl ⟨hI, hBx, hBl⟩ hK
    have c0 : W.cell? ⟨q0, 0, none⟩ = some (.pointer (some ⟨g, 0, none⟩)) := hI.b0.cell
    have c6 : W.cell? ⟨q6, 0, none⟩ = some (.pointer (some ⟨gc, 0, none⟩)) := hI.b6.cell
    have hacc : (accE (parseE hb)).2 ≤ 96003 := by have := accE_n (parseE hb); have := parseFrom_length (h := hb) l.length 0; have := HL.out; unfold parseE at *; omega
    have hf9 : (fixedE hb).2 ≤ 96012 := by have := addW1_n (accE (parseE hb)) (i := 256) (by omega); unfold fixedE; omega
    have HP : Hid (Calls Try.prog 43 #[.pointer (some ⟨gc, 0, none⟩), .pointer (some ⟨g, 0, none⟩), .int .i64 256] W fun e W' => e = .returned (.int .i64 0) ∧ PutN n₀ g gc q0 q6 W (fixedE hb) W') := put_word hI hg 256 (by omega) (by omega)
    have HBl := Lib.hid hBl
    have HKf := Lib.hid hK
    have Hf9 := Lib.hid hf9
    clear hI hBx hBl hK hacc hf9
    gi_wp2
    refine ⟨trivial, ?_⟩
    refine (callsIn_wide.2 HP.out).mono ?_
    rintro e W1 ⟨rfl, hI1, hK1⟩
    have c01 : W1.cell? ⟨q0, 0, none⟩ = some (.pointer (some ⟨g, 0, none⟩)) := hI1.b0.cell
    obtain ⟨v, hWr, hv⟩ := hI1.wr
    have HA := Lib.hid (walign_any g (fixedE hb).1 (fixedE hb).2 (padE (fixedE hb).2) v W1 hWr (by have := Hf9.out; omega) rfl)
    have HB1 := Lib.hid (HBl.out.trans hK1.below)
    have HK1 := Lib.hid (hK1.others D _ HKf.out rfl)
    have HW1 := Lib.hid hWr.1
    clear hI1 hK1 hWr hv c0 c6
    gi_wp2
    refine ⟨trivial, ?_⟩
    refine (callsIn_wide.2 HA.out).mono ?_
    rintro e W2 ⟨rfl, hWr2, ho⟩
    have HW2 := Lib.hid hWr2
    have HB2 : Hid (Below n₀ w W2) := HB1.out.trans ⟨ho.os, ho.tape, ho.output, ho.size, fun k hk => ho.block k (by have := HB1.out.size; have := HW1.out.lt; omega) (by omega)⟩
    have HK2 : Hid (W2.heap[D]? = some (.deferred (some []))) := (ho.block D (Array.getElem?_eq_some_iff.1 HK1.out).1 (by rintro rfl; have q := (show W1.heap[D]? = _ from HW1.out).symm.trans HK1.out; injection q with q; cases q)).trans HK1.out
    clear hWr2 ho
    gi_wp2
    refine ⟨by simp, .inl ⟨_, _, rfl, run_takeDeferred HK2.out, ?_⟩⟩
    refine ⟨_, results_none rfl _ _ _, ⟨_, rfl⟩, ⟨_, HW2.out.kept fun k cs e fz hk => World.putObj_heap_other ?_⟩, HB2.out.trans (belowK_b (w := W0) (by omega) W2 D _ _ hD HK2.out rfl rfl)⟩
    rintro rfl
    have q := hk.symm.trans HK2.out
    injection q with q
    cases q
  case stop =>
    rintro D c' pre W _ _ h _
    exact h.elim
end Go.Proofs.Ytngnhkghpnamoaa
