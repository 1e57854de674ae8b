/- Layer 5: Parse. -/
import Derived.Test.YtmheafadahdbfaaPar4
import Derived.Test.YtmheafadahdbfaaRefParse
namespace Go.Proofs.Ytmheafadahdbfaa
open Go.RowKit Go.Shelf Huff Bit
set_option linter.unusedVariables false
set_option maxRecDepth 100000
attribute [local go_sem] Oper.semAt_some

theorem mtinfo : (Try.prog.info? 35).map (fun i => (i.zero, i.size, i.bytes)) = some (some (.agg #[.int .i64 0, .int .i64 0]), 2, 16) := by kernel_rfl
theorem own_cells {base size n : Nat} {e : TypeId} {v : Value} {xs : List Value} {W W' : World} (h : W.ownsRow base e size v n xs) (hk : ∀ (k : Nat) (cs : Array Value) (e : TypeId) (fz : Nat × Nat), W.heap[k]? = some (.cells cs e fz) → W'.heap[k]? = W.heap[k]?) : W'.ownsRow base e size v n xs := by
  refine ⟨h.1, ?_⟩
  rcases h.2 with q | ⟨g', cap, cur, e1, hb, hg, rest⟩
  · exact .inl q
  · exact .inr ⟨g', cap, cur, e1, hb, (hk _ _ _ _ hg).trans hg, rest⟩
theorem cells_new2 (W : World) (T : TypeId) (u0 u1 : Value) : ∀ (j : Nat) (u : Value), [u0, u1][j]? = some u → (W.alloc (.cells #[u0, u1] T)).cell? ((⟨W.heap.size, 0, none⟩ : Addr).add j) = some u := by
  intro j u h
  rcases j with _ | _ | j
  · simp at h; subst h; exact (Whole.new W T #[u0, u1]).cell 0
  · simp at h; subst h; exact (Whole.new W T #[u0, u1]).cell 1
  · simp at h
def parIv (w : World) (n0 Bs : Nat) (u : Value) (pre : List Mt) (W : World) : Prop := (∃ v, Boxed W n0 30 v ∧ OwnR 35 W n0 v pre) ∧ Boxed W Bs 22 u ∧ Below n0 w W
def parAx (n0 Bs : Nat) (u : Value) (x : Mt) (a' : Act) (W : World) : Prop := ∃ Bm, Whole W Bm 35 (mcs x.1) ∧ a' = { tmps := #[u, undef, .slice none 0 0, .pointer (some ⟨n0, 0, none⟩), .pointer (some ⟨Bm, 0, none⟩), u, .func (.func 48) #[] #[.pointer (some ⟨Bs, 0, none⟩)], .agg (mcs x.1), undef, undef, undef, undef, undef], defers := [] }
set_option maxHeartbeats 8000000 in
theorem parse_go (A : Option Addr) (c : Nat) (l : List Nat) (w : World) (hb : Bytes255 l) (hN : Nums .u8 w w.heap.size A l) (hl : l.length ≤ 100000) :
    CallsIn Fence.wide 9 Try.prog 13 #[.slice A l.length c] w (ParsePost w (parseE hb)) := by
  obtain ⟨i1, hi1, hy0, hy1, hy2⟩ := info_parts mtinfo
  obtain ⟨L, hL⟩ : ∃ L, L = l.length := ⟨_, rfl⟩
  have HL := Lib.hid hL
  have HN := Lib.hid hN
  rw [← hL] at hl ⊢
  clear hN hL
  refine callsIn_of_wp_marks Try.func13 rfl trivial ?_ rfl
  simp only [Try.ntmps13, List.size_toArray, List.length_cons, List.length_nil, Nat.reduceAdd, Nat.reduceSub, Array.replicate_succ, Array.replicate_zero, List.push_toArray, List.append_toArray, List.nil_append, List.cons_append]
  gi_wp2_with fail
  refine ⟨trivial, ?_⟩
  refine (matches_in _ _ trivial rfl _ _ _ _).mono ?_
  rintro e w' ⟨rfl, rfl⟩
  gi_wp2
  obtain ⟨W0, hW0⟩ : ∃ W0, W0 = (w.alloc (.cells #[.slice none 0 0] 30)).alloc (.cells #[.slice A L c] 22) := ⟨_, rfl⟩
  obtain ⟨n0, hn0⟩ : ∃ k, k = w.heap.size := ⟨_, rfl⟩
  have bS : Boxed W0 n0 30 (.slice none 0 0) := by rw [hW0, hn0]; exact (Boxed.new w _ _).alloc _
  have bN : Boxed W0 (n0 + 1) 22 (.slice A L c) := by
    rw [hW0, hn0]
    have := Boxed.new (w.alloc (.cells #[.slice none 0 0] 30)) 22 (.slice A L c)
    rwa [World.size_alloc] at this
  have hB0 : Below n0 w W0 := by rw [hW0, hn0]; exact ((Below.refl _ _).alloc (Nat.le_refl _) _).alloc (by simp) _
  have hsz : W0.heap.size = n0 + 2 := by rw [hW0, hn0]; simp
  have hwn : w.heap.size ≤ n0 := by omega
  have HN0 : Hid (Nums .u8 W0 n0 A l) := by show Nums _ _ _ _ _; have := HN.out; rw [← hn0] at this; exact this.below hB0
  have Hn0 := Lib.hid hn0
  rw [← hW0, ← hn0]
  clear hW0 hn0
  have HS := matches_stops (9 - 1) (by omega) (n0 + 1) n0 A c l hb (by have := HL.out; omega) W0 (by omega) (by omega) (by rw [← HL.out]; exact bN.cell) HN0.out
  refine wpIn_rangeFunc_ownH rfl (by omega) (gf := 48) (lb := #[.pointer (some ⟨n0 + 1, 0, none⟩)]) rfl trivial (enters_of Try.func48 (by kernel_rfl) rfl)
    HS (fun h k => kb_trans h k) (fun W l o o' hl ho hc hw => ?kb) (Below.refl _ _) (fun _ => rfl)
    (parIv w n0 (n0 + 1) (.slice A L c)) (fun _ _ _ => False) ?hI (fun _ _ _ _ _ h _ _ => h) ⟨⟨_, bS, ⟨rfl, .inl ⟨rfl, rfl⟩⟩⟩, bN, hB0⟩
    (parAx n0 (n0 + 1) (.slice A L c)) ?hAx ?assign ?body ?done ?stop
  case kb => exact ⟨belowK_b (w := W0) (by omega) W l o o' hl ho hc hw, World.putObj_heap_other (by omega)⟩
  case hI => exact fun s A' C row ⟨⟨v, h1, h2⟩, h3, h4⟩ hg hr => ⟨⟨v, (cells_kept hg hr _ _ _ _ h1).trans h1, own_cells h2 (cells_kept hg hr)⟩, (cells_kept hg hr _ _ _ _ h3).trans h3, h4.grown hg (by have := Boxed.lt h1; omega) (fun k hk => by have := (hr k hk).1; omega)⟩
  case hAx => exact fun x a' s A' C row ⟨Bm, h1, h2⟩ hg hr => ⟨Bm, (cells_kept hg hr _ _ _ _ h1).trans h1, h2⟩
  case assign =>
    rintro l pre x W K hi hK
    have Hi := Lib.hid hi
    have HK := Lib.hid hK
    clear hi hK
    unfold encM
    obtain ⟨x, hx⟩ := x
    simp only [mcs]
    gi_wp2
    have hn : n0 + 1 < W.heap.size := Hi.out.2.1.lt
    have hb1 : ∀ o, Below W.heap.size W (W.alloc o) := fun o => (Below.refl _ _).alloc (Nat.le_refl _) _
    obtain ⟨⟨v, h1, h2⟩, h3, h4⟩ := Hi.out
    exact HK.out _ _ ((KeepsOthers.alloc _ _).from _) (kb_below (hb1 _) (by omega) hn)
      ⟨⟨v, h1.alloc _, h2.below (hb1 _)⟩, h3.alloc _, h4.alloc (by omega) _⟩ ⟨W.heap.size, Whole.new W _ _, rfl⟩
  case body =>
    rintro lp pre x a' W hlW ⟨r, hr⟩ ⟨⟨v, hv, hrow⟩, hBx, hBl⟩ ⟨Bm, wM, rfl⟩ hlt
    obtain ⟨x, hx⟩ := x
    obtain ⟨m1, m2⟩ := x
    have hpl : pre.length ≤ 100000 := by have := HL.out; omega
    have hc := hv.cell
    have hf := hv.frozen
    have p0 : W.cell? ⟨Bm, 0, none⟩ = some (.int .i64 (m1 : Int)) := wM.cell 0
    have p1 : W.cell? ⟨Bm, 1, none⟩ = some (.int .i64 (m2 : Int)) := wM.cell 1
    have hsz0 : n0 ≤ W.heap.size := Nat.le_of_lt hv.lt
    have HBx := Lib.hid hBx
    have HBl := Lib.hid hBl
    simp only [mcs]
    clear hlt hr wM hBx hBl hlW
    gi_wp2_with (gi_at_builtin; refine wpListIn_append_own _ rfl _ _ 30 rfl n0 35 i1 _ 2 16 Try.underlying30 hi1 hy0 hy1 hy2 rfl (by decide) _ _ _ rfl (hrow.alloc _) ⟨W.heap.size, 0, none⟩ 1 1 [.int .i64 (m1 : Int), .int .i64 (m2 : Int)] rfl rfl (cells_new2 _ _ _ _) (by simp [Value.oneCell']) (by unfold maxLen; omega) (by omega) (by simp; omega) ?_; intro v' w1 hown' hgrow _; obtain ⟨g', cap', rfl⟩ := ownsRow_succ hown'; obtain ⟨hv1, hv2, hr2, hk2, hb2⟩ := hv.appended (by decide) hrow hsz0 (Nat.le_refl _) hown' hgrow; have hc1 := hv1.cell; have hf1 := hv1.frozen)
    have hB1 : Boxed w1 (n0 + 1) 22 (.slice A L c) := (HBx.out.alloc _).kept hgrow (HBx.out.not_row (by decide) hrow)
    refine ⟨hk2.from _, ⟨hb2, ?_⟩, ⟨⟨_, hv2, ?_⟩, ?_, HBl.out.trans hb2⟩⟩
    · exact (Below.heap_setCell w1 ⟨n0, 0, none⟩ _ (n0 + 1) (by show n0 + 1 ≠ n0; omega)).trans ((show w1.heap[n0 + 1]? = _ from hB1).trans (show W.heap[n0 + 1]? = _ from HBx.out).symm)
    · show World.ownsRow _ _ _ _ _ _ _
      rw [p2s_snoc, pts_append, List.length_append]
      exact hr2
    · exact (Below.heap_setCell w1 ⟨n0, 0, none⟩ _ (n0 + 1) (by show n0 + 1 ≠ n0; omega)).trans hB1
  case done =>
    rintro D ys W hD rfl ⟨⟨v, hv, hrow⟩, hBx, hBl⟩ hK
    have hc := hv.cell
    have HBl := Lib.hid hBl
    have Hrow := Lib.hid hrow
    have HK := Lib.hid hK
    clear hBl hrow hK
    gi_wp2
    refine ⟨by simp, .inl ⟨_, _, rfl, run_takeDeferred HK.out, ?_⟩⟩
    refine ⟨_, results_tmp rfl _ _ _, v, rfl, ?_, ?_⟩
    · have hr : OwnR 35 (W.putObj D (.deferred none)) n0 v (parseE hb) := ownsRow_putObj Hrow.out _ HK.out rfl
      exact hr.rd
    · have h5 : Below n0 w (W.putObj D (.deferred none)) := HBl.out.trans (belowK_b (w := W0) (by omega) W D _ _ hD HK.out rfl rfl)
      rw [Hn0.out] at h5
      exact h5
  case stop =>
    rintro D c' pre W _ _ h _
    exact h.elim
end Go.Proofs.Ytmheafadahdbfaa
