/- Walks over layer 15: Unquote of a quoted text. -/
import Derived.Test.YtdaipnlgloafdaaUnqPt
import Derived.Test.YtdaipnlgloafdaaQuote
namespace Go.Proofs.Ytdaipnlgloafdaa
open Go.RowKit Utf
set_option linter.unusedVariables false
set_option maxRecDepth 100000

/-- Where the reader stands. -/
def posOf (g : Nat) (X : World) : Nat := match X.cell? ⟨g, 1, none⟩ with
  | some (.int _ z) => z.toNat
  | _ => 0
theorem Rdr.pos {X : World} {g : Nat} {b : ByteArray} {k : Nat} {v : Value} {l : List Nat} (h : Rdr X g b k v l) : posOf g X = k := by
  have c1 : X.cell? ⟨g, 1, none⟩ = some (.int .i64 (k : Int)) := h.1.cell 1
  unfold posOf
  rw [c1]
  simp

/-- What stands while the quoted text of l is read from a place on. -/
def Reads (w : World) (b : ByteArray) (A : Nat) (l : List Nat) (X : World) (d e : Value) : Prop :=
  ∃ (k : Nat) (v : Value) (m : List Nat) (t : Bool), d = .bool t ∧ e = .int .i64 0 ∧ Rdr X w.heap.size b k v m ∧ Below w.heap.size w X ∧ (∀ x, v.ownBlock = some x → w.heap.size ≤ x) ∧
    ((t = true ∧ m = l ∧ k = A + (qtd l).length) ∨ (t = false ∧ ∃ i, i ≤ l.length ∧ m = l.take i ∧ k = A + 1 + (qt (l.take i)).length))

theorem reads_step {w : World} {b : ByteArray} {k k' : Nat} {X Y : World} {v : Value} {m : List Nat} {r : Value} {en : Ending} (hR : Rdr X w.heap.size b k v m) (hb : Below w.heap.size w X) (hv : ∀ x, v.ownBlock = some x → w.heap.size ≤ x)
    {m' : List Nat} (h : StepPost X w.heap.size b k' v m' r en Y) : ∃ v', Rdr Y w.heap.size b k' v' m' ∧ Below w.heap.size w Y ∧ (∀ x, v'.ownBlock = some x → w.heap.size ≤ x) := by
  obtain ⟨_, v', h1, h2, h3⟩ := h
  refine ⟨v', h1, hb.trans (h2.below (fun b hb e => by
    rcases e with e | e
    · omega
    · have := hv b e; omega) hb.size), fun x e => ?_⟩
  rcases h3 with e1 | ⟨k, e1, hk⟩
  · exact hv x (by rw [← e1]; exact e)
  · rw [e1] at e; injection e with e; have := hb.size; omega

theorem qt_split (l : List Nat) (i : Nat) (h : i < l.length) : qt l = qt (l.take i) ++ (esc (l.getD i 0) ++ qt (l.drop (i + 1))) := by
  conv => lhs; rw [← List.take_append_drop i l, List.drop_eq_getElem_cons h]
  rw [qt_app, qt_cons, List.getD_eq_getElem?_getD, List.getElem?_eq_getElem h]
  rfl
theorem qtd_at (l : List Nat) (i : Nat) (h : i < l.length) : 1 + (qt (l.take i)).length + (esc (l.getD i 0)).length < (qtd l).length ∧ ∀ j, j < (esc (l.getD i 0)).length → (qtd l).getD (1 + (qt (l.take i)).length + j) 0 = (esc (l.getD i 0)).getD j 0 := by
  have e : qtd l = (34 :: qt (l.take i)) ++ (esc (l.getD i 0) ++ (qt (l.drop (i + 1)) ++ [34])) := by
    unfold qtd
    rw [qt_split l i h]
    simp
  rw [e]
  refine ⟨by simp; omega, fun j hj => ?_⟩
  rw [List.getD_eq_getElem?_getD, List.getElem?_append_right (by simp; omega), List.getElem?_append_left (by rw [List.length_cons]; omega), List.getD_eq_getElem?_getD]
  congr 2
  simp; omega
theorem qtd_len (l : List Nat) : (qtd l).length = (qt l).length + 2 := by simp [qtd]
theorem qtd_last (l : List Nat) : (qtd l).getD (1 + (qt l).length) 0 = 34 := by
  unfold qtd
  rw [show 1 + (qt l).length = (qt l).length + 1 by omega, List.getD_cons_succ, List.getD_eq_getElem?_getD, List.getElem?_append_right (Nat.le_refl _)]
  simp

set_option maxHeartbeats 4000000 in
theorem unquote_qtd (b : ByteArray) (A : Nat) (l : List Nat) (w : World) (hs : b.size ≤ 100000) (hl : ∀ x ∈ l, x < 256) (hA : A + (qtd l).length ≤ b.size) (hq : ∀ j, j < (qtd l).length → (bs b).getD (A + j) 0 = (qtd l).getD j 0)
    (hlen : l.length ≤ 100000) (f0 : Nat) (hf0 : l.length < f0) (hv : val l f0 0 = true) :
    Calls Try.prog 13 #[.string b, .int .i64 (A : Int)] w fun e w' => e = .returned (.tuple #[.string (strOf l), .int .i64 ((A + (qtd l).length : Nat) : Int), .int .i64 0]) ∧ Below w.heap.size w w' := by
  have hQ2 := qtd_len l
  have hAb : A < b.size := by omega
  have hb0 : (b[A]'hAb).toNat = 34 := by rw [bs_get]; exact hq 0 (by omega)
  have n1 : decide ((A : Int) < 0) = false := decide_eq_false (by omega)
  have n2 : decide (b.size < A) = false := decide_eq_false (by omega)
  have n3 : ((A : Int) == (b.size : Int)) = false := beq_eq_false_iff_ne.mpr (by omega)
  have n4 : IntKind.i64.wrap ((A : Int) + 1) = (A : Int) + 1 := IntWalk.i64_in _ ⟨by omega, by omega⟩
  have Hv : Hid (∀ W, Calls Try.prog 7 #[.string (strOf l)] W fun e w' => e = .returned (.bool true) ∧ W = w') := fun W => valid_any (strOf l) W (by rw [strOf_size]; exact hlen) true f0 (by rw [strOf_size]; exact hf0) (by rw [bs_strOf l hl]; exact hv)
  have h0 : Hid (Rdr (w.alloc (.cells #[.string b, .int .i64 ((A : Int) + 1), .slice none 0 0] 41)) w.heap.size b (A + 1) (.slice none 0 0) []) := ⟨Whole.new w _ _, Own8.nil_ _ _, by simp [Value.ownBlock]⟩
  have Hstep : Hid (∀ (X : World) (v : Value) (i : Nat), i < l.length → Rdr X w.heap.size b (A + 1 + (qt (l.take i)).length) v (l.take i) →
      Calls Try.prog 19 #[.pointer (some ⟨w.heap.size, 0, none⟩)] X (StepPost X w.heap.size b (A + 1 + (qt (l.take (i + 1))).length) v (l.take (i + 1)) (.tuple #[.bool false, .int .i64 0]))) := fun X v i hi hR => by
    obtain ⟨q1, q2⟩ := qtd_at l i hi
    have hx : l.getD i 0 < 256 := by
      rw [List.getD_eq_getElem?_getD, List.getElem?_eq_getElem hi]; exact hl _ (List.getElem_mem hi)
    have := step_esc w.heap.size b (A + 1 + (qt (l.take i)).length) (l.getD i 0) v (l.take i) X hR (by rw [List.length_take]; omega) (by omega) hx (by omega) (fun j hj => by
      rw [← q2 j hj, ← hq _ (by omega)]; congr 1; omega)
    rw [qt_take l i hi, List.length_append, List.take_add_one, List.getElem?_eq_getElem hi]
    rw [List.getD_eq_getElem?_getD, List.getElem?_eq_getElem hi] at this ⊢
    rw [← Nat.add_assoc]
    exact this
  have Hstop : Hid (∀ (X : World) (v : Value), Rdr X w.heap.size b (A + 1 + (qt l).length) v l →
      Calls Try.prog 19 #[.pointer (some ⟨w.heap.size, 0, none⟩)] X (StepPost X w.heap.size b (A + (qtd l).length) v l (.tuple #[.bool true, .int .i64 0]))) := fun X v hR => by
    have := step_stop w.heap.size b (A + 1 + (qt l).length) v l X hR (by omega) (by omega) (by rw [show A + 1 + (qt l).length = A + (1 + (qt l).length) by omega, hq _ (by omega)]; exact qtd_last l)
    rw [show A + (qtd l).length = A + 1 + (qt l).length + 1 by omega]
    exact this
  have Hst : Hid (∀ (X : World) (v : Value), Own8 X 0 v l → ∀ n, (convert 37 9 v).run Try.prog (X.drewN n) = .ok (.string (strOf l)) (X.drewN n)) := fun X v h n => str_own (w := X.drewN n) h hl
  have Hb : Hid (A + (qtd l).length ≤ b.size) := hA
  have HQ2 := Lib.hid hQ2
  clear hq hA hlen hv hf0 hl hQ2
  go_enter Try.func13, Try.ntmps13
  go_wp2_with fail
  go_loopw [8, 6] (fun d e X => Reads w b A l X d e) (fun _ _ X => b.size + 1 - posOf w.heap.size X)
  case atStart => exact ⟨A + 1, .slice none 0 0, [], false, rfl, rfl, h0.out, (Below.refl _ _).alloc (Nat.le_refl _) _, by simp [Value.ownBlock], .inr ⟨rfl, 0, Nat.zero_le _, by simp, by simp [qt]⟩⟩
  case round =>
    obtain ⟨k, v, m, t, rfl, rfl, hR, hbl, hvo, hcase⟩ := hrel
    have hpos := hR.pos
    have HR := Lib.hid hR
    have HB := Lib.hid hbl
    have HV := Lib.hid hvo
    clear hvo hbl
    rcases hcase with ⟨rfl, rfl, rfl⟩ | ⟨rfl, i, hi, rfl, rfl⟩
    · have hst := Hst.out wr v hR.2.1
      have hst0 : (convert 37 9 v).run Try.prog wr = .ok (.string (strOf m)) wr := hst 0
      have c1 : wr.cell? ⟨w.heap.size, 1, none⟩ = some (.int .i64 ((A + (qtd m).length : Nat) : Int)) := hR.1.cell 1
      have c2 : wr.cell? ⟨w.heap.size, 2, none⟩ = some v := hR.1.cell 2
      obtain ⟨E, hE⟩ : ∃ E : Nat, Hid (A + (qtd m).length = E) := ⟨_, Lib.hid rfl⟩
      rw [hE.out] at c1
      clear hR hpos Hstep Hstop HR
      go_wp2_with fail
      refine (Hv.out _).mono ?_
      rintro e W3 ⟨rfl, rfl⟩
      go_wp2_with fail
      go_quiet (fail)
      go_wp2_with fail
      go_ret3
      exact ⟨by rw [hE.out]; rfl, below_drawn HB.out _⟩
    · by_cases hlt : i < l.length
      · have hp := Lib.hid (Hstep.out wr v i hlt hR)
        have Hi := Lib.hid hlt
        have hbnd : A + 1 + (qt (l.take i)).length < b.size := by have h1 := qtd_at l i hlt; have := Hb.out; omega
        have hpos2 : ∀ Y v', Rdr Y w.heap.size b (A + 1 + (qt (l.take (i + 1))).length) v' (l.take (i + 1)) → A + 1 + (qt (l.take i)).length < posOf w.heap.size Y := fun Y v' h => by
          rw [h.pos, qt_take l i hlt, List.length_append]
          have : 0 < (esc (l.getD i 0)).length := by unfold esc; repeat' split
                                                     all_goals simp
          omega
        have Hp2 := Lib.hid hpos2
        have Hpos := Lib.hid hpos
        have Hbn := Lib.hid hbnd
        clear hR hpos Hstep Hstop hpos2 hbnd hlt hi
        go_wp2_with fail
        refine hp.out.mono ?_
        rintro e Y hS
        have e0 := hS.1
        subst e0
        obtain ⟨v', h1, h2, h3⟩ := reads_step HR.out HB.out HV.out hS
        have H1 := Lib.hid h1
        have H2 := Lib.hid h2
        have H3 := Lib.hid h3
        clear hS h1 h2 h3 hp
        go_wp2_with fail
        go_roundw
        case rel => exact ⟨_, v', _, false, rfl, rfl, H1.out, H2.out, H3.out, .inr ⟨rfl, i + 1, Hi.out, rfl, rfl⟩⟩
        case measure => have a1 := Hp2.out Y v' H1.out; have a2 := Hpos.out; have a3 := Hbn.out; rw [a2]; omega
      · obtain rfl : i = l.length := by omega
        rw [List.take_length] at hR HR hpos
        have hp := Lib.hid (Hstop.out wr v hR)
        have Hp2 := Lib.hid fun (Y : World) (v' : Value) (h : Rdr Y w.heap.size b (A + (qtd l).length) v' l) => h.pos
        have Hpos := Lib.hid hpos
        clear hR hpos Hstep Hstop hlt hi
        go_wp2_with fail
        refine hp.out.mono ?_
        rintro e Y hS
        have e0 := hS.1
        subst e0
        obtain ⟨v', h1, h2, h3⟩ := reads_step HR.out HB.out HV.out hS
        have H1 := Lib.hid h1
        have H2 := Lib.hid h2
        have H3 := Lib.hid h3
        clear hS h1 h2 h3 hp
        go_wp2_with fail
        go_roundw
        case rel => exact ⟨_, v', _, true, rfl, rfl, H1.out, H2.out, H3.out, .inl ⟨rfl, rfl, rfl⟩⟩
        case measure => have a1 := Hp2.out Y v' H1.out; have a2 := Hpos.out; have a3 := Hb.out; have a4 := HQ2.out; rw [a1, a2]; omega
end Go.Proofs.Ytdaipnlgloafdaa
