/- Walks over layer 15: Unquote, whatever stands there. -/
import Derived.Test.YtdaipnlgloafdaaUnqMath
import Derived.Test.YtdaipnlgloafdaaUnqRun
namespace Go.Proofs.Ytdaipnlgloafdaa
open Go.RowKit Utf
set_option linter.unusedVariables false
set_option maxRecDepth 100000

/-- The answer where a text has ended. -/
def shut (m : List Nat) (k : Nat) : List Nat × Nat × Int := if val m (m.length + 1) 0 = true then (m, k, 0) else ([], 0, 3)
theorem unqE_step (l : List Nat) (f k : Nat) (m : List Nat) : unqE l (f + 1) k m = if (stpE l k).2.2.2 = 0 then (if (stpE l k).1 = true then shut (m ++ (stpE l k).2.1) (stpE l k).2.2.1 else unqE l f (stpE l k).2.2.1 (m ++ (stpE l k).2.1)) else ([], 0, (stpE l k).2.2.2) := rfl

/-- The reader behind what it read. -/
def Live (w : World) (b : ByteArray) (X : World) (k : Nat) (m : List Nat) : Prop :=
  ∃ v, Rdr X w.heap.size b k v m ∧ (∀ x, v.ownBlock = some x → w.heap.size ≤ x) ∧ k ≤ b.size ∧ (∀ x ∈ m, x < 256) ∧ m.length ≤ 4 * k
def UAt (w : World) (b : ByteArray) (R : List Nat × Nat × Int) (X : World) (d e : Value) : Prop :=
  ∃ (t : Bool) (r : Int), d = .bool t ∧ e = .int .i64 r ∧ Below w.heap.size w X ∧
    ((r ≠ 0 ∧ R = ([], 0, r)) ∨ (r = 0 ∧ t = true ∧ ∃ k m, Live w b X k m ∧ shut m k = R) ∨ (r = 0 ∧ t = false ∧ ∃ k m f, Live w b X k m ∧ unqE (bs b) f k m = R ∧ b.size - k < f))

theorem live_step {w : World} {b : ByteArray} {X Y : World} {k' : Nat} {v : Value} {m' : List Nat} {t : Bool} {en : Ending} (hb : Below w.heap.size w X) (hg : w.heap.size < X.heap.size) (hv : ∀ x, v.ownBlock = some x → w.heap.size ≤ x)
    (h : TurnPost X w.heap.size b v k' m' t 0 en Y) (hk : k' ≤ b.size) (hm : ∀ x ∈ m', x < 256) (hl : m'.length ≤ 4 * k') : Live w b Y k' m' := by
  obtain ⟨_, h2, h3⟩ := h
  obtain ⟨v', h1, h4⟩ := h3 rfl
  refine ⟨v', h1, fun x e => ?_, hk, hm, hl⟩
  rcases h4 with e1 | ⟨k, e1, hk⟩
  · exact hv x (by rw [← e1]; exact e)
  · rw [e1] at e; injection e with e; omega
theorem below_turn {w : World} {b : ByteArray} {X Y : World} {k' : Nat} {v : Value} {m' : List Nat} {t : Bool} {r : Int} {en : Ending} (hb : Below w.heap.size w X) (hv : ∀ x, v.ownBlock = some x → w.heap.size ≤ x)
    (h : TurnPost X w.heap.size b v k' m' t r en Y) : Below w.heap.size w Y :=
  hb.trans (h.2.1.below (fun b hb e => by
    rcases e with e | e
    · omega
    · have := hv b e; omega) hb.size)

set_option maxHeartbeats 4000000 in
theorem unquote_in (b : ByteArray) (A : Nat) (w : World) (hs : b.size ≤ 10000) (hA : A < b.size) (hq : (bs b).getD A 0 = 34) (R : List Nat × Nat × Int) (hR : unqE (bs b) (b.size + 1) (A + 1) [] = R) :
    Calls Try.prog 13 #[.string b, .int .i64 (A : Int)] w fun e w' => e = .returned (.tuple #[.string (strOf R.1), .int .i64 (R.2.1 : Int), .int .i64 R.2.2]) ∧ Below w.heap.size w w' := by
  have hb0 : (b[A]'hA).toNat = 34 := by rw [bs_get]; exact hq
  have n1 : decide ((A : Int) < 0) = false := decide_eq_false (by omega)
  have n2 : decide (b.size < A) = false := decide_eq_false (by omega)
  have n3 : ((A : Int) == (b.size : Int)) = false := beq_eq_false_iff_ne.mpr (by omega)
  have n4 : IntKind.i64.wrap ((A : Int) + 1) = (A : Int) + 1 := IntWalk.i64_in _ ⟨by omega, by omega⟩
  have h0 : Hid (Rdr (w.alloc (.cells #[.string b, .int .i64 ((A : Int) + 1), .slice none 0 0] 41)) w.heap.size b (A + 1) (.slice none 0 0) []) := ⟨Whole.new w _ _, Own8.nil_ _ _, by simp [Value.ownBlock]⟩
  have Hv : Hid (∀ (W : World) (m : List Nat), (∀ x ∈ m, x < 256) → m.length ≤ 40000 → Calls Try.prog 7 #[.string (strOf m)] W fun e w' => e = .returned (.bool (val m (m.length + 1) 0)) ∧ W = w') := fun W m hm hl => valid_any (strOf m) W (by rw [strOf_size]; omega) _ (m.length + 1) (by rw [strOf_size]; omega) (by rw [bs_strOf m hm])
  have Ht : Hid (∀ (X : World) (k : Nat) (v : Value) (m : List Nat), Rdr X w.heap.size b k v m → k ≤ b.size → m.length ≤ 4 * k → Calls Try.prog 19 #[.pointer (some ⟨w.heap.size, 0, none⟩)] X (TurnPost X w.heap.size b v (stpE (bs b) k).2.2.1 (m ++ (stpE (bs b) k).2.1) (stpE (bs b) k).1 (stpE (bs b) k).2.2.2)) :=
    fun X k v m hR hk hl => turn_gen w.heap.size b k v m X hR (by omega) (by omega) hk
  have Hlen := Lib.hid (bs_length b)
  have HRr := Lib.hid hR
  have HA := Lib.hid hA
  have Hs := Lib.hid hs
  clear hq hR hs
  go_enter Try.func13, Try.ntmps13
  go_wp2_with fail
  go_loopw [8, 6] (fun d e X => UAt w b R X d e) (fun _ e X => if intOf e = 0 then b.size + 2 - posOf w.heap.size X else 0)
  case atStart => exact ⟨false, 0, rfl, rfl, (Below.refl _ _).alloc (Nat.le_refl _) _, .inr (.inr ⟨rfl, rfl, A + 1, [], b.size + 1, ⟨_, h0.out, by simp [Value.ownBlock], HA.out, by simp, by simp⟩, HRr.out, by omega⟩)⟩
  case round =>
    obtain ⟨t, r, rfl, rfl, hbl, hcase⟩ := hrel
    have HB := Lib.hid hbl
    rcases hcase with ⟨hr, rfl⟩ | ⟨rfl, rfl, k, m, ⟨v, hRd, hvo, hk, hm, hl⟩, hsh⟩ | ⟨rfl, rfl, k, m, f, ⟨v, hRd, hvo, hk, hm, hl⟩, hun, hf⟩
    · have q1 : (r == 0) = false := beq_eq_false_iff_ne.mpr hr
      clear hr hbl
      cases t
      all_goals
        go_wp2_with fail
        go_ret3
        exact ⟨rfl, HB.out⟩
    · have hst := fun n => str_own (w := wr.drewN n) hRd.2.1 hm
      have hst0 : (convert 37 9 v).run Try.prog wr = .ok (.string (strOf m)) wr := str_own hRd.2.1 hm
      have c1 : wr.cell? ⟨w.heap.size, 1, none⟩ = some (.int .i64 (k : Int)) := hRd.1.cell 1
      have c2 : wr.cell? ⟨w.heap.size, 2, none⟩ = some v := hRd.1.cell 2
      have hv1 := Lib.hid (Hv.out wr m hm (by have := Hs.out; omega))
      have Hsh := Lib.hid hsh
      clear hbl hRd hvo hk hm hl hsh Ht Hv
      unfold shut at Hsh
      cases hval : val m (m.length + 1) 0
      · have e : (([], 0, 3) : List Nat × Nat × Int) = R := by have := Hsh.out; rwa [hval, if_neg (by decide)] at this
        subst e
        have Hval := Lib.hid hval
        clear hval Hsh
        go_wp2_with fail
        refine hv1.out.mono ?_
        rintro e W3 ⟨rfl, rfl⟩
        rw [Hval.out]
        go_wp2_with fail
        go_ret3
        exact ⟨rfl, HB.out⟩
      · have e : ((m, k, 0) : List Nat × Nat × Int) = R := by have := Hsh.out; rwa [hval, if_pos rfl] at this
        subst e
        have Hval := Lib.hid hval
        clear hval Hsh
        go_wp2_with fail
        refine hv1.out.mono ?_
        rintro e W3 ⟨rfl, rfl⟩
        rw [Hval.out]
        go_wp2_with fail
        go_quiet (fail)
        go_wp2_with fail
        go_ret3
        exact ⟨rfl, below_drawn HB.out _⟩
    · obtain ⟨f, rfl⟩ : ∃ f', f = f' + 1 := ⟨f - 1, by omega⟩
      rw [unqE_step] at hun
      have hp := Ht.out wr k v m hRd hk hl
      have hpos := hRd.pos
      have hgl := hRd.1.lt
      have he1 := stpE_pos (bs b) k
      have he2 := stpE_end (bs b) k (bs_lt b) (by rw [bs_length]; exact hk)
      generalize stpE (bs b) k = S at *
      obtain ⟨t, bb, k', r⟩ := S
      simp only at hp hun he1 he2
      have Hp := Lib.hid hp
      have Hvo := Lib.hid hvo
      have Hpos := Lib.hid hpos
      have Hk := Lib.hid hk
      have Hgl := Lib.hid hgl
      have Hun := Lib.hid hun
      have H1 := Lib.hid he1
      have H2 := Lib.hid he2
      have Hm := Lib.hid hm
      have Hl := Lib.hid hl
      have Hf := Lib.hid hf
      clear hp hvo hpos hk hgl hun he1 he2 hm hl hf hRd hbl Ht Hv
      go_wp2_with fail
      refine Hp.out.mono ?_
      rintro e Y hT
      have e0 := hT.1
      subst e0
      have HT := Lib.hid hT
      have HBY := Lib.hid (below_turn HB.out Hvo.out hT)
      clear hT Hp
      go_wp2_with fail
      go_roundw
      case rel =>
        refine ⟨t, r, rfl, rfl, HBY.out, ?_⟩
        by_cases hr : r = 0
        · subst hr
          have hun := Hun.out
          rw [if_pos rfl] at hun
          obtain ⟨p1, p2⟩ := H1.out rfl
          obtain ⟨p3, p4⟩ := H2.out rfl
          have hsz : (bs b).length = b.size := bs_length b
          have hL : Live w b Y k' (m ++ bb) := live_step HB.out Hgl.out Hvo.out HT.out (by omega) (fun x hx => by
            rcases List.mem_append.1 hx with h | h
            · exact Hm.out x h
            · exact p4 x h) (by rw [List.length_append]; have := Hl.out; omega)
          cases t
          · rw [if_neg (by decide)] at hun
            exact .inr (.inr ⟨rfl, rfl, k', m ++ bb, f, hL, hun, by have := Hf.out; omega⟩)
          · rw [if_pos rfl] at hun
            exact .inr (.inl ⟨rfl, rfl, k', m ++ bb, hL, hun⟩)
        · have hun := Hun.out
          rw [if_neg hr] at hun
          exact .inl ⟨hr, hun.symm⟩
      case measure =>
        have a1 := Hpos.out
        have a2 := Hk.out
        by_cases hr : r = 0
        · subst hr
          obtain ⟨v', h1, _⟩ := HT.out.2.2 rfl
          have a3 := h1.pos
          have a4 := (H1.out rfl).1
          simp [intOf, a1, a3]
          omega
        · simp [intOf, a1, hr]
          omega
end Go.Proofs.Ytdaipnlgloafdaa
