/- Rows of fields of the call's own. -/
import Derived.Test.YtdifojeghplpeaaDoorFieldAll
namespace Go.Proofs.YtdifojeghplpeaaDoor
open Go.RowKit Var
set_option linter.unusedVariables false
set_option maxRecDepth 100000

theorem fldinfo : (Tryd.prog.info? 43).map (fun i => (i.zero, i.size, i.bytes)) = some (some (.agg #[.int .i64 0, .int .i64 0, .int .u64 0, .slice none 0 0]), 4, 48) := by kernel_rfl

/-- The bytes of a field: none of them lies in the block 'own'. -/
def DataAt (w : World) (own : Option Nat) (a : Option Addr) (d : List Nat) : Prop :=
  d = [] ∨ ∃ b off, a = some ⟨b, off, none⟩ ∧ b < w.heap.size ∧ own ≠ some b ∧ ∀ i, i < d.length → w.cell? ⟨b, off + i, none⟩ = some (.int .u8 ((d.getD i 0 : Nat) : Int))
theorem DataAt.nums {w : World} {own : Option Nat} {a : Option Addr} {d : List Nat} (h : DataAt w own a d) : Nums .u8 w w.heap.size a d := fun hl => by
  rcases h with rfl | ⟨b, off, rfl, hb, _, hc⟩
  · simp at hl
  · exact ⟨b, off, rfl, hb, hc⟩
theorem DataAt.only {S : Nat → Prop} {w w' : World} {own own' : Option Nat} {a : Option Addr} {d : List Nat} (h : DataAt w own a d) (ho : Only S w w') (hS : ∀ b, S b → own = some b) (hn : ∀ b, b < w.heap.size → own ≠ some b → own' ≠ some b) : DataAt w' own' a d := by
  rcases h with rfl | ⟨b, off, rfl, hb, hk, hc⟩
  · exact .inl rfl
  · exact .inr ⟨b, off, rfl, Nat.lt_of_lt_of_le hb ho.size, hn b hb hk, fun i hi => (ho.cell (p := ⟨b, off + i, none⟩) hb (fun e => hk (hS b e))).trans (hc i hi)⟩
theorem DataAt.of_nums {w : World} {B : Nat} {own : Option Nat} {a : Option Addr} {d : List Nat} (h : Nums .u8 w B a d) (hB : B ≤ w.heap.size) (hn : ∀ x, a = some x → x.block < B → own ≠ some x.block) : DataAt w own a d := by
  rcases Nat.eq_zero_or_pos d.length with h0 | h0
  · exact .inl (List.eq_nil_of_length_eq_zero h0)
  · obtain ⟨b, off, rfl, hb, hc⟩ := h h0
    exact .inr ⟨b, off, rfl, by omega, hn _ rfl hb, hc⟩

/-- The cells xs are the fields fs, one behind the other. -/
def FRow (w : World) (own : Option Nat) (fs : List F) (xs : List Value) : Prop :=
  ∀ i (h : i < fs.length), ∃ a c, xs[4 * i]? = some (.int .i64 (fs[i].num : Int)) ∧ xs[4 * i + 1]? = some (.int .i64 (fs[i].kind : Int)) ∧ xs[4 * i + 2]? = some (.int .u64 (fs[i].int : Int)) ∧ xs[4 * i + 3]? = some (.slice a fs[i].data.length c) ∧ DataAt w own a fs[i].data
/-- v is a row of fields of the call's own, and reads as fs. -/
def OwnF (w : World) (base : Nat) (v : Value) (fs : List F) : Prop := ∃ xs, w.ownsRow base 43 4 v fs.length xs ∧ FRow w v.ownBlock fs xs

theorem OwnF.nil_ (w : World) (base : Nat) : OwnF w base (.slice none 0 0) [] := ⟨[], ⟨rfl, .inl ⟨rfl, rfl⟩⟩, fun i h => by simp at h⟩
theorem OwnF.lt {w : World} {base : Nat} {v : Value} {fs : List F} (h : OwnF w base v fs) : ∀ k, v.ownBlock = some k → base ≤ k ∧ k < w.heap.size := fun k hk => by
  obtain ⟨xs, h1, _⟩ := h
  exact World.ownsRow.lt h1 k hk
theorem OwnF.only {S : Nat → Prop} {w w' : World} {base : Nat} {v : Value} {fs : List F} (h : OwnF w base v fs) (ho : Only S w w') (hn : ∀ b, b < w.heap.size → ¬ S b) : OwnF w' base v fs := by
  obtain ⟨xs, h1, h2⟩ := h
  refine ⟨xs, own_only h1 ho (fun b hb => hn b (World.ownsRow.lt h1 b hb).2), fun i hi => ?_⟩
  obtain ⟨a, c, e0, e1, e2, e3, hd⟩ := h2 i hi
  refine ⟨a, c, e0, e1, e2, e3, ?_⟩
  rcases hd with e | ⟨b, off, e, hb, hk, hc⟩
  · exact .inl e
  · exact .inr ⟨b, off, e, Nat.lt_of_lt_of_le hb ho.size, hk, fun j hj => (ho.cell (p := ⟨b, off + j, none⟩) hb (hn b hb)).trans (hc j hj)⟩
theorem OwnF.below {w w' : World} {base : Nat} {v : Value} {fs : List F} (h : OwnF w base v fs) (hb : Below w.heap.size w w') : OwnF w' base v fs :=
  h.only (Only.of_below hb (fun _ => False)) (fun _ _ h => h)
theorem OwnF.len {w : World} {base : Nat} {v : Value} {fs : List F} (h : OwnF w base v fs) : ∃ a c, v = .slice a fs.length c ∧ fs.length ≤ c := by
  obtain ⟨xs, h1, h2⟩ := h
  obtain ⟨a, c, rfl, h3, _⟩ := Vals.of_own h1
  exact ⟨a, c, rfl, h3⟩

structure GoneF (w : World) (base : Nat) (v : Value) (l : List F) (v' : Value) (w' : World) : Prop where
  own : OwnF w' base v' l
  only : Only (fun k => v.ownBlock = some k) w w'
  at_ : v'.ownBlock = v.ownBlock ∨ ∃ k, v'.ownBlock = some k ∧ w.heap.size ≤ k
theorem GoneF.refl {w : World} {base : Nat} {v : Value} {l : List F} (h : OwnF w base v l) : GoneF w base v l v w := ⟨h, Only.refl _ _, .inl rfl⟩
theorem GoneF.trans {w w1 w2 : World} {base : Nat} {v v1 v2 : Value} {l m : List F} (h : GoneF w base v l v1 w1) (k : GoneF w1 base v1 m v2 w2) : GoneF w base v m v2 w2 := by
  refine ⟨k.own, h.only.trans k.only ?_, ?_⟩
  · intro b hb e
    rcases h.at_ with h1 | ⟨j, h1, h2⟩
    · rw [← h1]; exact e
    · rw [h1] at e; injection e with e; omega
  · rcases k.at_ with e | ⟨j, e, hj⟩
    · rcases h.at_ with h1 | ⟨j, h1, h2⟩
      · exact .inl (by rw [e, h1])
      · exact .inr ⟨j, by rw [e, h1], h2⟩
    · exact .inr ⟨j, e, Nat.le_trans h.only.size hj⟩
theorem GoneF.of_below {w w1 : World} {base : Nat} {v : Value} {l : List F} (h : OwnF w base v l) (hb : Below w.heap.size w w1) : GoneF w base v l v w1 := ⟨h.below hb, Only.of_below hb _, .inl rfl⟩
theorem GoneF.below {w w' : World} {base : Nat} {v v' : Value} {l m : List F} (h : GoneF w base v l v' w') (hown : OwnF w base v m) (hB : base ≤ w.heap.size) : Below base w w' :=
  h.only.below (fun b hb e => by have := (hown.lt b e).1; omega) hB

theorem FRow.snoc {w : World} {own : Option Nat} {fs : List F} {xs : List Value} (h : FRow w own fs xs) (hl : xs.length = fs.length * 4) (f : F) (a : Option Addr) (c : Nat) (hd : DataAt w own a f.data) :
    FRow w own (fs ++ [f]) (xs ++ [.int .i64 (f.num : Int), .int .i64 (f.kind : Int), .int .u64 (f.int : Int), .slice a f.data.length c]) := fun i hi => by
  by_cases hlt : i < fs.length
  · obtain ⟨a', c', e0, e1, e2, e3, hd'⟩ := h i hlt
    have hg : (fs ++ [f])[i] = fs[i] := by simp [List.getElem_append, hlt]
    rw [hg]
    refine ⟨a', c', ?_, ?_, ?_, ?_, hd'⟩
    · rw [List.getElem?_append_left (by omega)]; exact e0
    · rw [List.getElem?_append_left (by omega)]; exact e1
    · rw [List.getElem?_append_left (by omega)]; exact e2
    · rw [List.getElem?_append_left (by omega)]; exact e3
  · have hi' : i = fs.length := by simp at hi; omega
    subst hi'
    have hg : (fs ++ [f])[fs.length] = f := by simp
    rw [hg]
    have e : xs.length = 4 * fs.length := by omega
    refine ⟨a, c, ?_, ?_, ?_, ?_, hd⟩
    · rw [← e, List.getElem?_append_right (by omega)]; simp
    · rw [← e, List.getElem?_append_right (by omega)]; simp
    · rw [← e, List.getElem?_append_right (by omega)]; simp
    · rw [← e, List.getElem?_append_right (by omega)]; simp

/-- append(s, f) of one field that was just laid into a block of its own. -/
theorem app_f {w : World} {ops : Array Oper} {rest : List Oper} {o : Oper} {a : Act} {Q : Exit → Act → World → Prop} (hgd : o.guard = none) (s x : Operand)
    (ho : o.op = .call { callee := .builtin .append, args := #[s, x], argTypes := #[46, 46] }) (base : Nat) (v : Value) (fs : List F) (hs : a.eval s = v) (hown : OwnF w base v fs)
    (f : F) (ad : Option Addr) (cc c gg : Nat) (hgg : gg = w.heap.size) (hx : a.eval x = .slice (some ⟨gg, 0, none⟩) 1 c) (hd : DataAt w v.ownBlock ad f.data) (hl : fs.length ≤ 1000000) (hbase : base ≤ w.heap.size)
    (h : ∀ v' w', GoneF w base v (fs ++ [f]) v' w' → wpList Tryd.prog ops Q rest (a.put o.dst v') w') :
    wpList Tryd.prog ops Q (o :: rest) a (w.alloc (.cells #[.int .i64 (f.num : Int), .int .i64 (f.kind : Int), .int .u64 (f.int : Int), .slice ad f.data.length cc] 43)) := by
  obtain ⟨i0, hi0, hz0, hz1, hz2⟩ := info_parts fldinfo
  subst hgg
  obtain ⟨xs, h1, h2⟩ := hown
  refine app_vals hgd s x 46 ho base 43 i0 _ 4 48 Tryd.underlying46 hi0 hz0 hz1 hz2 rfl (by omega) v fs.length xs hs (h1.alloc _) (w.heap.size + 1) _ 1 c
    [.int .i64 (f.num : Int), .int .i64 (f.kind : Int), .int .u64 (f.int : Int), .slice ad f.data.length cc] hx
    ((Vals.of_block (n := 1) (size := 4) (xs := [.int .i64 (f.num : Int), .int .i64 (f.kind : Int), .int .u64 (f.int : Int), .slice ad f.data.length cc]) (heap_alloc_new w _) rfl).more (by simp)) (by simp [Value.oneCell']) (by unfold maxLen; omega) (by omega) (by simp; omega) ?_
  intro v' w' h3 h4 h5
  have hO : Only (fun k => v.ownBlock = some k) w w' := ((Only.refl _ w).alloc _).trans (Only.of_grown h4 (fun b e => e)) (fun _ _ e => e)
  have hat : v'.ownBlock = v.ownBlock ∨ ∃ k, v'.ownBlock = some k ∧ w.heap.size ≤ k := by
    rcases h5 with h5 | h5
    · exact .inl h5
    · exact .inr ⟨_, h5, by simp⟩
  have hn : ∀ b, b < w.heap.size → v.ownBlock ≠ some b → v'.ownBlock ≠ some b := fun b hb hk => by
    rcases hat with e | ⟨k, e, hk'⟩
    · rw [e]; exact hk
    · rw [e]; intro e'; injection e' with e'; omega
  refine h v' w' ⟨⟨_, by simpa using h3, ?_⟩, hO, hat⟩
  refine FRow.snoc (fun i hi => ?_) h1.1 f ad cc (hd.only hO (fun b e => e) hn)
  obtain ⟨a', c', e0, e1, e2, e3, hd'⟩ := h2 i hi
  exact ⟨a', c', e0, e1, e2, e3, hd'.only hO (fun b e => e) hn⟩
end Go.Proofs.YtdifojeghplpeaaDoor
