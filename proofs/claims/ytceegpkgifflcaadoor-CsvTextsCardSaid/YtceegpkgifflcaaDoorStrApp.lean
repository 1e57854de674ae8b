/- append of a string's bytes onto a row of the call's own. -/
import Derived.Test.YtceegpkgifflcaaDoorU8
import Derived.Test.YtceegpkgifflcaaDoorBs
import Derived.Lib.AppendStr
import Derived.Deep.AppendLies
namespace Go.Proofs.YtceegpkgifflcaaDoor
open Go.RowKit Go.Lib
set_option linter.unusedVariables false
set_option maxRecDepth 100000

theorem strCells_bs (s : ByteArray) : strCells s = u8s (bs s) := by simp [strCells, u8s, bs]
theorem own8_app_str {w : World} (t u ty : TypeId) (ht : Tryd.prog.underlying t = some (.slice 5)) (hu : Tryd.prog.underlying u = some .string) (base : Nat) (v : Value) (l : List Nat) (hown : Own8 w base v l) (s : ByteArray)
    (hl : l.length + s.size ≤ 1000000000000) (hB : base ≤ w.heap.size) :
    ∃ v' w', (Builtin.append_ #[t, u] ty #[v, .string s]).run Tryd.prog w = .ok v' w' ∧ Own8 w' base v' (l ++ bs s) ∧ w.grownBy w' v.ownBlock := by
  obtain ⟨i0, hi0, hz0, hz1, hz2⟩ := info_parts u8info
  obtain ⟨v', w', h1, h2, h3, _⟩ := run_append_own_string (P := Tryd.prog) (w := w) base t u ty 5 i0 ht hu hi0 hz0 hz1 hz2 v l.length (u8s l) hown s (by unfold maxLen; omega) (by omega) hB
  refine ⟨v', w', h1, ?_, h3⟩
  unfold Own8
  rw [List.length_append, bs_length, u8s_append, ← strCells_bs]
  exact h2
section
variable {w : World} {ops : Array Oper} {rest : List Oper} {o : Oper} {a : Act} {Q : Exit → Act → World → Prop}
/-- The same within a region that draws. -/
theorem step_append_str {K : Act → World → Prop} {E : Prop} (hgd : o.guard = none) (s x : Operand) (t u : TypeId)
    (ho : o.op = .call { callee := .builtin .append, args := #[s, x], argTypes := #[t, u] }) (ht : Tryd.prog.underlying t = some (.slice 5)) (hu : Tryd.prog.underlying u = some .string)
    (base : Nat) (v : Value) (l : List Nat) (hs : a.eval s = v) (hown : Own8 w base v l) (str : ByteArray) (hx : a.eval x = .string str)
    (hl : l.length + str.size ≤ 1000000000000) (hB : base ≤ w.heap.size)
    (h : ∀ v' w', Own8 w' base v' (l ++ bs str) → w.grownBy w' v.ownBlock → K (a.put o.dst v') w') :
    if Region.wanted o (yielded ops a.tmps) = true then Oper.wp Tryd.prog o a w K Q else E := by
  have hw : Region.wanted o (yielded ops a.tmps) = true := by simp [Region.wanted, hgd]
  rw [if_pos hw]
  obtain ⟨v', w', hrun, h2, h3⟩ := own8_app_str (w := w) t u o.type ht hu base v l hown str hl hB
  unfold Oper.wp execOp
  simp only [ho, resolve, invoke, builtin, Sem.run_bind, Sem.run_pure, Result.andThen_ok, List.map_toArray, List.map_cons, List.map_nil, hs, hx, hrun]
  exact h _ _ h2 h3
/-- In a plain region. -/
theorem app_str (hgd : o.guard = none) (s x : Operand) (t u : TypeId)
    (ho : o.op = .call { callee := .builtin .append, args := #[s, x], argTypes := #[t, u] }) (ht : Tryd.prog.underlying t = some (.slice 5)) (hu : Tryd.prog.underlying u = some .string)
    (base : Nat) (v : Value) (l : List Nat) (hs : a.eval s = v) (hown : Own8 w base v l) (str : ByteArray) (hx : a.eval x = .string str)
    (hl : l.length + str.size ≤ 1000000000000) (hB : base ≤ w.heap.size)
    (h : ∀ v' w', Own8 w' base v' (l ++ bs str) → w.grownBy w' v.ownBlock → wpList Tryd.prog ops Q rest (a.put o.dst v') w') :
    wpList Tryd.prog ops Q (o :: rest) a w := by
  refine wpList_plain hgd fun K hK => ?_
  obtain ⟨v', w', hrun, h2, h3⟩ := own8_app_str (w := w) t u o.type ht hu base v l hown str hl hB
  unfold Oper.wp execOp
  simp only [ho, resolve, invoke, builtin, Sem.run_bind, Sem.run_pure, Result.andThen_ok, List.map_toArray, List.map_cons, List.map_nil, hs, hx, hrun]
  exact hK _ _ (h _ _ h2 h3)
end
theorem Own8.grown {w w' : World} {base : Nat} {v : Value} {l : List Nat} (h : Own8 w base v l) (hg : w.grownBy w' v.ownBlock) : Only (fun b => v.ownBlock = some b) w w' := Only.of_grown hg (fun b e => e)
theorem Own8.str {w : World} {base : Nat} {v : Value} {l : List Nat} (h : Own8 w base v l) (hl : ∀ x ∈ l, x < 256) :
    (convert 32 9 v).run Tryd.prog w = .ok (.string (strOf l)) w := by
  obtain ⟨a, c, rfl, h1, h2, h3, h4⟩ := h.nums
  exact str_of_nums w w.heap.size 32 9 5 a c l Tryd.underlying32 Tryd.underlying5 Tryd.underlying9 h4 hl
end Go.Proofs.YtceegpkgifflcaaDoor
