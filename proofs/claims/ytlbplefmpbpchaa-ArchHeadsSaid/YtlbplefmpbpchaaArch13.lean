/- Layer 13: two headers that are the same. -/
import Derived.Test.YtlbplefmpbpchaaArch7
import Derived.Laws.StructEq
import Derived.ChangeKeysEq
namespace Go.Proofs.Ytlbplefmpbpchaa
open Go.RowKit
set_option linter.unusedVariables false
set_option maxRecDepth 100000

theorem eqFields_same {P : Program} {d : Nat} {xs : Array Value} {w : World} : ∀ (fs : List Field), (∀ f ∈ fs, ∃ v, (part f.type xs f.offset).run P w = .ok v w ∧ (Op.equalIn d f.type v v).run P w = .ok true w) → (Op.eqFields d xs xs fs).run P w = .ok true w
  | [], _ => by simp [Op.eqFields]
  | f :: fs, h => by
    have ih := eqFields_same fs (fun g hg => h g (List.mem_cons_of_mem _ hg))
    obtain ⟨v, h1, h2⟩ := h f (List.mem_cons_self ..)
    unfold Op.eqFields
    split
    · simp [h1, h2, ih]
    · exact ih
theorem fields_hd : ((Try.prog.fieldsOf 29).toList.all fun f => [(24, 0), (24, 2), (24, 4), (24, 6), (25, 8), (4, 11), (3, 12), (3, 13), (3, 14), (3, 15), (3, 16), (27, 17), (27, 19), (27, 21), (3, 23)].contains (f.type, f.offset)) = true := by kernel_rfl
theorem eq_int (d : Nat) (x : Int) (w : World) : (Op.equalIn (d + 1) 3 (.int .i64 x) (.int .i64 x)).run Try.prog w = .ok true w := by
  rw [run_equalIn_int w d 3 .i64 .i64 x x Try.underlying3, beq_self_eq_true]
theorem eq_u64 (d : Nat) (x : Int) (w : World) : (Op.equalIn (d + 1) 23 (.int .u64 x) (.int .u64 x)).run Try.prog w = .ok true w := by
  rw [run_equalIn_int w d 23 .u64 .u64 x x Try.underlying23, beq_self_eq_true]
theorem eq_bool (d : Nat) (x : Bool) (w : World) : (Op.equalIn (d + 1) 4 (.bool x) (.bool x)).run Try.prog w = .ok true w := by
  rw [run_equalIn_bool' w d 4 x x Try.underlying4, beq_self_eq_true]
theorem fields_pt : ((Try.prog.fieldsOf 27).toList.all fun f => [(3, 0), (3, 1)].contains (f.type, f.offset)) = true := by kernel_rfl
theorem eq_pt (d : Nat) (x y : Int) (w : World) : (Op.equalIn (d + 2) 27 (.agg #[.int .i64 x, .int .i64 y]) (.agg #[.int .i64 x, .int .i64 y])).run Try.prog w = .ok true w := by
  rw [run_equalIn_struct w (d + 1) 27 _ _ (by kernel_rfl) (by kernel_rfl)]
  refine eqFields_same _ fun f hf => ?_
  have := List.all_eq_true.1 fields_pt f hf
  generalize f.type = t at this ⊢
  generalize f.offset = o at this ⊢
  simp at this
  rcases this with ⟨rfl, rfl⟩ | ⟨rfl, rfl⟩
  · exact ⟨.int .i64 x, rfl, eq_int d x w⟩
  · exact ⟨.int .i64 y, rfl, eq_int d y w⟩
theorem eqItems_same {P : Program} {d : Nat} {e : TypeId} {n : Nat} {xs : Array Value} {w : World} : ∀ (is : List Nat), (∀ j ∈ is, ∃ v, (part e xs (j * n)).run P w = .ok v w ∧ (Op.equalIn d e v v).run P w = .ok true w) → (Op.eqItems d e n xs xs is).run P w = .ok true w
  | [], _ => by simp [Op.eqItems]
  | j :: is, h => by
    have ih := eqItems_same is (fun g hg => h g (List.mem_cons_of_mem _ hg))
    obtain ⟨v, h1, h2⟩ := h j (List.mem_cons_self ..)
    unfold Op.eqItems
    simp [h1, h2, ih]
theorem u64_i : ∃ i, Try.prog.info? 23 = some i := by
  have h : (Try.prog.info? 23).isSome = true := by kernel_rfl
  exact Option.isSome_iff_exists.1 h
theorem u64_cells : Try.prog.cellsOf 23 = 1 := by kernel_rfl
theorem eq_arr2 (d : Nat) (x y : Int) (w : World) : (Op.equalIn (d + 2) 24 (.agg #[.int .u64 x, .int .u64 y]) (.agg #[.int .u64 x, .int .u64 y])).run Try.prog w = .ok true w := by
  obtain ⟨i, hi⟩ := u64_i
  rw [run_equalIn_array w (d + 1) _ _ Try.underlying24 hi, u64_cells]
  refine eqItems_same _ fun j hj => ?_
  have hj2 : j = 0 ∨ j = 1 := by have := List.mem_range.1 hj; omega
  rcases hj2 with rfl | rfl
  · exact ⟨.int .u64 x, rfl, eq_u64 d x w⟩
  · exact ⟨.int .u64 y, rfl, eq_u64 d y w⟩
theorem eq_arr3 (d : Nat) (x y z : Int) (w : World) : (Op.equalIn (d + 2) 25 (.agg #[.int .u64 x, .int .u64 y, .int .u64 z]) (.agg #[.int .u64 x, .int .u64 y, .int .u64 z])).run Try.prog w = .ok true w := by
  obtain ⟨i, hi⟩ := u64_i
  rw [run_equalIn_array w (d + 1) _ _ Try.underlying25 hi, u64_cells]
  refine eqItems_same _ fun j hj => ?_
  have hj2 : j = 0 ∨ j = 1 ∨ j = 2 := by have := List.mem_range.1 hj; omega
  rcases hj2 with rfl | rfl | rfl
  · exact ⟨.int .u64 x, rfl, eq_u64 d x w⟩
  · exact ⟨.int .u64 y, rfl, eq_u64 d y w⟩
  · exact ⟨.int .u64 z, rfl, eq_u64 d z w⟩
theorem eq_hd (h : Hd) (w : World) : (Op.equalIn 10000 29 (.agg h.cells) (.agg h.cells)).run Try.prog w = .ok true w := by
  rw [run_equalIn_struct w 9999 29 _ _ (by kernel_rfl) (by kernel_rfl)]
  refine eqFields_same _ fun f hf => ?_
  have := List.all_eq_true.1 fields_hd f hf
  generalize f.type = t at this ⊢
  generalize f.offset = o at this ⊢
  simp at this
  rcases this with ⟨rfl, rfl⟩ | ⟨rfl, rfl⟩ | ⟨rfl, rfl⟩ | ⟨rfl, rfl⟩ | ⟨rfl, rfl⟩ | ⟨rfl, rfl⟩ | ⟨rfl, rfl⟩ | ⟨rfl, rfl⟩ | ⟨rfl, rfl⟩ | ⟨rfl, rfl⟩ | ⟨rfl, rfl⟩ | ⟨rfl, rfl⟩ | ⟨rfl, rfl⟩ | ⟨rfl, rfl⟩ | ⟨rfl, rfl⟩
  · exact ⟨.agg #[.int .u64 (h.r0 : Int), .int .u64 (h.r1 : Int)], rfl, eq_arr2 9997 _ _ w⟩
  · exact ⟨.agg #[.int .u64 (h.m0 : Int), .int .u64 (h.m1 : Int)], rfl, eq_arr2 9997 _ _ w⟩
  · exact ⟨.agg #[.int .u64 (h.l0 : Int), .int .u64 (h.l1 : Int)], rfl, eq_arr2 9997 _ _ w⟩
  · exact ⟨.agg #[.int .u64 (h.d0 : Int), .int .u64 (h.d1 : Int)], rfl, eq_arr2 9997 _ _ w⟩
  · exact ⟨.agg #[.int .u64 (h.c0 : Int), .int .u64 (h.c1 : Int), .int .u64 (h.c2 : Int)], rfl, eq_arr3 9997 _ _ _ w⟩
  · exact ⟨.bool h.cl, rfl, eq_bool 9998 _ w⟩
  · exact ⟨.int .i64 h.inn, rfl, eq_int 9998 _ w⟩
  · exact ⟨.int .i64 h.out, rfl, eq_int 9998 _ w⟩
  · exact ⟨.int .i64 h.kind, rfl, eq_int 9998 _ w⟩
  · exact ⟨.int .i64 h.zmin, rfl, eq_int 9998 _ w⟩
  · exact ⟨.int .i64 h.zmax, rfl, eq_int 9998 _ w⟩
  · exact ⟨.agg #[.int .i64 h.x0, .int .i64 h.y0], rfl, eq_pt 9997 _ _ w⟩
  · exact ⟨.agg #[.int .i64 h.x1, .int .i64 h.y1], rfl, eq_pt 9997 _ _ w⟩
  · exact ⟨.agg #[.int .i64 h.cx, .int .i64 h.cy], rfl, eq_pt 9997 _ _ w⟩
  · exact ⟨.int .i64 h.mid, rfl, eq_int 9998 _ w⟩
/-- Two headers compared, in a region. -/
theorem exec_eql_hd {a : Act} {o : Oper} {x y : Operand} {t : TypeId} (h : Hd) (w : World) (ho : o.op = .binOp .eql 29 x y t) (hx : a.eval x = .agg h.cells) (hy : a.eval y = .agg h.cells) : (execOp a.eval o).run Try.prog w = .ok (.value (.bool true)) w := by
  unfold execOp
  simp only [ho, hx, hy, Sem.run_bind, run_eqGuard_agg (P := Try.prog) w .eql 29 x y h.cells h.cells (by kernel_rfl), Result.andThen_ok, run_eql_struct, eq_hd, Sem.run_pure]
/-- A header's load, in a region. -/
theorem exec_load_hd {a : Act} {o : Oper} {x : Operand} {g : Nat} (h : Hd) (w : World) (ho : o.op = .load 29 x) (hx : a.eval x = .pointer (some ⟨g, 0, none⟩)) (hW : Whole w g 29 h.cells) : (execOp a.eval o).run Try.prog w = .ok (.value (.agg h.cells)) w := by
  unfold execOp
  simp only [ho, hx, Instr.loadAt, Instr.sureAddr, Sem.run_bind, Sem.run_pure, Result.andThen_ok, run_loadVar_row w g 29 29 h.cells (0, 0) _ hW Try.underlying29 rfl (hd_infoc h)]
end Go.Proofs.Ytlbplefmpbpchaa
