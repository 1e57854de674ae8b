/- InfB -/
import Derived.Test.YtngnhkghpnamoaaInfA
import Derived.Test.YtngnhkghpnamoaaGc19
import Derived.Defers
import Derived.Recover
import Derived.Laws.Pointers
namespace Go.Proofs.Ytngnhkghpnamoaa
open Go.RowKit Huff Bit
set_option linter.unusedVariables false
set_option maxRecDepth 100000

theorem errno_yes4 (W : World) (v : Value) : (Instr.typeAssert (.iface 24 v) 20 24 true).run Try.prog W = .ok (.tuple #[v, .bool true]) W := by kernel_rfl
set_option maxHeartbeats 4000000 in
theorem all_panicking (p q r : Addr) (n : Nat) (older : List PanicEntry) (u v x : Value) (w : World) (hp : w.cell? p = some u) (hq : w.cell? q = some v) (hr : w.cell? r = some x) (fp : w.frozen? p = false) (fq : w.frozen? q = false) (fr : w.frozen? r = false) (hpq : p.block ≠ q.block) (hpr : p.block ≠ r.block) (hqr : q.block ≠ r.block) :
    CallsD Try.prog 74 #[.pointer (some p), .pointer (some q), .pointer (some r)] (.panicking ({ v := .iface 24 (.int .i64 (n : Int)), recovered := false } :: older)) w fun e u' w' =>
      e = .returned (.tuple #[]) ∧ u' = .panicking ({ v := .iface 24 (.int .i64 (n : Int)), recovered := true } :: older) ∧ w' = ((w.setCell p (.slice none 0 0)).setCell q (.int .i64 0)).setCell r (.int .i64 (n : Int)) := by
  have hq2 : (w.setCell p (.slice none 0 0)).cell? q = some v := by rw [World.cell?_setCell_other _ _ _ _ (fun e => hpq (by rw [e]))]; exact hq
  have hr2 : (w.setCell p (.slice none 0 0)).cell? r = some x := by rw [World.cell?_setCell_other _ _ _ _ (fun e => hpr (by rw [e]))]; exact hr
  have hr3 : ((w.setCell p (.slice none 0 0)).setCell q (.int .i64 0)).cell? r = some x := by rw [World.cell?_setCell_other _ _ _ _ (fun e => hqr (by rw [e]))]; exact hr2
  refine callsD_of_wpS Try.func74 rfl fun c₀ cs hu => ?_
  apply wpS_seq
  apply wpS_region
  simp [wpOpsS, go_sem, recoverD, hu, Try.ntmps74, Exit.thenS]
  refine wpS_of_wp ?_
  have hty := errno_yes4
  go_wp2_with fail
  simp [bodyPostS, results, Try.results74]
theorem all_idle (p q r : Addr) (w : World) :
    CallsD Try.prog 74 #[.pointer (some p), .pointer (some q), .pointer (some r)] .returning w fun e u' w' => e = .returned (.tuple #[]) ∧ u' = .returning ∧ w' = w := by
  refine callsD_of_wpS Try.func74 rfl fun c₀ cs hu => ?_
  apply wpS_seq
  apply wpS_region
  simp [wpOpsS, go_sem, recoverD, hu, Try.ntmps74, Exit.thenS]
  refine wpS_of_wp ?_
  go_wp2_with fail
  cases c₀
  simp_all [bodyPostS, results, Try.results74]
end Go.Proofs.Ytngnhkghpnamoaa
