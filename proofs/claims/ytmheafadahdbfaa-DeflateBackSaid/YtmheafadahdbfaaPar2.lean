/- Layer 5: matches' contract. -/
import Derived.Test.YtmheafadahdbfaaPar1
namespace Go.Proofs.Ytmheafadahdbfaa
open Go.RowKit Go.Shelf
set_option linter.unusedVariables false
set_option maxRecDepth 100000
attribute [local go_sem] Oper.semAt_some

theorem matches_stops (n : Nat) (hn : 1 ≤ n) (Bs n₀ : Nat) (a : Option Addr) (cap : Nat) (bs : List Nat) (hb : Bytes255 bs) (hl1 : bs.length ≤ 1100000) (w : World) (hBs : Bs < w.heap.size) (hn₀ : n₀ ≤ Bs)
    (hc : w.cell? ⟨Bs, 0, none⟩ = some (.slice a bs.length cap)) (hA : Nums .u8 w n₀ a bs) :
    SeqStopsK Fence.wide n Try.prog 48 #[.pointer (some ⟨Bs, 0, none⟩)] encM (Kb n₀ Bs) (fun ys => ys = parseE hb) (fun pre => ∃ r, parseE hb = pre ++ r) bs.length w := by
  intro l J Jx W hW hJ hJx hY h0
  have hWs := hW.size
  exact matches1_in n hn l Bs n₀ cap a bs hb hl1 hn₀ J Jx W (by omega) hJ hY ((hW.cell (p := ⟨Bs, 0, none⟩) hBs).trans hc) (hA.below (hW.mono (by omega))) h0
theorem matches_in (F : Fence) (n : Nat) (h5 : F.fn 31) (hro : F.round = none) (a : Option Addr) (len cap : Nat) (w : World) :
    CallsIn F n Try.prog 31 #[.slice a len cap] w fun e w' => e = .returned (.func (.func 48) #[] #[.pointer (some ⟨w.heap.size, 0, none⟩)]) ∧ w' = w.alloc (.cells #[.slice a len cap] 22) := by
  refine callsIn_of_wp Try.func31 rfl h5 ?_ hro
  simp only [Try.ntmps31, List.size_toArray, List.length_cons, List.length_nil, Nat.reduceAdd, Nat.reduceSub, Array.replicate_succ, Array.replicate_zero, List.push_toArray, List.append_toArray, List.nil_append, List.cons_append]
  gi_wp2
  go_ret
  exact ⟨rfl, rfl⟩
end Go.Proofs.Ytmheafadahdbfaa
