/- Layer 34: Counts, Clear. -/
import Derived.Test.YthbgijpakjfjkaaLru9
namespace Go.Proofs.Ythbgijpakjfjkaa
open Go.RowKit
set_option linter.unusedVariables false
set_option maxRecDepth 100000

theorem counts_any (g base ent sz h m : Nat) (es : List En) (w : World) (H : Lru w base g ent sz h m es) : Calls Try.prog 15 #[.pointer (some ⟨g, 0, none⟩)] w fun e w' => e = .returned (.tuple #[.int .i64 (h : Int), .int .i64 (m : Int)]) ∧ ∃ k, w' = w.drewN k := by
  obtain ⟨mark, mp, n, D, hS, hM, hN, hKy⟩ := H.ex
  have c5 : w.cell? ⟨g, 5, none⟩ = some (.int .i64 (h : Int)) := by rw [hS.cache.cell]; rfl
  have c6 : w.cell? ⟨g, 6, none⟩ = some (.int .i64 (m : Int)) := by rw [hS.cache.cell]; rfl
  clear hS hM hN hKy H
  go_enter Try.func15, Try.ntmps15
  go_wp2_with fail
  go_quiet (fail)
  go_wp2_with fail
  go_ret2
  exact ⟨rfl, _, rfl⟩
open Go.ChangeMaps Go.MapKept Go.WideShapes in
theorem clear_own {w : World} {b n : Nat} {D : DataW Unit} (h : w.ownsMap Try.prog 9 RP b n D) (ty : TypeId) :
    ∃ w', (Builtin.clear_ #[52] ty #[.map (some b)]).run Try.prog w = .ok (.tuple #[]) w' ∧ w'.ownsMap Try.prog 9 RP b 0 (.map []) ∧ w.mapTurned w' b := by
  obtain ⟨es, clock, hb, F, hs, rfl⟩ := h
  refine ⟨setBlock w b (.map #[] clock), ?_, ⟨#[], clock, heap_setBlock_same hb _, ⟨by simp, stamped_empty clock, by simp⟩, Nat.le_refl _, rfl⟩, ⟨es, clock, #[], clock, hb, rfl⟩⟩
  simp [Builtin.clear_, run_underlying Try.underlying52, MapKept.run_getObj_map hb, MapKept.run_setObj_map _ hb, Result.andThen]
  rfl
theorem wp_clear (w : World) {ops : Array Oper} {rest : List Oper} {o : Oper} {a : Act} {Q : Exit → Act → World → Prop} (hg : o.guard = none) (m : Operand) (hop : o.op = Op.call { callee := Callee.builtin Builtin.clear, args := #[m], argTypes := #[52] }) (b n : Nat) (D : DataW Unit)
    (hm : a.eval m = .map (some b)) (hown : w.ownsMap Try.prog 9 RP b n D)
    (hK : ∀ w', w'.ownsMap Try.prog 9 RP b 0 (.map []) → w.mapTurned w' b → wpList Try.prog ops Q rest (a.put o.dst (.tuple #[])) w') : wpList Try.prog ops Q (o :: rest) a w := by
  refine wpList_plain hg fun K' hK' => ?_
  obtain ⟨w', hrun, r1, r2⟩ := clear_own hown o.type
  unfold Oper.wp
  simp [execOp, hop, resolve, invoke, builtin, hm, hrun, Result.andThen]
  exact hK' _ _ (hK w' r1 r2)
def ClearPost (w : World) (base g ent sz h m : Nat) (e : Ending) (w' : World) : Prop := e = .returned (.tuple #[]) ∧ Lru w' base g ent sz h m [] ∧ Only (LS base w) w w'
set_option maxHeartbeats 8000000 in
theorem clear_any (g base ent sz h m : Nat) (es : List En) (w : World) (H : Lru w base g ent sz h m es) : Calls Try.prog 14 #[.pointer (some ⟨g, 0, none⟩)] w (ClearPost w base g ent sz h m) := by
  obtain ⟨mark, mp, n, D, hS, hM, hN, hKy⟩ := H.ex
  have c3 : w.cell? ⟨g, 3, none⟩ = some (.map (some mp)) := by rw [hS.cache.cell]; rfl
  have HO := Lib.hid hS.map
  have HST := Lib.hid hS
  clear hS hM hN hKy H
  go_enter Try.func14, Try.ntmps14
  go_wp2_with (refine wp_clear _ rfl (.tmp 7) rfl mp n D rfl HO.out ?_)
  intro X hownX hturn
  have hgX : Only (fun b => b = mp) w X := Only.of_grown (S := fun b => b = mp) hturn.grown (fun b hb => by injection hb with hb; exact hb.symm)
  have hS1 := HST.out.other (w' := X) (D' := .map []) hgX (.inr rfl) (HST.out.cache.only hgX (fun e => HST.out.mp_g e.symm)) hownX
  have HO1 := Lib.hid (hgX.mono (S := LS base w) fun b _ e => by rw [e]; exact HST.out.ls_mp)
  have HS1 := Lib.hid hS1
  have hbg : base ≤ g ∧ g < X.heap.size := ⟨hS1.lo.1, hS1.cache.lt⟩
  clear hS1 hgX hturn hownX c3 HO HST
  go_wp2_with fail
  refine (newRing_any _).mono ?_
  rintro e Y ⟨mk, rfl, hmk, hW, hB⟩
  have hS2 := HS1.out.below hB
  obtain ⟨hS3, hO3⟩ := hS2.setg 4 (.pointer (some ⟨mk, 0, none⟩))
  obtain ⟨hS4, hO4⟩ := hS3.setg 2 (.int .i64 0)
  have hgm : mk ≠ g := by omega
  have f4 : Y.frozen? ⟨g, 4, none⟩ = false := hS2.cache.frozen 4
  have c4 : Y.cell? ⟨g, 4, none⟩ = some (.pointer (some ⟨mark, 0, none⟩)) := by rw [hS2.cache.cell]; rfl
  have f2 : (Y.setCell ⟨g, 4, none⟩ (.pointer (some ⟨mk, 0, none⟩))).frozen? ⟨g, 2, none⟩ = false := hS3.cache.frozen 2
  have c2 : Y.cell? ⟨g, 2, none⟩ = some (.int .i64 (tot es : Int)) := by rw [hS2.cache.cell]; rfl
  have FIN := Lib.hid (show Lru ((Y.setCell ⟨g, 4, none⟩ (.pointer (some ⟨mk, 0, none⟩))).setCell ⟨g, 2, none⟩ (.int .i64 0)) base g ent sz h m [] ∧ Only (LS base w) w ((Y.setCell ⟨g, 4, none⟩ (.pointer (some ⟨mk, 0, none⟩))).setCell ⟨g, 2, none⟩ (.int .i64 0)) from by
    have hWm := (hW.far (p := ⟨g, 4, none⟩) hgm (.pointer (some ⟨mk, 0, none⟩))).far (p := ⟨g, 2, none⟩) hgm (.int .i64 0)
    refine ⟨⟨mk, mp, 0, .map [], ⟨by simpa [cacheCells, tot] using hS4.cache, hS4.map, ?_, ?_, ?_, hS4.lo, fun b hb => by simpa [seqOf, blks] using hb⟩, mapOK_nil, by simp [blks], by simp [keysOf]⟩, ((HO1.out.ls (Only.of_below hB _)).ls hO3).ls hO4⟩
    · exact ⟨⟨by rw [hWm.cell]; rfl, by rw [hWm.cell]; rfl⟩, trivial⟩
    · intro b hb
      have : b = mk := by simpa [blks] using hb
      subst this
      exact ⟨⟨_, hWm, rfl⟩, by omega⟩
    · intro e he; cases he)
  clear hS2 hS3 hS4 hO3 hO4 hW hB HS1 HO1
  go_wp2_with fail
  go_end0
  exact ⟨rfl, FIN.out⟩
end Go.Proofs.Ythbgijpakjfjkaa
