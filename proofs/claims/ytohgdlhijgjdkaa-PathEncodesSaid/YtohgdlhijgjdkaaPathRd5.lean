/- Layer 9: Decode: the deferred closure, and the whole. -/
import Derived.Test.YtohgdlhijgjdkaaPathRd4
import Derived.Defers
import Derived.Recover
import Derived.Laws.Pointers
namespace Go.Proofs.Ytohgdlhijgjdkaa
open Go.RowKit
set_option linter.unusedVariables false
set_option maxRecDepth 100000

theorem errno_yes (W : World) (v : Value) : (Instr.typeAssert (.iface 25 v) 20 25 true).run Try.prog W = .ok (.tuple #[v, .bool true]) W := by kernel_rfl
set_option maxHeartbeats 2000000 in
theorem catch_panicking (p q : Addr) (n : Nat) (older : List PanicEntry) (u v : Value) (w : World) (hp : w.cell? p = some u) (hq : w.cell? q = some v) (fp : w.frozen? p = false) (fq : w.frozen? q = false) (hne : p.block ≠ q.block) :
    CallsD Try.prog 18 #[.pointer (some p), .pointer (some q)] (.panicking ({ v := .iface 25 (.int .i64 (n : Int)), recovered := false } :: older)) w fun e u' w' =>
      e = .returned (.tuple #[]) ∧ u' = .panicking ({ v := .iface 25 (.int .i64 (n : Int)), recovered := true } :: older) ∧ w' = (w.setCell p (.slice none 0 0)).setCell q (.int .i64 (n : Int)) := by
  have hq2 : (w.setCell p (.slice none 0 0)).cell? q = some v := by rw [World.cell?_setCell_other _ _ _ _ (fun e => hne (by rw [e]))]; exact hq
  refine callsD_of_wpS Try.func18 rfl fun c₀ cs hu => ?_
  apply wpS_seq
  apply wpS_region
  simp [wpOpsS, go_sem, recoverD, hu, Try.ntmps18, Exit.thenS]
  refine wpS_of_wp ?_
  have hty := errno_yes
  go_wp2_with fail
  simp [bodyPostS, results, Try.results18]
theorem catch_idle (p q : Addr) (w : World) :
    CallsD Try.prog 18 #[.pointer (some p), .pointer (some q)] .returning w fun e u' w' => e = .returned (.tuple #[]) ∧ u' = .returning ∧ w' = w := by
  refine callsD_of_wpS Try.func18 rfl fun c₀ cs hu => ?_
  apply wpS_seq
  apply wpS_region
  simp [wpOpsS, go_sem, recoverD, hu, Try.ntmps18, Exit.thenS]
  refine wpS_of_wp ?_
  go_wp2_with fail
  cases c₀
  simp_all [bodyPostS, results, Try.results18]
/-- What Decode answers. -/
def DecPost (w : World) (r : List (List P2) × Nat) (e : Ending) (w' : World) : Prop := ∃ v, e = .returned (.tuple #[v, .int .i64 (r.2 : Int)]) ∧ RdPP w' w'.heap.size v r.1 ∧ Below w.heap.size w w'
theorem rdpp_nil (w : World) (B : Nat) : RdPP w B (.slice none 0 0) [] := ⟨none, 0, [], rfl, Nat.le_refl _, Nat.zero_le _, ⟨rfl, fun h => absurd h (by simp)⟩, fun i h => by simp at h⟩
theorem decode_arg (K : Int) (a : Option Addr) (c : Nat) (l : List Nat) (w : World) (hK : K < 1 ∨ 3 < K) :
    Calls Try.prog 7 #[.int .i64 K, .slice a l.length c] w (DecPost w ([], 1)) := by
  have hmf : ∀ (fn : Fn) (first cap : Array Value) (w : World), (Instr.makeFunc fn first cap).run Try.prog w = .ok (.func fn first cap) w := fun _ _ _ _ => rfl
  have hB : Below w.heap.size w ((w.alloc (.cells #[.slice none 0 0] 24)).alloc (.cells #[.int .i64 1] 25)) := ((Below.refl _ _).alloc (Nat.le_refl _) _).alloc (by simp) _
  have HB := Lib.hid hB
  clear hB
  by_cases h1 : K < 1
  · have d1 : decide (K < 1) = true := decide_eq_true h1
    clear hK
    go_enter_defers Try.func7, Try.ntmps7
    go_wp2_with fail
    simp [bodyPostD, Leaves, settle, results, Try.results7, asAddr, go_sem]
    exact ⟨_, rfl, rdpp_nil _ _, HB.out⟩
  · have d1 : decide (K < 1) = false := decide_eq_false h1
    have d2 : decide (3 < K) = true := decide_eq_true (by omega)
    clear hK
    go_enter_defers Try.func7, Try.ntmps7
    go_wp2_with fail
    simp [bodyPostD, Leaves, settle, results, Try.results7, asAddr, go_sem]
    exact ⟨_, rfl, rdpp_nil _ _, HB.out⟩
theorem dec_boxes (w X : World) (a : Option Addr) (L c : Nat) (hX : X = ((w.alloc (.cells #[.slice none 0 0] 24)).alloc (.cells #[.int .i64 0] 25)).alloc (.cells #[.slice a L c, .int .i64 0, .int .i64 0] 47)) :
    Whole X w.heap.size 24 #[.slice none 0 0] ∧ Whole X (w.heap.size + 1) 25 #[.int .i64 0] ∧ Whole X (w.heap.size + 1 + 1) 47 #[.slice a L c, .int .i64 0, .int .i64 0] ∧ Below w.heap.size w X ∧ X.heap.size = w.heap.size + 1 + 1 + 1 := by
  subst hX
  obtain ⟨A, hA⟩ : ∃ z, z = w.alloc (.cells #[.slice none 0 0] 24) := ⟨_, rfl⟩
  have hs : A.heap.size = w.heap.size + 1 := by rw [hA]; simp
  have h1 : Whole A w.heap.size 24 #[.slice none 0 0] := by rw [hA]; exact Whole.new w _ _
  have b1 : Below w.heap.size w A := by rw [hA]; exact (Below.refl _ _).alloc (Nat.le_refl _) _
  rw [← hA]
  obtain ⟨B, hB⟩ : ∃ z, z = A.alloc (.cells #[.int .i64 0] 25) := ⟨_, rfl⟩
  have hs2 : B.heap.size = w.heap.size + 1 + 1 := by rw [hB, ← hs]; simp
  have h2 : Whole B (w.heap.size + 1) 25 #[.int .i64 0] := by rw [hB, ← hs]; exact Whole.new A _ _
  have b2 : Below A.heap.size A B := by rw [hB]; exact (Below.refl _ _).alloc (Nat.le_refl _) _
  rw [← hB]
  have b3 : Below B.heap.size B (B.alloc (.cells #[.slice a L c, .int .i64 0, .int .i64 0] 47)) := (Below.refl _ _).alloc (Nat.le_refl _) _
  have h3 : Whole (B.alloc (.cells #[.slice a L c, .int .i64 0, .int .i64 0] 47)) (w.heap.size + 1 + 1) 47 #[.slice a L c, .int .i64 0, .int .i64 0] := by rw [← hs2]; exact Whole.new B _ _
  refine ⟨(h1.below b2 h1.lt).below b3 (by omega), h2.below b3 h2.lt, h3, (b1.trans (b2.mono b1.size)).trans (b3.mono (by omega)), by simp [hs2]⟩
/-- At the door, with a panic on its way. -/
theorem dec_door (w W : World) (b4 b5 n : Nat) (tm : Array Value) (u v : Value) (h4 : Whole W b4 24 #[u]) (h5 : Whole W b5 25 #[v]) (hne : b4 ≠ b5) (hl4 : w.heap.size ≤ b4) (hl5 : w.heap.size ≤ b5) (hB : Below w.heap.size w W)
    (ht4 : tm[4]? = some (.pointer (some ⟨b4, 0, none⟩))) (ht5 : tm[5]? = some (.pointer (some ⟨b5, 0, none⟩))) :
    bodyPostD Try.prog Try.f7 (DecPost w ([], n)) (Exit.panic (pan n)) { tmps := tm, defers := [{ target := Target.fn (Fn.func 18) #[.pointer (some ⟨b4, 0, none⟩), .pointer (some ⟨b5, 0, none⟩)], args := #[] }] } W := by
  refine leaves_cons (f := 18) (args := #[.pointer (some ⟨b4, 0, none⟩), .pointer (some ⟨b5, 0, none⟩)]) (by simp) (by simp [go_sem]) ?_
  refine (catch_panicking ⟨b4, 0, none⟩ ⟨b5, 0, none⟩ n [] u v W (h4.cell 0) (h5.cell 0) (h4.frozen 0) (h5.frozen 0) hne).mono ?_
  rintro e u' w'' ⟨rfl, rfl, hw⟩
  have k4 : Whole w'' b4 24 #[.slice none 0 0] := by rw [hw]; simpa using (h4.set 0 (.slice none 0 0)).far hne (.int .i64 (n : Int))
  have k5 : Whole w'' b5 25 #[.int .i64 (n : Int)] := by rw [hw]; simpa using (h5.far (fun e => hne e.symm) (.slice none 0 0)).set 0 (.int .i64 (n : Int))
  have hB2 : Below w.heap.size w w'' := by rw [hw]; exact (hB.setCell (p := ⟨b4, 0, none⟩) hl4 _).setCell (p := ⟨b5, 0, none⟩) hl5 _
  have v4 : w''.cell? ⟨b4, 0, none⟩ = some (.slice none 0 0) := k4.cell 0
  have v5 : w''.cell? ⟨b5, 0, none⟩ = some (.int .i64 (n : Int)) := k5.cell 0
  clear hw k4 k5 h4 h5 hB
  simp [Leaves, settle, results, Try.results7, asAddr, go_sem, ht4, ht5, v4, v5]
  exact ⟨_, rfl, rdpp_nil _ _, hB2⟩
/-- At the door, with results laid. -/
theorem dec_door_ok (w W : World) (b4 b5 : Nat) (tm : Array Value) (u : Value) (r : List (List P2)) (v4 : W.cell? ⟨b4, 0, none⟩ = some u) (v5 : W.cell? ⟨b5, 0, none⟩ = some (.int .i64 0)) (hr : RdPP W W.heap.size u r) (hB : Below w.heap.size w W)
    (ht4 : tm[4]? = some (.pointer (some ⟨b4, 0, none⟩))) (ht5 : tm[5]? = some (.pointer (some ⟨b5, 0, none⟩))) :
    bodyPostD Try.prog Try.f7 (DecPost w (r, 0)) Exit.ret { tmps := tm, defers := [{ target := Target.fn (Fn.func 18) #[.pointer (some ⟨b4, 0, none⟩), .pointer (some ⟨b5, 0, none⟩)], args := #[] }] } W := by
  refine leaves_cons (f := 18) (args := #[.pointer (some ⟨b4, 0, none⟩), .pointer (some ⟨b5, 0, none⟩)]) (by simp) (by simp [go_sem]) ?_
  refine (catch_idle ⟨b4, 0, none⟩ ⟨b5, 0, none⟩ W).mono ?_
  rintro e u' w'' ⟨rfl, rfl, rfl⟩
  simp [Leaves, settle, results, Try.results7, asAddr, go_sem, ht4, ht5, v4, v5]
  exact ⟨_, rfl, hr, hB⟩
theorem ppone_rd {W : World} {u : Value} {l : List P2} (h : RdP W W.heap.size u l) : RdPP (W.alloc (.cells #[u] 43)) (W.alloc (.cells #[u] 43)).heap.size (.slice (some ⟨W.heap.size, 0, none⟩) 1 1) [l] := by
  have hB : Below W.heap.size W (W.alloc (.cells #[u] 43)) := (Below.refl _ _).alloc (Nat.le_refl _) _
  have hV : Vals (W.alloc (.cells #[u] 43)) (W.heap.size + 1) 1 (some ⟨W.heap.size, 0, none⟩) 1 [u] := (Vals.of_block (xs := [u]) (heap_alloc_new W _) rfl).more (by simp)
  refine ⟨_, 1, [u], rfl, Nat.le_refl _, by unfold maxLen; omega, hV.more (by simp), fun i hi => ?_⟩
  have hi0 : i = 0 := by simp at hi; omega
  subst hi0
  exact ⟨u, rfl, (h.below hB).more hB.size⟩
end Go.Proofs.Ytohgdlhijgjdkaa
