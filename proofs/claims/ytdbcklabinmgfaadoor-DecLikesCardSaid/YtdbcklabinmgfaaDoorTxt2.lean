/- Layer 16: Text; the page's example. -/
import Derived.Test.YtdbcklabinmgfaaDoorTxt1
import Derived.Test.YtdbcklabinmgfaaDoorDec2
namespace Go.Proofs.YtdbcklabinmgfaaDoor
open Go.RowKit Go.Shelf Go.Lib
set_option linter.unusedVariables false
set_option maxRecDepth 100000

def textC (ng : Bool) (D : List Nat) (x : Int) (it : List Nat) : List Nat := if rightD (ng, D, x) = true then (if D = [] then [48] else (if ng = true then [45] else []) ++ amountC D x it) else []
theorem amountC_le (D : List Nat) (x : Int) (it : List Nat) (h1 : D.length ≤ 100) (h2 : it.length ≤ 1000) (hx : -1000 ≤ x ∧ x ≤ 1000) : (amountC D x it).length ≤ 5000 := by
  unfold amountC
  by_cases c1 : 0 ≤ x ∧ (D.length : Int) + x ≤ 21
  · rw [if_pos c1, List.length_append, List.length_replicate]; omega
  · rw [if_neg c1]
    by_cases c2 : 1 ≤ (D.length : Int) + x ∧ (D.length : Int) + x < D.length
    · rw [if_pos c2, List.length_append, List.length_append, List.length_take, List.length_drop]; simp only [List.length_cons, List.length_nil]; omega
    · rw [if_neg c2]
      by_cases c3 : -6 ≤ (D.length : Int) + x ∧ (D.length : Int) + x ≤ 0
      · rw [if_pos c3, List.length_append, List.length_append, List.length_replicate]; simp only [List.length_cons, List.length_nil]; omega
      · rw [if_neg c3]
        by_cases c4 : D.length = 1
        · rw [if_pos c4, List.length_append, List.length_append]; simp only [List.length_cons, List.length_nil]; omega
        · rw [if_neg c4, List.length_append, List.length_append, List.length_append, List.length_append, List.length_take, List.length_drop]; simp only [List.length_cons, List.length_nil]; omega
set_option maxHeartbeats 8000000 in
theorem text_any (ng : Bool) (ds : ByteArray) (x : Int) (it : ByteArray) (w : World) (hs : ds.size ≤ 1000000) (hit : it.size ≤ 1000)
    (hI : rightD (ng, bs ds, x) = true → bs ds ≠ [] → ∀ W, Below w.heap.size w W → Calls Tryd.prog 60 #[.int .i64 ((ds.size : Int) + x - 1)] W fun e w' => e = .returned (.string it) ∧ Below W.heap.size W w') :
    Calls Tryd.prog 16 #[.agg #[.bool ng, .string ds, .int .i64 x]] w fun e w' => e = .returned (.string (strOf (textC ng (bs ds) x (bs it)))) ∧ Below w.heap.size w w' := by
  have HRt := Lib.hid fun W => right_any ng ds x W hs
  obtain ⟨T, hT⟩ : ∃ T, T = strOf (textC ng (bs ds) x (bs it)) := ⟨_, rfl⟩
  rw [← hT]
  unfold textC at hT
  have hcs := @rightD_cases (ng, bs ds, x)
  have HI := Lib.hid hI
  obtain ⟨r, hr⟩ : ∃ r, r = rightD (ng, bs ds, x) := ⟨_, rfl⟩
  rw [← hr] at HRt hT hcs HI
  clear hr hI
  obtain ⟨b, hb⟩ : ∃ z, z = w.heap.size := ⟨_, rfl⟩
  obtain ⟨X0, hX0⟩ : ∃ z, z = w.alloc (.cells #[.bool ng, .string ds, .int .i64 x] 24) := ⟨_, rfl⟩
  have hO : One w b #[.bool ng, .string ds, .int .i64 x] X0 := by rw [hX0, hb]; exact ⟨Whole.new w _ _, (Below.refl _ _).alloc (Nat.le_refl _) _⟩
  have HO := Lib.hid hO
  have e0 : X0.cell? ⟨b, 0, none⟩ = some (.bool ng) := hO.a.cell 0
  have e1 : X0.cell? ⟨b, 1, none⟩ = some (.string ds) := hO.a.cell 1
  have e2 : X0.cell? ⟨b, 2, none⟩ = some (.int .i64 x) := hO.a.cell 2
  have HX0 := Lib.hid hX0
  have Hb := Lib.hid hb
  have HT := Lib.hid hT
  have Hcs := Lib.hid hcs
  clear hb hX0 hO hT hcs
  go_enter Tryd.func16, Tryd.ntmps16
  go_upto_region 1 with (fail)
  rw [← HX0.out, ← Hb.out]
  clear HX0 Hb
  go_wp2_with fail
  refine (HRt.out _).mono ?_
  rintro e W1 ⟨rfl, hb1⟩
  have HO := Lib.hid (HO.out.step hb1)
  have e0 : W1.cell? ⟨b, 0, none⟩ = some (.bool ng) := HO.out.a.cell 0
  have e1 : W1.cell? ⟨b, 1, none⟩ = some (.string ds) := HO.out.a.cell 1
  have e2 : W1.cell? ⟨b, 2, none⟩ = some (.int .i64 x) := HO.out.a.cell 2
  clear hb1 HRt
  cases r with
  | false =>
    have hT : Hid (T = ⟨#[]⟩) := by show _ = _; rw [HT.out, if_neg (by decide)]; rfl
    clear HT
    go_wp2_with fail
    go_ret
    exact ⟨by rw [hT.out]; rfl, HO.out.k⟩
  | true =>
    by_cases hd : ds.size = 0
    · have hT : Hid (T = ⟨#[48]⟩) := by show _ = _; rw [HT.out, if_pos rfl, bs_zero hd, if_pos rfl]; rfl
      obtain rfl := byteArray_zero hd
      clear HT hd
      go_wp2_with fail
      go_ret
      exact ⟨by rw [hT.out]; rfl, HO.out.k⟩
    · have hne : ds ≠ ⟨#[]⟩ := fun e => hd (by rw [e]; rfl)
      have n1 := str_beq hne
      have n2 := str_nil hne
      have n3 := str_isEmpty hne
      have hbne := bs_pos (ds := ds) (by omega)
      have hRD : RD (bs ds) x := by
        rcases Hcs.out rfl with h | h
        · injection h with _ h; injection h with h _; exact absurd h hbne
        · exact h
      have hl := hRD.len
      rw [bs_length] at hl
      have hlo := hRD.lo
      have hhi := hRD.hi
      have HA := Lib.hid fun (W : World) (hW : Below w.heap.size w W) => amount_any ng ds x it W (by omega) hl ⟨hlo, hhi⟩ (by omega) (fun W2 h2 => HI.out rfl hbne W2 (keepBelow h2 hW))
      have hT := HT.out
      rw [if_pos rfl, if_neg hbne] at hT
      have hAl := amountC_le (bs ds) x (bs it) (by rw [bs_length]; exact hl) (by rw [bs_length]; exact hit) ⟨hlo, hhi⟩
      obtain ⟨A, hA⟩ : ∃ A, A = strOf (amountC (bs ds) x (bs it)) := ⟨_, rfl⟩
      rw [← hA] at HA
      have hAs : A.size ≤ 10000 := by rw [hA, strOf_size]; omega
      cases ng with
      | true =>
        have hT2 : Hid (T = ⟨#[45]⟩ ++ A) := by show _ = _; rw [hT, if_pos rfl, ← strOf_app, hA]; rfl
        clear HT hT hd hne hbne hRD hl hlo hhi hAl hA
        have hadd := fun W => add_run ⟨#[45]⟩ A (by decide) (by omega) W
        go_wp2_with fail
        refine (HA.out _ HO.out.k).mono ?_
        rintro e Y ⟨rfl, hb1⟩
        have HO := Lib.hid (HO.out.step hb1)
        have z0 : Y.cell? ⟨b, 0, none⟩ = some (.bool true) := HO.out.a.cell 0
        clear hb1 e0 e1 e2 n1 n2 n3
        go_wp2_with fail
        go_ret
        exact ⟨by rw [hT2.out]; rfl, HO.out.k⟩
      | false =>
        have hT2 : Hid (T = A) := by show _ = _; rw [hT, if_neg (by decide), hA]; rfl
        clear HT hT hd hne hbne hRD hl hlo hhi hAl hA
        go_wp2_with fail
        refine (HA.out _ HO.out.k).mono ?_
        rintro e Y ⟨rfl, hb1⟩
        have HO := Lib.hid (HO.out.step hb1)
        have z0 : Y.cell? ⟨b, 0, none⟩ = some (.bool false) := HO.out.a.cell 0
        clear hb1 e0 e1 e2 n1 n2 n3
        go_wp2_with fail
        go_ret
        exact ⟨by rw [hT2.out]; rfl, HO.out.k⟩

shelf_lay Lays.n171 Nm 171 at Tryd as Tryd.laysItoaS
theorem itoa_small (i : Nat) (hi : i < 100) (w : World) : Calls Tryd.prog 60 #[.int .i64 (i : Int)] w fun e w' => e = .returned (.string ⟨(Lib.decDigits i).toArray⟩) ∧ Below w.heap.size w w' :=
  (Any.strconv_Itoa_small Tryd.laysItoaS i hi w).mono fun e w' ⟨h1, h2⟩ => ⟨h1, h2 ▸ Below.refl _ _⟩
theorem text_21 (w : World) : Calls Tryd.prog 16 #[.agg #[.bool false, .string ⟨#[49]⟩, .int .i64 21]] w fun e w' => e = .returned (.string ⟨#[49, 101, 50, 49]⟩) ∧ Below w.heap.size w w' := by
  have h := text_any false ⟨#[49]⟩ 21 ⟨#[50, 49]⟩ w (by decide) (by decide) (fun _ _ W _ => by
    have h0 := itoa_small 21 (by decide) W
    rw [show (⟨(Lib.decDigits 21).toArray⟩ : ByteArray) = ⟨#[50, 49]⟩ by decide +kernel] at h0
    rw [show (((⟨#[49]⟩ : ByteArray).size : Int) + 21 - 1) = ((21 : Nat) : Int) from rfl]
    exact h0)
  have e : strOf (textC false (bs ⟨#[49]⟩) 21 (bs ⟨#[50, 49]⟩)) = ⟨#[49, 101, 50, 49]⟩ := by decide +kernel
  rw [e] at h
  exact h
theorem parse_ex : parseC [45, 49, 50, 46, 53, 48, 101, 49, 120] = ((true, [49, 50, 53], 0), 8, 0) := by decide +kernel
end Go.Proofs.YtdbcklabinmgfaaDoor
