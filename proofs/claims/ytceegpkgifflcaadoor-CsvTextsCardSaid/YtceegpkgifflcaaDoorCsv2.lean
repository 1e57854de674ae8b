/- Layer 18: the parser: quoted. -/
import Derived.Test.YtceegpkgifflcaaDoorCsv1
import Derived.Test.YtceegpkgifflcaaDoorStrApp
namespace Go.Proofs.YtceegpkgifflcaaDoor
open Go.RowKit Go.Lib
set_option linter.unusedVariables false
set_option maxRecDepth 100000

theorem quo_some {l : List Nat} (f k n : Nat) (m : List Nat) (hk : k ≤ l.length) (h : firstAt (l.drop k) 34 = some n) (hf : l.length - k ≤ f) : k + n < l.length ∧ l.getD (k + n) 0 = 34 ∧ quoE l f k m = quoE l f (k + n) (m ++ (l.drop k).take n) := by
  obtain ⟨h1, h2, h3⟩ := firstAt_some h
  rw [List.length_drop] at h1
  rw [getD_drop] at h2
  exact ⟨by omega, h2, quoE_run n f k m (by omega) (fun j hj => by rw [← getD_drop]; exact h3 j hj) hf⟩
theorem quo_none {l : List Nat} (f k : Nat) (m : List Nat) (hk : k ≤ l.length) (h : firstAt (l.drop k) 34 = none) (hf : l.length - k ≤ f) : quoE l f k m = ([], l.length, 2) := by
  have h3 := firstAt_none h
  rw [quoE_run (l.length - k) f k m (by omega) (fun j hj => by rw [← getD_drop]; exact h3 j (by rw [List.length_drop]; exact hj)) hf]
  exact quoE_end (by omega)
/-- The parser stands at k, the own row v reads as m. -/
structure Stand (w : World) (g : Nat) (s : ByteArray) (X : World) (v : Value) (k : Nat) (m : List Nat) : Prop where
  ps : PS X g s k
  own : Own8 X w.heap.size v m
  only : Only (fun b => b = g) w X
structure QuoAt (w : World) (g : Nat) (s : ByteArray) (R : List Nat × Nat × Int) (X : World) (v : Value) (k : Nat) (m : List Nat) (f : Nat) : Prop where
  st : Stand w g s X v k m
  eq : quoE (bs s) f k m = R
  fuel : (bs s).length - k ≤ f
  len : m.length ≤ k
  byt : ∀ x ∈ m, x < 256
section
variable {w X Y : World} {g k : Nat} {s : ByteArray} {v v' : Value} {m m' : List Nat}
theorem Stand.grown (h : Stand w g s X v k m) (hg : g < w.heap.size) (h2 : Own8 Y w.heap.size v' m') (h3 : X.grownBy Y v.ownBlock) : Stand w g s Y v' k m' := by
  have ho := h.own.grown h3
  have hlt := h.own.lt
  exact ⟨Whole.only h.ps ho (fun e => by have := (hlt g e).1; omega), h2, h.only.trans ho (fun b hb e => by have := (hlt b e).1; omega)⟩
theorem Stand.drewN (h : Stand w g s X v k m) (n : Nat) : Stand w g s (X.drewN n) v k m := ⟨h.ps, h.own, h.only.drewN n⟩
theorem Stand.drew (h : Stand w g s X v k m) : Stand w g s X.drew v k m := ⟨h.ps, h.own, h.only.drew⟩
theorem Stand.set (h : Stand w g s X v k m) (hg : g < w.heap.size) (k' : Nat) : Stand w g s (X.setCell ⟨g, 1, none⟩ (.int .i64 (k' : Int))) v k' m := by
  obtain ⟨h1, h2⟩ := PS.set h.ps k'
  exact ⟨h1, h.own.only h2 (fun b e hb => by have := (h.own.lt b e).1; omega), h.only.trans h2 (fun b _ e => e)⟩
theorem Stand.one (h : Stand w g s X v k m) (hg : g < w.heap.size) {c : Nat} (h2 : Y.ownsRow w.heap.size 5 1 v' (m.length + 1) (u8s m ++ [.int .u8 (c : Int)])) (h3 : X.grownBy Y v.ownBlock) : Stand w g s Y v' k (m ++ [c]) :=
  h.grown hg (by unfold Own8; rw [List.length_append, u8s_append]; exact h2) h3
end
set_option maxHeartbeats 8000000 in
theorem quoted_any (g i : Nat) (s : ByteArray) (w : World) (h : PS w g s i) (hi : i < s.size) (hs : s.size ≤ 1000000) (hq : (bs s).getD i 0 = 34) :
    Calls Tryd.prog 22 #[.pointer (some ⟨g, 0, none⟩)] w (FldPost w g s (quoE (bs s) ((bs s).length + 1) (i + 1) [])) := by
  obtain ⟨R, hR⟩ : ∃ R, R = quoE (bs s) ((bs s).length + 1) (i + 1) [] := ⟨_, rfl⟩
  rw [← hR]
  have c0 : w.cell? ⟨g, 0, none⟩ = some (.string s) := h.cell 0
  have c1 : w.cell? ⟨g, 1, none⟩ = some (.int .i64 (i : Int)) := h.cell 1
  have f1 : w.frozen? ⟨g, 1, none⟩ = false := h.frozen 1
  have HL := Lib.hid fun k W hP hk => lineEnd_any g k s W hP hk hs
  have Hg := Lib.hid h.lt
  have hlen := bs_length s
  have Hlen := Lib.hid hlen
  have Hq0 : Hid (QuoAt w g s R (w.setCell ⟨g, 1, none⟩ (.int .i64 ((i + 1 : Nat) : Int))) (.slice none 0 0) (i + 1) [] ((bs s).length + 1)) :=
    ⟨⟨(PS.set h (i + 1)).1, Own8.nil_ _ _, (PS.set h (i + 1)).2⟩, hR.symm, by omega, by simp, by simp⟩
  clear h hR hlen hq
  go_enter Tryd.func22, Tryd.ntmps22
  go_wp2_with fail
  go_loopw [4] (fun d X => ∃ (k : Nat) (m : List Nat) (f : Nat), Hid (QuoAt w g s R X d k m f) ∧ k ≤ s.size) (fun _ X => s.size + 1 - posAt g X)
  case atStart => exact ⟨i + 1, [], _, Hq0.out, by omega⟩
  case round =>
    obtain ⟨k, m, f, hA, hks⟩ := hrel
    have c0 : wr.cell? ⟨g, 0, none⟩ = some (.string s) := hA.out.st.ps.cell 0
    have c1 : wr.cell? ⟨g, 1, none⟩ = some (.int .i64 (k : Int)) := hA.out.st.ps.cell 1
    have f1 : wr.frozen? ⟨g, 1, none⟩ = false := hA.out.st.ps.frozen 1
    have hk0 : (0 : Int) ≤ (k : Int) := by omega
    have hk1 : (k : Int) ≤ (s.size : Int) := by omega
    have hI := fun W => indexByte_any (s.extract k s.size) 34 (by omega) W
    rw [ext_drop] at hI
    cases hfa : firstAt ((bs s).drop k) 34 with
    | none =>
      rw [hfa] at hI
      simp only [optI] at hI
      have HI := Lib.hid hI
      have hR : R = ([], s.size, 2) := by rw [← hA.out.eq, quo_none f k m (by have := Hlen.out; omega) hfa hA.out.fuel, Hlen.out]
      subst hR
      have HP := Lib.hid fun n => PS.step hA.out.st.ps n s.size
      clear hI hfa
      go_wp2_with fail
      go_quiet ((go_at_call 35; exact (HI.out _).mono fun _ _ h => ⟨h.1, _, h.2.symm⟩))
      go_wp2_with fail
      go_ret2
      exact ⟨rfl, (HP.out _).1, hA.out.st.only.trans (HP.out _).2 (fun b _ h => h)⟩
    | some n =>
      rw [hfa] at hI
      simp only [optI] at hI
      have HI := Lib.hid hI
      obtain ⟨hj, hcj, he⟩ := quo_some f k n m (by have := Hlen.out; omega) hfa hA.out.fuel
      obtain ⟨j, hjj⟩ : ∃ j, j = k + n := ⟨_, rfl⟩
      obtain ⟨k2, hk2⟩ : ∃ k2, k2 = k + n + 1 := ⟨_, rfl⟩
      obtain ⟨m2, hm2⟩ : ∃ m2, m2 = m ++ bs (s.extract k j) := ⟨_, rfl⟩
      have hm2' : m2 = m ++ ((bs s).drop k).take n := by rw [hm2, bs_ext, hjj]; congr 2; omega
      obtain ⟨f, rfl⟩ : ∃ f', f = f' + 1 := ⟨f - 1, by have := hA.out.fuel; omega⟩
      rw [← hjj] at hj hcj
      have hjs : j < s.size := by have := Hlen.out; omega
      have hE : Hid (quoE (bs s) (f + 1) j m2 = R) := by show _ = _; rw [← hA.out.eq, he, hm2', hjj]
      have hm2b : Hid (∀ x ∈ m2, x < 256) := by
        intro x hx
        rw [hm2] at hx
        rcases List.mem_append.1 hx with h | h
        · exact hA.out.byt x h
        · exact bs_lt _ x h
      have hm2l : Hid (m2.length ≤ j) := by
        have h1 := hA.out.len
        show _ ≤ _
        rw [hm2', List.length_append, List.length_take]; omega
      have Hfu : Hid ((bs s).length - k2 ≤ f) := by have := hA.out.fuel; show _ ≤ _; omega
      have Hlm : Hid (m.length + (s.extract k j).size ≤ 1000000000000) := by
        have h1 := hA.out.len
        show _ ≤ _
        rw [ext_size s k j (by omega) (by omega)]; omega
      have Hst := Lib.hid hA.out.st
      have HPos := Lib.hid hA.out.st.ps.pos
      have w1 : IntKind.i64.wrap ((k : Int) + (n : Int)) = (j : Int) := by rw [hjj]; rw [IntWalk.i64_in _ ⟨by omega, by omega⟩]; omega
      have w2 : IntKind.i64.wrap ((n : Int) + 1) = (n : Int) + 1 := IntWalk.i64_in _ ⟨by omega, by omega⟩
      have w3e : IntKind.i64.wrap ((k : Int) + ((n : Int) + 1)) = (k2 : Int) := by rw [hk2]; rw [IntWalk.i64_in _ ⟨by omega, by omega⟩]; omega
      have d4 : decide ((n : Int) < 0) = false := decide_eq_false (by omega)
      have b1 : (k : Int) ≤ (j : Int) := by omega
      have b2 : (j : Int) ≤ (s.size : Int) := by omega
      have b3 : (0 : Int) ≤ (j : Int) := by omega
      have b4 : k ≤ j := by omega
      have b5 : j ≤ s.size := by omega
      have hk2s : k2 ≤ s.size := by omega
      have hjk : k < k2 := by omega
      have HH := fun W => hasPrefix_any (s.extract k2 s.size) ⟨#[34]⟩ W
      rw [show ∀ i, hasP (bs (s.extract i s.size)) (bs ⟨#[34]⟩) = decide ((bs s).getD i 0 = 34) from hp_quo s] at HH
      have HLk := Lib.hid fun W (h : PS W g s k2) => HL.out k2 W h hk2s
      have Hm2 := Lib.hid hm2
      have HK2 : Hid (k2 = j + 1) := by show _ = _; omega
      have Hcj := Lib.hid hcj
      have Hjl : Hid (j < (bs s).length) := by show _ < _; exact hj
      clear hI hfa he hm2 hm2' hA hjj hk2 hcj hj
      have Hl1 : Hid (m2.length + 1 ≤ maxLen) := by have := hm2l.out; unfold Hid maxLen; omega
      have Hl2 : Hid ((m2.length + 1) * 1 ≤ 140737488355328) := by have := hm2l.out; unfold Hid; omega
      by_cases hA2 : (bs s).getD k2 0 = 34
      · rw [decide_eq_true hA2] at HH
        go_wp2_with fail
        go_quiet ((go_at_call 35; exact (HI.out _).mono fun _ _ h => ⟨h.1, _, h.2.symm⟩))
        go_wp2_with fail
        go_region_held3 (fun W => W.cell? ⟨g, 0, none⟩ = some (.string s) ∧ W.cell? ⟨g, 1, none⟩ = some (.int .i64 (k : Int)))
          (first | exact ⟨c0, c1⟩ | exact ⟨(Stand.grown (by first | exact Hst.out.drewN _ | exact (Hst.out.drewN _).drew) Hg.out hown3 hgrow3).ps.cell 0, (Stand.grown (by first | exact Hst.out.drewN _ | exact (Hst.out.drewN _).drew) Hg.out hown3 hgrow3).ps.cell 1⟩)
          ((refine step_append_str rfl (.tmp 33) (.tmp 48) 32 9 rfl Tryd.underlying32 Tryd.underlying9 w.heap.size u4 m rfl (by exact Hst.out.own) (s.extract k j) rfl Hlm.out (by exact Hst.out.only.size) ?_; intro v3 w3 hown3 hgrow3))
        have HS3 : Hid (Stand w g s w3 v3 k m2) := by rw [Hm2.out]; exact Stand.grown (by first | exact Hst.out.drewN _ | exact (Hst.out.drewN _).drew) Hg.out hown3 hgrow3
        have q0 : w3.cell? ⟨g, 0, none⟩ = some (.string s) := HS3.out.ps.cell 0
        have q1 : w3.cell? ⟨g, 1, none⟩ = some (.int .i64 (k : Int)) := HS3.out.ps.cell 1
        have q2 : w3.frozen? ⟨g, 1, none⟩ = false := HS3.out.ps.frozen 1
        clear hown3 hgrow3 c0 c1 f1
        go_wp2_with fail
        have HS4 : Hid (Stand w g s (w3.setCell ⟨g, 1, none⟩ (.int .i64 (k2 : Int))) v3 k2 m2) := HS3.out.set Hg.out k2
        go_quiet ((go_at_call 21; exact (HH _).mono fun _ _ h => ⟨h.1, _, h.2.symm⟩))
        have hst : (w3.setCell ⟨g, 1, none⟩ (.int .i64 (k2 : Int))).heap.size = w3.heap.size := by simp
        obtain ⟨i0, hi0, hz0, hz1, hz2⟩ := info_parts u8info
        have w4e : IntKind.i64.wrap ((k2 : Int) + 1) = ((k2 + 1 : Nat) : Int) := by rw [IntWalk.i64_in _ ⟨by omega, by omega⟩]; omega
        go_wp2_with (at_builtin; go_loud (refine app_one rfl (.tmp 70) (.tmp 71) 32 rfl w.heap.size 5 i0 _ 1 Tryd.underlying32 hi0 hz0 hz1 hz2 rfl v3 m2.length (u8s m2) rfl (by exact HS4.out.own) (.int .u8 34) 1 (by simp [Act.eval]) rfl Hl1.out Hl2.out (by exact HS4.out.only.size) ?_))
        intro v5 w5 h2 h3 h5
        have HS5 : Hid (Stand w g s w5 v5 k2 (m2 ++ [34])) := Stand.one (by exact HS4.out.drewN _) Hg.out h2 h3
        have r0 : w5.cell? ⟨g, 0, none⟩ = some (.string s) := HS5.out.ps.cell 0
        have r1 : w5.cell? ⟨g, 1, none⟩ = some (.int .i64 (k2 : Int)) := HS5.out.ps.cell 1
        have r2 : w5.frozen? ⟨g, 1, none⟩ = false := HS5.out.ps.frozen 1
        clear h2 h3 h5 q0 q1 q2
        go_wp2_with fail
        have HS6 : Hid (Stand w g s (w5.setCell ⟨g, 1, none⟩ (.int .i64 ((k2 + 1 : Nat) : Int))) v5 (k2 + 1) (m2 ++ [34])) := HS5.out.set Hg.out (k2 + 1)
        have hF6 : QuoAt w g s R (w5.setCell ⟨g, 1, none⟩ (.int .i64 ((k2 + 1 : Nat) : Int))) v5 (k2 + 1) (m2 ++ [34]) f := ⟨HS6.out, by rw [← hE.out, HK2.out, quoE_two Hjl.out Hcj.out (by rw [← HK2.out]; exact hA2)], by have := Hfu.out; omega, by have := hm2l.out; have := HK2.out; simp; omega, by
          intro x hx
          rcases List.mem_append.1 hx with h | h
          · exact hm2b.out x h
          · rw [List.mem_singleton.1 h]; omega⟩
        have hk3 : k2 < s.size := by have h := lt_of_getD (l := bs s) (k := k2) (by omega); have := Hlen.out; omega
        go_roundw
        case rel => exact ⟨k2 + 1, m2 ++ [34], f, hF6, hk3⟩
        case measure => rw [HPos.out]; have h1 := HS6.out.ps.pos; have hq : ∀ Y, posAt g Y = k2 + 1 → s.size + 1 - posAt g Y < s.size + 1 - k := fun Y hY => by rw [hY]; omega
                        exact hq _ h1
      · rw [decide_eq_false hA2] at HH
        by_cases hk3 : k2 < s.size
        · by_cases hB2 : (bs s).getD k2 0 = 44
          · have _u := hB2
            have hR : R = (m2, k2, 0) := by rw [← hE.out, quoE_over Hjl.out Hcj.out (by rw [← HK2.out]; exact hA2) (by rw [← HK2.out]; exact .inr (.inl hB2)), HK2.out]
            subst hR
            obtain ⟨c, hc⟩ : ∃ c, (s[k2]'hk3).toNat = c := ⟨_, rfl⟩
            have hcb : (bs s).getD k2 0 = c := by rw [← bs_get s k2 hk3]; exact hc
            have e1 : decide ((k2 : Int) < (s.size : Int)) = true := decide_eq_true (by omega)
            have e2 : (0 : Int) ≤ (k2 : Int) := by omega
            have e3 : (k2 : Int) < (s.size : Int) := by omega
            obtain rfl : 44 = c := by rw [← hcb, hB2]
            clear hcb hB2
            go_wp2_with fail
            go_quiet ((go_at_call 35; exact (HI.out _).mono fun _ _ h => ⟨h.1, _, h.2.symm⟩))
            go_wp2_with fail
            go_region_held3 (fun W => W.cell? ⟨g, 0, none⟩ = some (.string s) ∧ W.cell? ⟨g, 1, none⟩ = some (.int .i64 (k : Int)))
              (first | exact ⟨c0, c1⟩ | exact ⟨(Stand.grown (by first | exact Hst.out.drewN _ | exact (Hst.out.drewN _).drew) Hg.out hown3 hgrow3).ps.cell 0, (Stand.grown (by first | exact Hst.out.drewN _ | exact (Hst.out.drewN _).drew) Hg.out hown3 hgrow3).ps.cell 1⟩)
              ((refine step_append_str rfl (.tmp 33) (.tmp 48) 32 9 rfl Tryd.underlying32 Tryd.underlying9 w.heap.size u4 m rfl (by exact Hst.out.own) (s.extract k j) rfl Hlm.out (by exact Hst.out.only.size) ?_; intro v3 w3 hown3 hgrow3))
            have HS3 : Hid (Stand w g s w3 v3 k m2) := by rw [Hm2.out]; exact Stand.grown (by first | exact Hst.out.drewN _ | exact (Hst.out.drewN _).drew) Hg.out hown3 hgrow3
            have q0 : w3.cell? ⟨g, 0, none⟩ = some (.string s) := HS3.out.ps.cell 0
            have q1 : w3.cell? ⟨g, 1, none⟩ = some (.int .i64 (k : Int)) := HS3.out.ps.cell 1
            have q2 : w3.frozen? ⟨g, 1, none⟩ = false := HS3.out.ps.frozen 1
            clear hown3 hgrow3 c0 c1 f1
            go_wp2_with fail
            have HS4 : Hid (Stand w g s (w3.setCell ⟨g, 1, none⟩ (.int .i64 (k2 : Int))) v3 k2 m2) := HS3.out.set Hg.out k2
            go_quiet ((go_at_call 21; exact (HH _).mono fun _ _ h => ⟨h.1, _, h.2.symm⟩))
            have hst : ∀ n, (convert 32 9 v3).run Tryd.prog ((w3.setCell ⟨g, 1, none⟩ (.int .i64 (k2 : Int))).drewN n) = .ok (.string (strOf m2)) ((w3.setCell ⟨g, 1, none⟩ (.int .i64 (k2 : Int))).drewN n) := fun n => (HS4.out.drewN n).own.str hm2b.out
            go_wp2_with fail
            go_quiet (fail)
            go_wp2_with fail
            go_ret2
            first | exact ⟨rfl, HS4.out.ps, HS4.out.only.drewN _⟩ | exact ⟨rfl, HS4.out.ps, (HS4.out.only.drewN _).drewN _⟩
          · by_cases hB3 : 0 < endA (bs s) k2
            · have _u := hB3
              have hR : R = (m2, k2, 0) := by rw [← hE.out, quoE_over Hjl.out Hcj.out (by rw [← HK2.out]; exact hA2) (by rw [← HK2.out]; exact .inr (.inr hB3)), HK2.out]
              subst hR
              obtain ⟨c, hc⟩ : ∃ c, (s[k2]'hk3).toNat = c := ⟨_, rfl⟩
              have hcb : (bs s).getD k2 0 = c := by rw [← bs_get s k2 hk3]; exact hc
              have e1 : decide ((k2 : Int) < (s.size : Int)) = true := decide_eq_true (by omega)
              have e2 : (0 : Int) ≤ (k2 : Int) := by omega
              have e3 : (k2 : Int) < (s.size : Int) := by omega
              have e4 : ((c : Int) != 44) = true := bne_iff_ne.mpr (fun h => hB2 (by rw [hcb]; omega))
              obtain ⟨E, hEE⟩ : ∃ E, endA (bs s) k2 = E := ⟨_, rfl⟩
              rw [hEE] at HLk hB3
              have e5 : ((E : Int) == 0) = false := beq_eq_false_iff_ne.mpr (by omega)
              clear hcb hB2
              go_wp2_with fail
              go_quiet ((go_at_call 35; exact (HI.out _).mono fun _ _ h => ⟨h.1, _, h.2.symm⟩))
              go_wp2_with fail
              go_region_held3 (fun W => W.cell? ⟨g, 0, none⟩ = some (.string s) ∧ W.cell? ⟨g, 1, none⟩ = some (.int .i64 (k : Int)))
                (first | exact ⟨c0, c1⟩ | exact ⟨(Stand.grown (by first | exact Hst.out.drewN _ | exact (Hst.out.drewN _).drew) Hg.out hown3 hgrow3).ps.cell 0, (Stand.grown (by first | exact Hst.out.drewN _ | exact (Hst.out.drewN _).drew) Hg.out hown3 hgrow3).ps.cell 1⟩)
                ((refine step_append_str rfl (.tmp 33) (.tmp 48) 32 9 rfl Tryd.underlying32 Tryd.underlying9 w.heap.size u4 m rfl (by exact Hst.out.own) (s.extract k j) rfl Hlm.out (by exact Hst.out.only.size) ?_; intro v3 w3 hown3 hgrow3))
              have HS3 : Hid (Stand w g s w3 v3 k m2) := by rw [Hm2.out]; exact Stand.grown (by first | exact Hst.out.drewN _ | exact (Hst.out.drewN _).drew) Hg.out hown3 hgrow3
              have q0 : w3.cell? ⟨g, 0, none⟩ = some (.string s) := HS3.out.ps.cell 0
              have q1 : w3.cell? ⟨g, 1, none⟩ = some (.int .i64 (k : Int)) := HS3.out.ps.cell 1
              have q2 : w3.frozen? ⟨g, 1, none⟩ = false := HS3.out.ps.frozen 1
              clear hown3 hgrow3 c0 c1 f1
              go_wp2_with fail
              have HS4 : Hid (Stand w g s (w3.setCell ⟨g, 1, none⟩ (.int .i64 (k2 : Int))) v3 k2 m2) := HS3.out.set Hg.out k2
              go_quiet ((go_at_call 21; exact (HH _).mono fun _ _ h => ⟨h.1, _, h.2.symm⟩))
              have hst : ∀ n, (convert 32 9 v3).run Tryd.prog ((w3.setCell ⟨g, 1, none⟩ (.int .i64 (k2 : Int))).drewN n) = .ok (.string (strOf m2)) ((w3.setCell ⟨g, 1, none⟩ (.int .i64 (k2 : Int))).drewN n) := fun n => (HS4.out.drewN n).own.str hm2b.out
              go_wp2_with fail
              go_quiet ((go_at_call 18; exact (HLk.out _ (by exact HS4.out.ps)).mono fun _ _ h => ⟨h.1, by obtain ⟨_, n, h⟩ := h; first | exact ⟨_, by rw [h, World.drewN_drewN, Nat.add_assoc]⟩ | exact ⟨_, by rw [h, World.drewN_drewN]⟩⟩))
              go_wp2_with fail
              go_ret2
              first | exact ⟨rfl, HS4.out.ps, HS4.out.only.drewN _⟩ | exact ⟨rfl, HS4.out.ps, (HS4.out.only.drewN _).drewN _⟩
            · have _u := hB3
              have hR : R = ([], k2, 3) := by rw [← hE.out, quoE_bad Hjl.out Hcj.out (by rw [← HK2.out]; exact hA2) (by rw [← HK2.out]; unfold overA; have := Hlen.out; omega), HK2.out]
              subst hR
              obtain ⟨c, hc⟩ : ∃ c, (s[k2]'hk3).toNat = c := ⟨_, rfl⟩
              have hcb : (bs s).getD k2 0 = c := by rw [← bs_get s k2 hk3]; exact hc
              have e1 : decide ((k2 : Int) < (s.size : Int)) = true := decide_eq_true (by omega)
              have e2 : (0 : Int) ≤ (k2 : Int) := by omega
              have e3 : (k2 : Int) < (s.size : Int) := by omega
              have e4 : ((c : Int) != 44) = true := bne_iff_ne.mpr (fun h => hB2 (by rw [hcb]; omega))
              obtain ⟨E, hEE⟩ : ∃ E, endA (bs s) k2 = E := ⟨_, rfl⟩
              rw [hEE] at HLk hB3
              obtain rfl : 0 = E := by omega
              clear hcb hB2
              go_wp2_with fail
              go_quiet ((go_at_call 35; exact (HI.out _).mono fun _ _ h => ⟨h.1, _, h.2.symm⟩))
              go_wp2_with fail
              go_region_held3 (fun W => W.cell? ⟨g, 0, none⟩ = some (.string s) ∧ W.cell? ⟨g, 1, none⟩ = some (.int .i64 (k : Int)))
                (first | exact ⟨c0, c1⟩ | exact ⟨(Stand.grown (by first | exact Hst.out.drewN _ | exact (Hst.out.drewN _).drew) Hg.out hown3 hgrow3).ps.cell 0, (Stand.grown (by first | exact Hst.out.drewN _ | exact (Hst.out.drewN _).drew) Hg.out hown3 hgrow3).ps.cell 1⟩)
                ((refine step_append_str rfl (.tmp 33) (.tmp 48) 32 9 rfl Tryd.underlying32 Tryd.underlying9 w.heap.size u4 m rfl (by exact Hst.out.own) (s.extract k j) rfl Hlm.out (by exact Hst.out.only.size) ?_; intro v3 w3 hown3 hgrow3))
              have HS3 : Hid (Stand w g s w3 v3 k m2) := by rw [Hm2.out]; exact Stand.grown (by first | exact Hst.out.drewN _ | exact (Hst.out.drewN _).drew) Hg.out hown3 hgrow3
              have q0 : w3.cell? ⟨g, 0, none⟩ = some (.string s) := HS3.out.ps.cell 0
              have q1 : w3.cell? ⟨g, 1, none⟩ = some (.int .i64 (k : Int)) := HS3.out.ps.cell 1
              have q2 : w3.frozen? ⟨g, 1, none⟩ = false := HS3.out.ps.frozen 1
              clear hown3 hgrow3 c0 c1 f1
              go_wp2_with fail
              have HS4 : Hid (Stand w g s (w3.setCell ⟨g, 1, none⟩ (.int .i64 (k2 : Int))) v3 k2 m2) := HS3.out.set Hg.out k2
              go_quiet ((go_at_call 21; exact (HH _).mono fun _ _ h => ⟨h.1, _, h.2.symm⟩))
              go_wp2_with fail
              go_quiet ((go_at_call 18; exact (HLk.out _ (by exact HS4.out.ps)).mono fun _ _ h => ⟨h.1, by obtain ⟨_, n, h⟩ := h; first | exact ⟨_, by rw [h, World.drewN_drewN, Nat.add_assoc]⟩ | exact ⟨_, by rw [h, World.drewN_drewN]⟩⟩))
              go_wp2_with fail
              go_ret2
              first | exact ⟨rfl, HS4.out.ps, HS4.out.only.drewN _⟩ | exact ⟨rfl, HS4.out.ps, (HS4.out.only.drewN _).drewN _⟩
        · have _u := hk3
          have hR : R = (m2, k2, 0) := by rw [← hE.out, quoE_over Hjl.out Hcj.out (by rw [← HK2.out]; exact hA2) (by rw [← HK2.out]; exact .inl (by have := Hlen.out; omega)), HK2.out]
          subst hR
          have e1 : decide ((k2 : Int) < (s.size : Int)) = false := decide_eq_false (by omega)
          go_wp2_with fail
          go_quiet ((go_at_call 35; exact (HI.out _).mono fun _ _ h => ⟨h.1, _, h.2.symm⟩))
          go_wp2_with fail
          go_region_held3 (fun W => W.cell? ⟨g, 0, none⟩ = some (.string s) ∧ W.cell? ⟨g, 1, none⟩ = some (.int .i64 (k : Int)))
            (first | exact ⟨c0, c1⟩ | exact ⟨(Stand.grown (by first | exact Hst.out.drewN _ | exact (Hst.out.drewN _).drew) Hg.out hown3 hgrow3).ps.cell 0, (Stand.grown (by first | exact Hst.out.drewN _ | exact (Hst.out.drewN _).drew) Hg.out hown3 hgrow3).ps.cell 1⟩)
            ((refine step_append_str rfl (.tmp 33) (.tmp 48) 32 9 rfl Tryd.underlying32 Tryd.underlying9 w.heap.size u4 m rfl (by exact Hst.out.own) (s.extract k j) rfl Hlm.out (by exact Hst.out.only.size) ?_; intro v3 w3 hown3 hgrow3))
          have HS3 : Hid (Stand w g s w3 v3 k m2) := by rw [Hm2.out]; exact Stand.grown (by first | exact Hst.out.drewN _ | exact (Hst.out.drewN _).drew) Hg.out hown3 hgrow3
          have q0 : w3.cell? ⟨g, 0, none⟩ = some (.string s) := HS3.out.ps.cell 0
          have q1 : w3.cell? ⟨g, 1, none⟩ = some (.int .i64 (k : Int)) := HS3.out.ps.cell 1
          have q2 : w3.frozen? ⟨g, 1, none⟩ = false := HS3.out.ps.frozen 1
          clear hown3 hgrow3 c0 c1 f1
          go_wp2_with fail
          have HS4 : Hid (Stand w g s (w3.setCell ⟨g, 1, none⟩ (.int .i64 (k2 : Int))) v3 k2 m2) := HS3.out.set Hg.out k2
          go_quiet ((go_at_call 21; exact (HH _).mono fun _ _ h => ⟨h.1, _, h.2.symm⟩))
          have hst : ∀ n, (convert 32 9 v3).run Tryd.prog ((w3.setCell ⟨g, 1, none⟩ (.int .i64 (k2 : Int))).drewN n) = .ok (.string (strOf m2)) ((w3.setCell ⟨g, 1, none⟩ (.int .i64 (k2 : Int))).drewN n) := fun n => (HS4.out.drewN n).own.str hm2b.out
          go_wp2_with fail
          go_quiet (fail)
          go_wp2_with fail
          go_ret2
          first | exact ⟨rfl, HS4.out.ps, HS4.out.only.drewN _⟩ | exact ⟨rfl, HS4.out.ps, (HS4.out.only.drewN _).drewN _⟩
end Go.Proofs.YtceegpkgifflcaaDoor
