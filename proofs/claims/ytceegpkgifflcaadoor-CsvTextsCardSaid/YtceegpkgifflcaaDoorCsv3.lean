/- Layer 18: the parser: field, row. -/
import Derived.Test.YtceegpkgifflcaaDoorCsv2
namespace Go.Proofs.YtceegpkgifflcaaDoor
open Go.RowKit Go.Lib
set_option linter.unusedVariables false
set_option maxRecDepth 100000

set_option maxHeartbeats 2000000 in
theorem field_any (g i : Nat) (s : ByteArray) (w : World) (h : PS w g s i) (hi : i ≤ s.size) (hs : s.size ≤ 1000000) :
    Calls Tryd.prog 17 #[.pointer (some ⟨g, 0, none⟩)] w (FldPost w g s (fieldE (bs s) i)) := by
  have c0 : w.cell? ⟨g, 0, none⟩ = some (.string s) := h.cell 0
  have c1 : w.cell? ⟨g, 1, none⟩ = some (.int .i64 (i : Int)) := h.cell 1
  have HH := fun W => hasPrefix_any (s.extract i s.size) ⟨#[34]⟩ W
  rw [show ∀ i, hasP (bs (s.extract i s.size)) (bs ⟨#[34]⟩) = decide ((bs s).getD i 0 = 34) from hp_quo s] at HH
  unfold fieldE
  by_cases hq : (bs s).getD i 0 = 34
  · rw [if_pos hq]
    rw [decide_eq_true hq] at HH
    have HQ := Lib.hid fun n => quoted_any g i s (w.drewN n) h (by rw [← bs_length]; exact lt_of_getD (by omega)) hs hq
    clear hq h
    go_enter Tryd.func17, Tryd.ntmps17
    go_wp2_with fail
    go_quiet ((go_at_call 21; exact (HH _).mono fun _ _ h => ⟨h.1, _, h.2.symm⟩))
    go_wp2_with fail
    refine (HQ.out _).mono ?_
    rintro e X ⟨rfl, hP, hO⟩
    have HP := Lib.hid hP
    have HO := Lib.hid hO
    clear hP hO
    go_wp2_with fail
    go_ret2
    exact ⟨rfl, HP.out, HO.out.os, HO.out.tape, HO.out.output, HO.out.size, HO.out.block⟩
  · rw [if_neg hq]
    rw [decide_eq_false hq] at HH
    have HQ := Lib.hid fun n => bare_any g i s (w.drewN n) h hi hs
    clear hq h
    go_enter Tryd.func17, Tryd.ntmps17
    go_wp2_with fail
    go_quiet ((go_at_call 21; exact (HH _).mono fun _ _ h => ⟨h.1, _, h.2.symm⟩))
    go_wp2_with fail
    refine (HQ.out _).mono ?_
    rintro e X ⟨rfl, hP, hO⟩
    have HP := Lib.hid hP
    have HO := Lib.hid hO
    clear hP hO
    go_wp2_with fail
    go_ret2
    exact ⟨rfl, HP.out, HO.out.os, HO.out.tape, HO.out.output, HO.out.size, HO.out.block⟩

/-- What reading a row leaves. -/
def RowPost (w : World) (g : Nat) (s : ByteArray) (R : List ByteArray × Nat × Int) (e : Ending) (w' : World) : Prop :=
  ∃ v, e = .returned (.tuple #[v, .int .i64 R.2.2]) ∧ PS w' g s R.2.1 ∧ OwnT w' w.heap.size v R.1 ∧ Only (fun b => b = g) w w'
structure RowAt (w : World) (g : Nat) (s : ByteArray) (X : World) (v : Value) (k : Nat) (r : List ByteArray) : Prop where
  ps : PS X g s k
  own : OwnT X w.heap.size v r
  only : Only (fun b => b = g) w X
section
variable {w X Y : World} {g k : Nat} {s : ByteArray} {v v' : Value} {r : List ByteArray}
theorem RowAt.drewN (h : RowAt w g s X v k r) (n : Nat) : RowAt w g s (X.drewN n) v k r := ⟨h.ps, h.own, h.only.drewN n⟩
theorem RowAt.set (h : RowAt w g s X v k r) (hg : g < w.heap.size) (k' : Nat) : RowAt w g s (X.setCell ⟨g, 1, none⟩ (.int .i64 (k' : Int))) v k' r := by
  obtain ⟨h1, h2⟩ := PS.set h.ps k'
  exact ⟨h1, h.own.only h2 (fun b e hb => by have := (h.own.lt b e).1; omega), h.only.trans h2 (fun b _ e => e)⟩
theorem RowAt.next (h : RowAt w g s X v k r) (hg : g < w.heap.size) {k' : Nat} (hp : PS Y g s k') (ho : Only (fun b => b = g) X Y) : RowAt w g s Y v k' r :=
  ⟨hp, h.own.only ho (fun b e hb => by have := (h.own.lt b e).1; omega), h.only.trans ho (fun b _ e => e)⟩
theorem RowAt.one (h : RowAt w g s X v k r) (hg : g < w.heap.size) {t : ByteArray} (h2 : Y.ownsRow w.heap.size 9 1 v' (r.length + 1) (txs r ++ [.string t])) (h3 : X.grownBy Y v.ownBlock) : RowAt w g s Y v' k (r ++ [t]) := by
  have ho : Only (fun b => v.ownBlock = some b) X Y := Only.of_grown h3 (fun b e => e)
  have hlt := h.own.lt
  exact ⟨Whole.only h.ps ho (fun e => by have := (hlt g e).1; omega), by unfold OwnT; rw [List.length_append, txs_append]; exact h2, h.only.trans ho (fun b hb e => by have := (hlt b e).1; omega)⟩
end
set_option maxHeartbeats 8000000 in
theorem row_any (g i : Nat) (s : ByteArray) (w : World) (h : PS w g s i) (hi : i ≤ s.size) (hs : s.size ≤ 1000000) :
    Calls Tryd.prog 14 #[.pointer (some ⟨g, 0, none⟩)] w (RowPost w g s (rowE (bs s) ((bs s).length + 1) i [])) := by
  obtain ⟨R, hR⟩ : ∃ R, R = rowE (bs s) ((bs s).length + 1) i [] := ⟨_, rfl⟩
  rw [← hR]
  have HF := Lib.hid fun k W hP hk => field_any g k s W hP hk hs
  have HL := Lib.hid fun k W hP hk => lineEnd_any g k s W hP hk hs
  have Hg := Lib.hid h.lt
  have hlen := bs_length s
  have Hlen := Lib.hid hlen
  have H0 : Hid (RowAt w g s w (.slice none 0 0) i []) := ⟨h, OwnT.nil_ _ _, Only.refl _ _⟩
  have HR := Lib.hid hR
  clear h hR hlen
  go_enter Tryd.func14, Tryd.ntmps14
  go_wp2_with fail
  go_loopw [4] (fun d X => ∃ (k : Nat) (r : List ByteArray) (f : Nat), Hid (RowAt w g s X d k r) ∧ k ≤ s.size ∧ Hid (rowE (bs s) f k r = R ∧ (bs s).length - k < f ∧ (r.length ≤ k - i ∧ i ≤ k) ∧ ∀ t ∈ r, t.size ≤ s.size)) (fun _ X => s.size - posAt g X)
  case atStart => exact ⟨i, [], _, H0.out, hi, HR.out.symm, by omega, by simp, by simp⟩
  case round =>
    obtain ⟨k, r, f, hA, hks, hB⟩ := hrel
    have HPos := Lib.hid hA.out.ps.pos
    have hok := fieldE_ok (bs_lt s) k (by have := Hlen.out; omega)
    obtain ⟨f, rfl⟩ : ∃ f', f = f' + 1 := ⟨f - 1, by have := hB.out.2.1; omega⟩
    have HFk := Lib.hid (HF.out k wr hA.out.ps hks)
    obtain ⟨m, k1, e, hFe⟩ : ∃ m k1 e, fieldE (bs s) k = (m, k1, e) := ⟨_, _, _, rfl⟩
    rw [hFe] at hok HFk
    have hk1 : k ≤ k1 := hok.lo
    have hk1s : k1 ≤ s.size := by have h1 : k1 ≤ (bs s).length := hok.hi; have := Hlen.out; omega
    have hml : m.length ≤ k1 := hok.len
    have Hov : Hid (e = 0 → overA (bs s) k1) := hok.over
    by_cases he : e = 0
    · subst he
      have HLk := Lib.hid fun W (h : PS W g s k1) => HL.out k1 W h hk1s
      obtain ⟨E, hEE⟩ : ∃ E, endA (bs s) k1 = E := ⟨_, rfl⟩
      rw [hEE] at HLk
      have hEl := endA_le (l := bs s) (i := k1) (by have := Hlen.out; omega)
      rw [hEE] at hEl
      have hEs : k1 + E ≤ s.size := by have := Hlen.out; omega
      obtain ⟨t, ht⟩ : ∃ t, t = strOf m := ⟨_, rfl⟩
      have hts : t.size ≤ s.size := by rw [ht, strOf_size]; omega
      have Hts : Hid (∀ x ∈ r ++ [t], x.size ≤ s.size) := by
        intro x hx
        rcases List.mem_append.1 hx with h | h
        · exact hB.out.2.2.2 x h
        · rw [List.mem_singleton.1 h]; exact hts
      have Ht := Lib.hid ht
      have HEE := Lib.hid hEE
      have Hml := Lib.hid hml
      have HFe := Lib.hid hFe
      have Hfu := Lib.hid hB.out.2.1
      have Hrl := Lib.hid hB.out.2.2.1
      have HRe := Lib.hid hB.out.1
      obtain ⟨i0, hi0, hz0, hz1, hz2⟩ := info_parts txinfo
      have Hl1 : Hid (r.length + 1 ≤ maxLen) := by have := hB.out.2.2.1; unfold Hid maxLen; omega
      have Hl2 : Hid ((r.length + 1) * 16 ≤ 140737488355328) := by have := hB.out.2.2.1; unfold Hid; omega
      clear hok hEE hts ht hml hFe hB hEl
      by_cases hc : (bs s).getD k1 0 = 44
      · have hk2 : k1 < s.size := by have h1 := lt_of_getD (l := bs s) (k := k1) (by omega); have := Hlen.out; omega
        obtain rfl : 0 = E := by rw [← HEE.out]; unfold endA; rw [hc]; rfl
        have e2 : ((k1 : Int) == (s.size : Int)) = false := beq_eq_false_iff_ne.mpr (by omega)
        have HRn : Hid (rowE (bs s) f (k1 + 1) (r ++ [t]) = R) := by show _ = _; rw [← HRe.out, rowE_more HFe.out hc, Ht.out]
        clear hc
        go_wp2_with fail
        refine HFk.out.mono ?_
        rintro e' Y ⟨rfl, hP, hO⟩
        have HN : Hid (RowAt w g s Y u4 k1 r) := hA.out.next Hg.out hP hO
        clear hP hO
        simp only [← Ht.out]
        go_wp2_with (at_builtin; refine app_one rfl (.tmp 16) (.tmp 18) 31 rfl w.heap.size 9 i0 _ 16 Tryd.underlying31 hi0 hz0 hz1 hz2 rfl u4 r.length (txs r) rfl (by exact HN.out.own) (.string t) 1 rfl rfl Hl1.out Hl2.out HN.out.only.size ?_)
        intro v5 w5 h2 h3 h5
        have HM : Hid (RowAt w g s w5 v5 k1 (r ++ [t])) := HN.out.one Hg.out h2 h3
        have q0 : w5.cell? ⟨g, 0, none⟩ = some (.string s) := HM.out.ps.cell 0
        have q1 : w5.cell? ⟨g, 1, none⟩ = some (.int .i64 (k1 : Int)) := HM.out.ps.cell 1
        have q2 : w5.frozen? ⟨g, 1, none⟩ = false := HM.out.ps.frozen 1
        clear h2 h3 h5
        go_wp2_with fail
        refine (HLk.out _ (by exact HM.out.ps)).mono ?_
        rintro e' Z ⟨rfl, nq1, rfl⟩
        go_wp2_with fail
        go_quiet (fail)
        go_wp2_with fail
        have HS6 : Hid (∀ n, RowAt w g s ((w5.drewN n).setCell ⟨g, 1, none⟩ (.int .i64 ((k1 + 1 : Nat) : Int))) v5 (k1 + 1) (r ++ [t])) := fun n => (HM.out.drewN n).set Hg.out (k1 + 1)
        have hF6 : rowE (bs s) f (k1 + 1) (r ++ [t]) = R ∧ (bs s).length - (k1 + 1) < f ∧ ((r ++ [t]).length ≤ k1 + 1 - i ∧ i ≤ k1 + 1) ∧ ∀ t' ∈ r ++ [t], t'.size ≤ s.size := ⟨HRn.out, by have := Hfu.out; have := Hlen.out; omega, ⟨by have := Hrl.out; rw [List.length_append]; simp; omega, by have := Hrl.out; omega⟩, Hts.out⟩
        go_roundw
        case rel => exact ⟨k1 + 1, r ++ [t], f, HS6.out _, hk2, hF6⟩
        case measure => rw [HPos.out]; have h1 := fun n => (HS6.out n).ps.pos; have hq : ∀ Y, posAt g Y = k1 + 1 → s.size - posAt g Y < s.size - k := fun Y hY => by rw [hY]; omega
                        exact hq _ (h1 _)
      · have hR : R = (r ++ [t], k1 + E, 0) := by rw [← HRe.out, rowE_end HFe.out hc, Ht.out, HEE.out]
        subst hR
        by_cases hE : 0 < E
        · have e2 : decide ((0 : Int) < (E : Int)) = true := decide_eq_true (by omega)
          go_wp2_with fail
          refine HFk.out.mono ?_
          rintro e' Y ⟨rfl, hP, hO⟩
          have HN : Hid (RowAt w g s Y u4 k1 r) := hA.out.next Hg.out hP hO
          clear hP hO
          simp only [← Ht.out]
          go_wp2_with (at_builtin; refine app_one rfl (.tmp 16) (.tmp 18) 31 rfl w.heap.size 9 i0 _ 16 Tryd.underlying31 hi0 hz0 hz1 hz2 rfl u4 r.length (txs r) rfl (by exact HN.out.own) (.string t) 1 rfl rfl Hl1.out Hl2.out HN.out.only.size ?_)
          intro v5 w5 h2 h3 h5
          have HM : Hid (RowAt w g s w5 v5 k1 (r ++ [t])) := HN.out.one Hg.out h2 h3
          have q0 : w5.cell? ⟨g, 0, none⟩ = some (.string s) := HM.out.ps.cell 0
          have q1 : w5.cell? ⟨g, 1, none⟩ = some (.int .i64 (k1 : Int)) := HM.out.ps.cell 1
          have q2 : w5.frozen? ⟨g, 1, none⟩ = false := HM.out.ps.frozen 1
          clear h2 h3 h5
          go_wp2_with fail
          refine (HLk.out _ (by exact HM.out.ps)).mono ?_
          rintro e' Z ⟨rfl, nq1, rfl⟩
          go_wp2_with fail
          go_quiet (fail)
          go_wp2_with fail
          have HS6 : Hid (∀ n, RowAt w g s ((w5.drewN n).setCell ⟨g, 1, none⟩ (.int .i64 ((k1 + E : Nat) : Int))) v5 (k1 + E) (r ++ [t])) := fun n => (HM.out.drewN n).set Hg.out (k1 + E)
          go_ret2
          exact ⟨_, rfl, (HS6.out _).ps, (HS6.out _).own, (HS6.out _).only⟩
        · have hE0 : E = 0 := by omega
          have e3 : decide ((0 : Int) < (E : Int)) = false := decide_eq_false (by omega)
          have e4 : decide (0 < E) = false := decide_eq_false (by omega)
          have hk2 : k1 = s.size := by
            have h1 := Hov.out rfl
            unfold overA at h1
            rw [HEE.out] at h1
            have := Hlen.out
            omega
          have e2 : ((k1 : Int) == (s.size : Int)) = true := by rw [hk2]; exact beq_self_eq_true _
          clear hk2 hE0
          go_wp2_with fail
          refine HFk.out.mono ?_
          rintro e' Y ⟨rfl, hP, hO⟩
          have HN : Hid (RowAt w g s Y u4 k1 r) := hA.out.next Hg.out hP hO
          clear hP hO
          simp only [← Ht.out]
          go_wp2_with (at_builtin; refine app_one rfl (.tmp 16) (.tmp 18) 31 rfl w.heap.size 9 i0 _ 16 Tryd.underlying31 hi0 hz0 hz1 hz2 rfl u4 r.length (txs r) rfl (by exact HN.out.own) (.string t) 1 rfl rfl Hl1.out Hl2.out HN.out.only.size ?_)
          intro v5 w5 h2 h3 h5
          have HM : Hid (RowAt w g s w5 v5 k1 (r ++ [t])) := HN.out.one Hg.out h2 h3
          have q0 : w5.cell? ⟨g, 0, none⟩ = some (.string s) := HM.out.ps.cell 0
          have q1 : w5.cell? ⟨g, 1, none⟩ = some (.int .i64 (k1 : Int)) := HM.out.ps.cell 1
          have q2 : w5.frozen? ⟨g, 1, none⟩ = false := HM.out.ps.frozen 1
          clear h2 h3 h5
          go_wp2_with fail
          refine (HLk.out _ (by exact HM.out.ps)).mono ?_
          rintro e' Z ⟨rfl, nq1, rfl⟩
          go_wp2_with fail
          go_quiet (fail)
          go_wp2_with fail
          have HS6 : Hid (∀ n, RowAt w g s ((w5.drewN n).setCell ⟨g, 1, none⟩ (.int .i64 ((k1 + E : Nat) : Int))) v5 (k1 + E) (r ++ [t])) := fun n => (HM.out.drewN n).set Hg.out (k1 + E)
          go_ret2
          exact ⟨_, rfl, (HS6.out _).ps, (HS6.out _).own, (HS6.out _).only⟩
    · have e1 : (e != 0) = true := by simpa using he
      have hR : R = ([], k1, e) := by rw [← hB.out.1, rowE_err (by rw [hFe]; exact he), hFe]
      subst hR
      clear he hok hml hFe hB
      go_wp2_with fail
      refine HFk.out.mono ?_
      rintro e' Y ⟨rfl, hP, hO⟩
      have HN := Lib.hid (hA.out.next Hg.out hP hO)
      clear hP hO
      go_wp2_with fail
      go_ret2
      exact ⟨_, rfl, HN.out.ps, OwnT.nil_ _ _, HN.out.only⟩
end Go.Proofs.YtceegpkgifflcaaDoor
