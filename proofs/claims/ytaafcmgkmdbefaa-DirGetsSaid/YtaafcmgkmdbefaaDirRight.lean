/- Walks over layer 12: Right, both. -/
import Derived.Test.YtaafcmgkmdbefaaEnts
namespace Go.Proofs.Ytaafcmgkmdbefaa
open Go.RowKit
set_option linter.unusedVariables false
set_option maxRecDepth 100000

def prv (l : List En) (k : Nat) : Option En := if k = 0 then none else l[k - 1]?
theorem prv_next (l : List En) (k : Nat) (h : k < l.length) : prv l (k + 1) = some l[k] := by
  unfold prv
  rw [if_neg (by omega), Nat.add_sub_cancel, List.getElem?_eq_getElem h]
theorem oneE_yes {e : En} (h : oneE e = true) : e.id < 4611686018427387904 ∧ e.run < 4294967296 ∧ 1 ≤ e.len ∧ e.len ≤ 4194304 ∧ e.off ≤ 4194304 := of_decide_eq_true h
theorem rgt_bad {p : Option En} {e : En} {l : List En} (h : oneE e = false) : rgt p (e :: l) = false := by unfold rgt; rw [h]; rfl
theorem rgt_aft {p : Option En} {e : En} {l : List En} (h : aftE p e = false) : rgt p (e :: l) = false := by unfold rgt; rw [h]; simp
theorem rgt_go {p : Option En} {e : En} {l : List En} (h : oneE e = true) (h2 : aftE p e = true) : rgt p (e :: l) = rgt (some e) l := by
  show (oneE e && (aftE p e && rgt (some e) l)) = _
  rw [h, h2]; rfl

set_option maxHeartbeats 16000000 in
theorem right_any (v : Value) (l : List En) (w : World) (h : RdE w w.heap.size v l) (hl : l.length ≤ 100000000) (R : Bool) (hR : rightE l = R) :
    Calls Try.prog 8 #[v] w fun e w' => e = .returned (.bool R) ∧ Below w.heap.size w w' := by
  obtain ⟨a, c, rfl, _, _, ha, hok⟩ := h
  obtain ⟨L, hL⟩ : ∃ L, L = l.length := ⟨_, rfl⟩
  have HA := Lib.hid ha
  have HL := Lib.hid hL
  rw [← hL] at hl ⊢
  unfold rightE at hR
  rw [← hL] at hR
  clear hL ha hok
  by_cases h1 : L < 1
  · have d1 : decide ((L : Int) < 1) = true := decide_eq_true (by omega)
    have e1 : R = false := by rw [← hR, decide_eq_false (by omega)]; rfl
    subst e1
    obtain rfl : L = 0 := by omega
    clear hR h1 HL
    go_enter Try.func8, Try.ntmps8
    go_wp2_with fail
    go_ret
    exact ⟨rfl, Below.refl _ _⟩
  · have d1 : decide ((L : Int) < 1) = false := decide_eq_false (by omega)
    have d1' : decide (L < 1) = false := decide_eq_false (by omega)
    by_cases h2 : 65536 < L
    · have d2 : decide ((65536 : Int) < (L : Int)) = true := decide_eq_true (by omega)
      have d2' : decide (65536 < L) = true := decide_eq_true (by omega)
      have e1 : R = false := by rw [← hR, decide_eq_false (by omega)]; rfl
      subst e1
      clear hR h2
      go_enter Try.func8, Try.ntmps8
      go_wp2_with fail
      go_ret
      exact ⟨rfl, Below.refl _ _⟩
    · have d2 : decide ((65536 : Int) < (L : Int)) = false := decide_eq_false (by omega)
      have d2' : decide (65536 < L) = false := decide_eq_false (by omega)
      rw [decide_eq_true (by omega), Bool.true_and] at hR
      have HR := Lib.hid hR
      clear hR
      go_enter Try.func8, Try.ntmps8
      go_wp2_with fail
      go_loopw [15] (fun i W => ∃ k : Nat, k ≤ L ∧ i = .int .i64 (k : Int) ∧ Hid (Below w.heap.size w W) ∧ Hid (rgt (prv l k) (l.drop k) = R) ∧ Hid (∀ q, prv l k = some q → oneE q = true)) (fun i _ => L - (intOf i).toNat)
      case atStart => exact ⟨0, Nat.zero_le _, rfl, Below.refl _ _, HR, Lib.hid (fun q hq => by cases hq)⟩
      case round =>
        obtain ⟨k, hk, rfl, HBW, HS, HQ⟩ := hrel
        by_cases hlt : k < L
        · have hkl : k < l.length := by have := HL.out; omega
          have hdr : l.drop k = l[k] :: l.drop (k + 1) := List.drop_eq_getElem_cons hkl
          have hnext := prv_next l k hkl
          obtain ⟨b1, o1, rfl, hb1, p0, p1, p2, p3⟩ := (HA.out.below HBW.out).at k hkl
          rw [hdr] at HS
          generalize l[k]'hkl = e at *
          obtain ⟨id, off, len, run⟩ := e
          simp only at p0 p1 p2 p3
          have hk0 : (0 : Int) ≤ (k : Int) := by omega
          have hk1 : (k : Int) < (L : Int) := by omega
          have HBA : Hid (Below w.heap.size w (wr.alloc (.cells #[.int .u64 (id : Int), .int .u64 (off : Int), .int .u64 (len : Int), .int .u64 (run : Int)] 39))) := below_then HBW.out ((Below.refl _ _).alloc (Nat.le_refl _) _) HBW.out.size
          clear hdr
          by_cases a0 : 4611686018427387904 ≤ id
          · have c0 : decide ((4611686018427387904 : Int) ≤ (id : Int)) = true := decide_eq_true (by omega)
            have hb : oneE ⟨id, off, len, run⟩ = false := decide_eq_false (fun h => by have h1 := h.1; have h2 := h.2.1; have h3 := h.2.2.1; have h4 := h.2.2.2.1; have h5 := h.2.2.2.2; simp only at h1 h2 h3 h4 h5; omega)
            have hs2 := HS.out
            rw [rgt_bad hb] at hs2
            subst hs2
            clear hb HS a0
            go_wp2_with fail
            go_ret
            exact ⟨rfl, HBA.out⟩
          · have c0 : decide ((4611686018427387904 : Int) ≤ (id : Int)) = false := decide_eq_false (by omega)
            by_cases a1 : 4294967296 ≤ run
            · have c1 : decide ((4294967296 : Int) ≤ (run : Int)) = true := decide_eq_true (by omega)
              have hb : oneE ⟨id, off, len, run⟩ = false := decide_eq_false (fun h => by have h1 := h.1; have h2 := h.2.1; have h3 := h.2.2.1; have h4 := h.2.2.2.1; have h5 := h.2.2.2.2; simp only at h1 h2 h3 h4 h5; omega)
              have hs2 := HS.out
              rw [rgt_bad hb] at hs2
              subst hs2
              clear hb HS a0 a1
              go_wp2_with fail
              go_ret
              exact ⟨rfl, HBA.out⟩
            · have c1 : decide ((4294967296 : Int) ≤ (run : Int)) = false := decide_eq_false (by omega)
              by_cases a2 : len < 1
              · have c2 : decide ((len : Int) < 1) = true := decide_eq_true (by omega)
                have hb : oneE ⟨id, off, len, run⟩ = false := decide_eq_false (fun h => by have h1 := h.1; have h2 := h.2.1; have h3 := h.2.2.1; have h4 := h.2.2.2.1; have h5 := h.2.2.2.2; simp only at h1 h2 h3 h4 h5; omega)
                have hs2 := HS.out
                rw [rgt_bad hb] at hs2
                subst hs2
                clear hb HS a0 a1 a2
                go_wp2_with fail
                go_ret
                exact ⟨rfl, HBA.out⟩
              · have c2 : decide ((len : Int) < 1) = false := decide_eq_false (by omega)
                by_cases a3 : 4194304 < len
                · have c3 : decide ((4194304 : Int) < (len : Int)) = true := decide_eq_true (by omega)
                  have hb : oneE ⟨id, off, len, run⟩ = false := decide_eq_false (fun h => by have h1 := h.1; have h2 := h.2.1; have h3 := h.2.2.1; have h4 := h.2.2.2.1; have h5 := h.2.2.2.2; simp only at h1 h2 h3 h4 h5; omega)
                  have hs2 := HS.out
                  rw [rgt_bad hb] at hs2
                  subst hs2
                  clear hb HS a0 a1 a2 a3
                  go_wp2_with fail
                  go_ret
                  exact ⟨rfl, HBA.out⟩
                · have c3 : decide ((4194304 : Int) < (len : Int)) = false := decide_eq_false (by omega)
                  by_cases a4 : 4194304 < off
                  · have c4 : decide ((4194304 : Int) < (off : Int)) = true := decide_eq_true (by omega)
                    have hb : oneE ⟨id, off, len, run⟩ = false := decide_eq_false (fun h => by have h1 := h.1; have h2 := h.2.1; have h3 := h.2.2.1; have h4 := h.2.2.2.1; have h5 := h.2.2.2.2; simp only at h1 h2 h3 h4 h5; omega)
                    have hs2 := HS.out
                    rw [rgt_bad hb] at hs2
                    subst hs2
                    clear hb HS a0 a1 a2 a3 a4
                    go_wp2_with fail
                    go_ret
                    exact ⟨rfl, HBA.out⟩
                  · have c4 : decide ((4194304 : Int) < (off : Int)) = false := decide_eq_false (by omega)
                    have hone : oneE ⟨id, off, len, run⟩ = true := decide_eq_true ⟨by simp only; omega, by simp only; omega, by simp only; omega, by simp only; omega, by simp only; omega⟩
                    have HQ2 : Hid (∀ q, prv l (k + 1) = some q → oneE q = true) := fun q hq => by rw [hnext] at hq; injection hq with hq; rw [← hq]; exact hone
                    clear a0 a1 a2 a3 a4
                    rcases Nat.eq_zero_or_pos k with hk0 | hk0
                    · have n1 : decide ((0 : Int) < (k : Int)) = false := decide_eq_false (by omega)
                      have n2 : decide (0 < k) = false := decide_eq_false (by omega)
                      have hat : aftE (prv l k) ⟨id, off, len, run⟩ = true := by unfold prv; rw [if_pos hk0]; rfl
                      have HS2 := Lib.hid (show rgt (prv l (k + 1)) (l.drop (k + 1)) = R by rw [hnext, ← rgt_go hone hat]; exact HS.out)
                      clear HS hat hone hnext hk0
                      go_wp2_with fail
                      go_quiet (fail)
                      go_wp2_with fail
                      go_roundw
                      case rel => exact ⟨k + 1, hlt, by go_num, below_drawnE HBA.out _, HS2, HQ2⟩
                      case measure => simp [intOf] <;> omega
                    · have n1 : decide ((0 : Int) < (k : Int)) = true := decide_eq_true (by omega)
                      have n2 : decide (0 < k) = true := decide_eq_true hk0
                      obtain ⟨j, hj⟩ : ∃ j, j + 1 = k := ⟨k - 1, by omega⟩
                      have hjl : j < l.length := by have := HL.out; omega
                      have hpv : prv l k = some l[j] := by rw [← hj]; exact prv_next l j hjl
                      have hqo := oneE_yes (HQ.out _ hpv)
                      obtain ⟨b2, o2, e2, h2, q0, q1, q2, q3⟩ := (HA.out.below HBA.out).at j hjl
                      injection e2 with e2
                      injection e2 with e3 e4
                      subst e3 e4
                      generalize l[j]'hjl = q at *
                      obtain ⟨qid, qoff, qlen, qrun⟩ := q
                      simp only at q0 q1 q2 q3 hqo
                      obtain ⟨g0, g1, _, _, _⟩ := hqo
                      have n3 : IntKind.i64.wrap ((k : Int) - 1) = (j : Int) := by rw [IntWalk.i64_in _ ⟨by omega, by omega⟩]; omega
                      have n4 : (0 : Int) ≤ (j : Int) := by omega
                      have n5 : (j : Int) < (L : Int) := by omega
                      have hM : ∃ M : Nat, max 1 qrun = M ∧ M ≤ 4294967296 ∧ (if (1 : Int) < (qrun : Int) then (qrun : Int) else 1) = (M : Int) := ⟨_, rfl, by omega, by split <;> omega⟩
                      obtain ⟨M, hM, hM2, s2⟩ := hM
                      have s1 : IntKind.u64.wrap ((qid : Int) + (M : Int)) = ((qid + M : Nat) : Int) := by rw [IntWalk.u64_in _ ⟨by omega, by omega⟩]; omega
                      by_cases b0 : qid + max 1 qrun ≤ id
                      · have z1 : decide ((id : Int) < ((qid + M : Nat) : Int)) = false := decide_eq_false (by omega)
                        obtain ⟨S, hSS⟩ : ∃ S : Nat, qid + M = S := ⟨_, rfl⟩
                        rw [hSS] at s1 z1
                        have z2 : decide (id < S) = false := decide_eq_false (by omega)
                        have hat : aftE (prv l k) ⟨id, off, len, run⟩ = true := by rw [hpv]; exact decide_eq_true b0
                        have HS2 := Lib.hid (show rgt (prv l (k + 1)) (l.drop (k + 1)) = R by rw [hnext, ← rgt_go hone hat]; exact HS.out)
                        clear HS hat hone hpv b0 hM hSS hnext
                        go_wp2_with fail
                        go_quiet (fail)
                        go_wp2_with fail
                        go_roundw
                        case rel => exact ⟨k + 1, hlt, by go_num, below_drawnE HBA.out _, HS2, HQ2⟩
                        case measure => simp [intOf] <;> omega
                      · have z1 : decide ((id : Int) < ((qid + M : Nat) : Int)) = true := decide_eq_true (by omega)
                        obtain ⟨S, hSS⟩ : ∃ S : Nat, qid + M = S := ⟨_, rfl⟩
                        rw [hSS] at s1 z1
                        have z2 : decide (id < S) = true := decide_eq_true (by omega)
                        have hat : aftE (prv l k) ⟨id, off, len, run⟩ = false := by rw [hpv]; exact decide_eq_false b0
                        have hs2 := HS.out
                        rw [rgt_aft hat] at hs2
                        subst hs2
                        clear HS hat hone hpv b0 hM hSS hnext HQ2
                        go_wp2_with fail
                        go_quiet (fail)
                        go_wp2_with fail
                        go_ret
                        exact ⟨rfl, below_drawnE HBA.out _⟩
        · obtain rfl : k = L := by omega
          rw [List.drop_of_length_le (by have := HL.out; omega)] at HS
          have e1 : true = R := HS.out
          subst e1
          go_wp2_with fail
          go_ret
          exact ⟨rfl, HBW.out⟩

set_option maxHeartbeats 16000000 in
theorem refRight_any (v : Value) (l : List En) (w : World) (h : RdE w w.heap.size v l) (hl : l.length ≤ 100000000) (R : Bool) (hR : rightE l = R) :
    Calls Try.prog 9 #[v] w fun e w' => e = .returned (.bool R) ∧ Below w.heap.size w w' := by
  obtain ⟨a, c, rfl, _, _, ha, hok⟩ := h
  obtain ⟨L, hL⟩ : ∃ L, L = l.length := ⟨_, rfl⟩
  have HA := Lib.hid ha
  have HL := Lib.hid hL
  rw [← hL] at hl ⊢
  unfold rightE at hR
  rw [← hL] at hR
  clear hL ha hok
  by_cases h1 : L < 1
  · have d1 : decide ((L : Int) < 1) = true := decide_eq_true (by omega)
    have e1 : R = false := by rw [← hR, decide_eq_false (by omega)]; rfl
    subst e1
    obtain rfl : L = 0 := by omega
    clear hR h1 HL
    go_enter Try.func9, Try.ntmps9
    go_wp2_with fail
    go_ret
    exact ⟨rfl, Below.refl _ _⟩
  · have d1 : decide ((L : Int) < 1) = false := decide_eq_false (by omega)
    have d1' : decide (L < 1) = false := decide_eq_false (by omega)
    by_cases h2 : 65536 < L
    · have d2 : decide ((65536 : Int) < (L : Int)) = true := decide_eq_true (by omega)
      have d2' : decide (65536 < L) = true := decide_eq_true (by omega)
      have e1 : R = false := by rw [← hR, decide_eq_false (by omega)]; rfl
      subst e1
      clear hR h2
      go_enter Try.func9, Try.ntmps9
      go_wp2_with fail
      go_ret
      exact ⟨rfl, Below.refl _ _⟩
    · have d2 : decide ((65536 : Int) < (L : Int)) = false := decide_eq_false (by omega)
      have d2' : decide (65536 < L) = false := decide_eq_false (by omega)
      rw [decide_eq_true (by omega), Bool.true_and] at hR
      have HR := Lib.hid hR
      clear hR
      go_enter Try.func9, Try.ntmps9
      go_wp2_with fail
      go_loopw [3] (fun i W => ∃ k : Nat, k ≤ L ∧ i = .int .i64 (k : Int) ∧ Hid (Below w.heap.size w W) ∧ Hid (rgt (prv l k) (l.drop k) = R) ∧ Hid (∀ q, prv l k = some q → oneE q = true)) (fun i _ => L - (intOf i).toNat)
      case atStart => exact ⟨0, Nat.zero_le _, rfl, Below.refl _ _, HR, Lib.hid (fun q hq => by cases hq)⟩
      case round =>
        obtain ⟨k, hk, rfl, HBW, HS, HQ⟩ := hrel
        by_cases hlt : k < L
        · have hkl : k < l.length := by have := HL.out; omega
          have hdr : l.drop k = l[k] :: l.drop (k + 1) := List.drop_eq_getElem_cons hkl
          have hnext := prv_next l k hkl
          obtain ⟨b1, o1, rfl, hb1, p0, p1, p2, p3⟩ := (HA.out.below HBW.out).at k hkl
          rw [hdr] at HS
          generalize l[k]'hkl = e at *
          obtain ⟨id, off, len, run⟩ := e
          simp only at p0 p1 p2 p3
          have hk0 : (0 : Int) ≤ (k : Int) := by omega
          have hk1 : (k : Int) < (L : Int) := by omega
          have HBA : Hid (Below w.heap.size w (wr.alloc (.cells #[.int .u64 (id : Int), .int .u64 (off : Int), .int .u64 (len : Int), .int .u64 (run : Int)] 39))) := below_then HBW.out ((Below.refl _ _).alloc (Nat.le_refl _) _) HBW.out.size
          clear hdr
          by_cases a0 : 4611686018427387904 ≤ id
          · have c0 : decide ((4611686018427387904 : Int) ≤ (id : Int)) = true := decide_eq_true (by omega)
            have hb : oneE ⟨id, off, len, run⟩ = false := decide_eq_false (fun h => by have h1 := h.1; have h2 := h.2.1; have h3 := h.2.2.1; have h4 := h.2.2.2.1; have h5 := h.2.2.2.2; simp only at h1 h2 h3 h4 h5; omega)
            have hs2 := HS.out
            rw [rgt_bad hb] at hs2
            subst hs2
            clear hb HS a0
            go_wp2_with fail
            go_ret
            exact ⟨rfl, HBA.out⟩
          · have c0 : decide ((4611686018427387904 : Int) ≤ (id : Int)) = false := decide_eq_false (by omega)
            by_cases a1 : 4294967296 ≤ run
            · have c1 : decide ((4294967296 : Int) ≤ (run : Int)) = true := decide_eq_true (by omega)
              have hb : oneE ⟨id, off, len, run⟩ = false := decide_eq_false (fun h => by have h1 := h.1; have h2 := h.2.1; have h3 := h.2.2.1; have h4 := h.2.2.2.1; have h5 := h.2.2.2.2; simp only at h1 h2 h3 h4 h5; omega)
              have hs2 := HS.out
              rw [rgt_bad hb] at hs2
              subst hs2
              clear hb HS a0 a1
              go_wp2_with fail
              go_ret
              exact ⟨rfl, HBA.out⟩
            · have c1 : decide ((4294967296 : Int) ≤ (run : Int)) = false := decide_eq_false (by omega)
              by_cases a2 : len < 1
              · obtain rfl : len = 0 := by omega
                have hb : oneE ⟨id, off, 0, run⟩ = false := decide_eq_false (fun h => by have h1 := h.1; have h2 := h.2.1; have h3 := h.2.2.1; have h4 := h.2.2.2.1; have h5 := h.2.2.2.2; simp only at h1 h2 h3 h4 h5; omega)
                have hs2 := HS.out
                rw [rgt_bad hb] at hs2
                subst hs2
                clear hb HS a0 a1 a2
                go_wp2_with fail
                go_ret
                exact ⟨rfl, HBA.out⟩
              · have c2 : ((len : Int) == 0) = false := beq_eq_false_iff_ne.mpr (by omega)
                by_cases a3 : 4194304 < len
                · have c3 : decide ((4194304 : Int) < (len : Int)) = true := decide_eq_true (by omega)
                  have hb : oneE ⟨id, off, len, run⟩ = false := decide_eq_false (fun h => by have h1 := h.1; have h2 := h.2.1; have h3 := h.2.2.1; have h4 := h.2.2.2.1; have h5 := h.2.2.2.2; simp only at h1 h2 h3 h4 h5; omega)
                  have hs2 := HS.out
                  rw [rgt_bad hb] at hs2
                  subst hs2
                  clear hb HS a0 a1 a2 a3
                  go_wp2_with fail
                  go_ret
                  exact ⟨rfl, HBA.out⟩
                · have c3 : decide ((4194304 : Int) < (len : Int)) = false := decide_eq_false (by omega)
                  by_cases a4 : 4194304 < off
                  · have c4 : decide ((4194304 : Int) < (off : Int)) = true := decide_eq_true (by omega)
                    have hb : oneE ⟨id, off, len, run⟩ = false := decide_eq_false (fun h => by have h1 := h.1; have h2 := h.2.1; have h3 := h.2.2.1; have h4 := h.2.2.2.1; have h5 := h.2.2.2.2; simp only at h1 h2 h3 h4 h5; omega)
                    have hs2 := HS.out
                    rw [rgt_bad hb] at hs2
                    subst hs2
                    clear hb HS a0 a1 a2 a3 a4
                    go_wp2_with fail
                    go_ret
                    exact ⟨rfl, HBA.out⟩
                  · have c4 : decide ((4194304 : Int) < (off : Int)) = false := decide_eq_false (by omega)
                    have hone : oneE ⟨id, off, len, run⟩ = true := decide_eq_true ⟨by simp only; omega, by simp only; omega, by simp only; omega, by simp only; omega, by simp only; omega⟩
                    have HQ2 : Hid (∀ q, prv l (k + 1) = some q → oneE q = true) := fun q hq => by rw [hnext] at hq; injection hq with hq; rw [← hq]; exact hone
                    clear a0 a1 a2 a3 a4
                    rcases Nat.eq_zero_or_pos k with hk0 | hk0
                    · have n1 : decide ((0 : Int) < (k : Int)) = false := decide_eq_false (by omega)
                      have n2 : decide (0 < k) = false := decide_eq_false (by omega)
                      have hat : aftE (prv l k) ⟨id, off, len, run⟩ = true := by unfold prv; rw [if_pos hk0]; rfl
                      have HS2 := Lib.hid (show rgt (prv l (k + 1)) (l.drop (k + 1)) = R by rw [hnext, ← rgt_go hone hat]; exact HS.out)
                      clear HS hat hone hnext hk0
                      go_wp2_with fail
                      go_quiet (fail)
                      go_wp2_with fail
                      go_roundw
                      case rel => exact ⟨k + 1, hlt, by go_num, below_drawnE HBA.out _, HS2, HQ2⟩
                      case measure => simp [intOf] <;> omega
                    · have n1 : decide ((0 : Int) < (k : Int)) = true := decide_eq_true (by omega)
                      have n2 : decide (0 < k) = true := decide_eq_true hk0
                      obtain ⟨j, hj⟩ : ∃ j, j + 1 = k := ⟨k - 1, by omega⟩
                      have hjl : j < l.length := by have := HL.out; omega
                      have hpv : prv l k = some l[j] := by rw [← hj]; exact prv_next l j hjl
                      have hqo := oneE_yes (HQ.out _ hpv)
                      obtain ⟨b2, o2, e2, h2, q0, q1, q2, q3⟩ := (HA.out.below HBA.out).at j hjl
                      injection e2 with e2
                      injection e2 with e3 e4
                      subst e3 e4
                      generalize l[j]'hjl = q at *
                      obtain ⟨qid, qoff, qlen, qrun⟩ := q
                      simp only at q0 q1 q2 q3 hqo
                      obtain ⟨g0, g1, _, _, _⟩ := hqo
                      have n3 : IntKind.i64.wrap ((k : Int) - 1) = (j : Int) := by rw [IntWalk.i64_in _ ⟨by omega, by omega⟩]; omega
                      have n4 : (0 : Int) ≤ (j : Int) := by omega
                      have n5 : (j : Int) < (L : Int) := by omega
                      have s1 : IntKind.u64.wrap ((qid : Int) + (qrun : Int)) = ((qid + qrun : Nat) : Int) := by rw [IntWalk.u64_in _ ⟨by omega, by omega⟩]; omega
                      obtain ⟨S, hSS⟩ : ∃ S : Nat, qid + qrun = S := ⟨_, rfl⟩
                      rw [hSS] at s1
                      by_cases b1 : id ≤ qid
                      · have z0 : decide ((id : Int) ≤ (qid : Int)) = true := decide_eq_true (by omega)
                        have z3 : decide (id ≤ qid) = true := decide_eq_true (by omega)
                        have hat : aftE (prv l k) ⟨id, off, len, run⟩ = false := by rw [hpv]; exact decide_eq_false (fun h => by simp only at h; omega)
                        have hs2 := HS.out
                        rw [rgt_aft hat] at hs2
                        subst hs2
                        clear HS hat hone hpv b1 hSS hnext HQ2
                        go_wp2_with fail
                        go_quiet (fail)
                        go_wp2_with fail
                        go_ret
                        exact ⟨rfl, below_drawnE HBA.out _⟩
                      · have z0 : decide ((id : Int) ≤ (qid : Int)) = false := decide_eq_false (by omega)
                        have z3 : decide (id ≤ qid) = false := decide_eq_false (by omega)
                        by_cases b2 : id < qid + qrun
                        · have z1 : decide ((id : Int) < (S : Int)) = true := decide_eq_true (by omega)
                          have z4 : decide (id < S) = true := decide_eq_true (by omega)
                          have hat : aftE (prv l k) ⟨id, off, len, run⟩ = false := by rw [hpv]; exact decide_eq_false (fun h => by simp only at h; omega)
                          have hs2 := HS.out
                          rw [rgt_aft hat] at hs2
                          subst hs2
                          clear HS hat hone hpv b1 b2 hSS hnext HQ2
                          go_wp2_with fail
                          go_quiet (fail)
                          go_wp2_with fail
                          go_ret
                          exact ⟨rfl, below_drawnE HBA.out _⟩
                        · have z1 : decide ((id : Int) < (S : Int)) = false := decide_eq_false (by omega)
                          have z4 : decide (id < S) = false := decide_eq_false (by omega)
                          have hat : aftE (prv l k) ⟨id, off, len, run⟩ = true := by rw [hpv]; exact decide_eq_true (by simp only; omega)
                          have HS2 := Lib.hid (show rgt (prv l (k + 1)) (l.drop (k + 1)) = R by rw [hnext, ← rgt_go hone hat]; exact HS.out)
                          clear HS hat hone hpv b1 b2 hSS hnext
                          go_wp2_with fail
                          go_quiet (fail)
                          go_wp2_with fail
                          go_roundw
                          case rel => exact ⟨k + 1, hlt, by go_num, below_drawnE HBA.out _, HS2, HQ2⟩
                          case measure => simp [intOf] <;> omega
        · obtain rfl : k = L := by omega
          rw [List.drop_of_length_le (by have := HL.out; omega)] at HS
          have e1 : true = R := HS.out
          subst e1
          go_wp2_with fail
          go_ret
          exact ⟨rfl, HBW.out⟩
end Go.Proofs.Ytaafcmgkmdbefaa
