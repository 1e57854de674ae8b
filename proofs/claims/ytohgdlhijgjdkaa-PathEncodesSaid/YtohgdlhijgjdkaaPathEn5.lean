/- Layer 9: the writer's path. -/
import Derived.Test.YtohgdlhijgjdkaaPathEn4
namespace Go.Proofs.Ytohgdlhijgjdkaa
open Go.RowKit
set_option linter.unusedVariables false
set_option maxRecDepth 100000

/-- The numbers of one path behind the point q. -/
def encN (kind : Nat) (q : P2) (l : List P2) : List Nat :=
  if kind = 1 then (8 * l.length + 1) :: runE q l else
  (9 :: runE q (l.take 1)) ++ (((8 * (l.length - 1) + 2) :: runE (endP q (l.take 1)) (l.drop 1)) ++ (if kind = 3 then [15] else []))
theorem endP_split (q : P2) (l : List P2) : endP (endP q (l.take 1)) (l.drop 1) = endP q l := by
  cases l with
  | nil => rfl
  | cons p r => rfl
theorem PAt.tail {w : World} {B : Nat} {b off : Nat} {p : P2} {r : List P2} (h : PAt w B (some ⟨b, off, none⟩) (p :: r)) (A : Option Addr) (hA : 0 < r.length → A = some ⟨b, off + 2, none⟩) : PAt w B A r := by
  refine ⟨pts_length r, fun hp => ?_⟩
  rw [pts_length] at hp
  obtain ⟨b', off', e, hb, hc⟩ := h.2 (by rw [pts_length]; simp)
  injection e with e
  injection e with e1 e2
  subst e1 e2
  refine ⟨b, off + 2, hA (by omega), hb, fun i hi => ?_⟩
  have := hc (i + 2) (by rw [pts_length] at hi ⊢; simp; omega)
  rw [show off + 2 + i = off + (i + 2) by omega, this]
  simp [pts]
theorem PAt.head {w : World} {B : Nat} {A : Option Addr} {p : P2} {r : List P2} (h : PAt w B A (p :: r)) : PAt w B A [p] := by
  refine ⟨pts_length _, fun hp => ?_⟩
  obtain ⟨b, off, e, hb, hc⟩ := h.2 (by rw [pts_length]; simp)
  refine ⟨b, off, e, hb, fun i hi => ?_⟩
  rw [hc i (by rw [pts_length] at hi ⊢; simp at hi ⊢; omega)]
  have : i < 2 := by rw [pts_length] at hi; simpa using hi
  simp only [pts, List.flatMap_cons, List.flatMap_nil, List.append_nil]
  rw [List.getElem?_append_left (by simpa using this)]
set_option maxHeartbeats 8000000 in
theorem wpath_any (base g : Nat) (K : Int) (kind : Nat) (hK : K = (kind : Int)) (v : Value) (m : List Nat) (q : P2) (l : List P2) (w : World) (a : Option Addr) (c : Nat) (h : Wp w base g v m q.1 q.2) (hr : PAt w base a l) (hlc : l.length ≤ c) (hcm : c ≤ maxLen) (hB : base ≤ w.heap.size) (hg : base ≤ g) (hl : l.length ≤ 1000) (hl1 : 1 ≤ l.length) (hm : m.length ≤ 5000) (hq : inP q) (hin : ∀ p ∈ l, inP p) :
    Calls Try.prog 22 #[.pointer (some ⟨g, 0, none⟩), .int .i64 K, .slice a l.length c] w fun e w' => e = .returned (.tuple #[]) ∧ ∃ v', Wp w' base g v' (m ++ encN kind q l) (endP q l).1 (endP q l).2 ∧ Below base w w' := by
  by_cases hk1 : kind = 1
  · have dk : (K == 1) = true := by simp; omega
    have Hq := Lib.hid (wrun_any base g 1 v m q l w a c h hr hB hg (by omega) hl (by omega) hq hin)
    obtain ⟨T, hT⟩ : ∃ T, T = m ++ ((8 * l.length + 1) :: runE q l) := ⟨_, rfl⟩
    have hen : m ++ encN kind q l = T := by rw [hT]; unfold encN; rw [if_pos hk1]
    rw [hen]
    rw [← hT] at Hq
    obtain ⟨E, hE⟩ : ∃ E, E = endP q l := ⟨_, rfl⟩
    rw [← hE] at Hq ⊢
    obtain ⟨L, hL⟩ : ∃ z, z = l.length := ⟨_, rfl⟩
    rw [← hL] at Hq ⊢
    clear h hr hT hen hE hL hK hk1 hl hl1 hm hq hin hlc
    go_enter Try.func22, Try.ntmps22
    go_wp2_with fail
    refine Hq.out.mono ?_
    rintro e X ⟨rfl, hX⟩
    have HX := Lib.hid hX
    clear hX
    go_wp2_with fail
    exact bodyPost_ret (v := .tuple #[]) (by simp [results, Try.results22, go_sem]) rfl ⟨rfl, HX.out⟩
  · have dk : (K == 1) = false := by simp; omega
    cases l with
    | nil => simp at hl1
    | cons p r =>
      obtain ⟨b, off, rfl, hb, _⟩ := hr.2 (by rw [pts_length]; simp)
      have Hq1 := Lib.hid (wrun_any base g 1 v m q [p] w (some ⟨b, off, none⟩) c h hr.head hB hg (by omega) (by simp) (by omega) hq (fun x hx => hin x (by rw [List.mem_singleton.1 hx]; exact List.mem_cons_self ..)))
      obtain ⟨m1, hm1⟩ : ∃ z, z = m ++ ((8 * [p].length + 1) :: runE q [p]) := ⟨_, rfl⟩
      rw [← hm1] at Hq1
      have hm1l : m1.length ≤ 5010 := by rw [hm1]; simp [runE]; omega
      have hpin : inP p := hin p (List.mem_cons_self ..)
      have Hq2 := Lib.hid fun W v' A (hW : Wp W base g v' m1 p.1 p.2) (hb : Below base w W) (hA : 0 < r.length → A = some ⟨b, off + 2, none⟩) (c' : Nat) => wrun_any base g 2 v' m1 p r W A c' hW ((hr.tail A hA).below hb) (Nat.le_trans hB hb.size) hg (by omega) (by simp at hl; omega) (by omega) hpin (fun x hx => hin x (List.mem_cons_of_mem _ hx))
      obtain ⟨T, hT⟩ : ∃ T, T = m1 ++ ((8 * r.length + 2) :: runE p r) := ⟨_, rfl⟩
      have hTl : T.length ≤ 8000 := by
        have key : ∀ (r : List P2) (q : P2), (runE q r).length = 2 * r.length := by
          intro r
          induction r with
          | nil => intro q; rfl
          | cons p r ih => intro q; simp [runE, ih]; omega
        rw [hT]; simp [key]; simp at hl; omega
      have hen : m ++ encN kind q (p :: r) = T ++ (if kind = 3 then [15] else []) := by
        rw [hT, hm1]; unfold encN; rw [if_neg hk1]
        simp [endP]
      obtain ⟨E, hE⟩ : ∃ E, E = endP p r := ⟨_, rfl⟩
      have hE2 : endP q (p :: r) = E := by rw [hE]; rfl
      rw [hen, hE2]
      simp only [← hT, ← hE] at Hq2
      have hE1 : endP q [p] = p := rfl
      rw [hE1] at Hq1
      obtain ⟨R, hR⟩ : ∃ z, z = r.length := ⟨_, rfl⟩
      have hR1 : (p :: r).length = R + 1 := by rw [hR]; rfl
      rw [hR1] at hlc ⊢
      simp only [← hR] at Hq2
      have h1c : (1 : Int) ≤ (c : Int) := by omega
      have h1R : (1 : Int) ≤ ((R + 1 : Nat) : Int) := by omega
      have hRc : ((R + 1 : Nat) : Int) ≤ (c : Int) := by omega
      have hcm' : c ≤ 9223372036854775807 := hcm
      have hKk := Lib.hid hK
      have hRr := Lib.hid hR
      clear h hr hT hm1 hen hE hE2 hE1 hR hR1 hK hl hl1 hm hq hin hpin
      by_cases hk3 : kind = 3
      · have dk3 : (K == 3) = true := by have := hKk.out; simp; omega
        rw [if_pos hk3]
        have Hc := Lib.hid fun W v' (hW : Wp W base g v' T E.1 E.2) (hb : base ≤ W.heap.size) => wcommand_any base g v' T E.1 E.2 7 1 W hW hb hg (by omega) (by omega) (by omega)
        clear hk3 hk1
        go_enter Try.func22, Try.ntmps22
        go_wp2_with fail
        refine Hq1.out.mono ?_
        rintro e W1 ⟨rfl, v1, hW1, hb1⟩
        go_wp2_with fail
        · next hc1 =>
          refine (Hq2.out W1 v1 (some ⟨b, off, none⟩) hW1 hb1 (fun hl => by have := hRr.out; omega) 0).mono ?_
          rintro e W2 ⟨rfl, v2, hW2, hb2⟩
          have HC := Lib.hid (Hc.out W2 v2 hW2 (Nat.le_trans hB (Nat.le_trans hb1.size hb2.size)))
          have HB := Lib.hid (hb1.trans hb2)
          clear hW2 hb1 hb2 hW1
          go_wp2_with fail
          refine HC.out.mono ?_
          rintro e W3 ⟨rfl, v3, hW3, hb3⟩
          have HW := Lib.hid hW3
          have HB := Lib.hid (HB.out.trans hb3)
          clear hW3 hb3
          go_wp2_with fail
          go_end0
          exact ⟨rfl, _, HW.out, HB.out⟩
        · refine (Hq2.out W1 v1 (some ⟨b, off + 2, none⟩) hW1 hb1 (fun _ => rfl) (c - 1)).mono ?_
          rintro e W2 ⟨rfl, v2, hW2, hb2⟩
          have HC := Lib.hid (Hc.out W2 v2 hW2 (Nat.le_trans hB (Nat.le_trans hb1.size hb2.size)))
          have HB := Lib.hid (hb1.trans hb2)
          clear hW2 hb1 hb2 hW1
          go_wp2_with fail
          refine HC.out.mono ?_
          rintro e W3 ⟨rfl, v3, hW3, hb3⟩
          have HW := Lib.hid hW3
          have HB := Lib.hid (HB.out.trans hb3)
          clear hW3 hb3
          go_wp2_with fail
          go_end0
          exact ⟨rfl, _, HW.out, HB.out⟩
      · have dk3 : (K == 3) = false := by have := hKk.out; simp; omega
        rw [if_neg hk3, List.append_nil]
        clear hk3 hk1
        go_enter Try.func22, Try.ntmps22
        go_wp2_with fail
        refine Hq1.out.mono ?_
        rintro e W1 ⟨rfl, v1, hW1, hb1⟩
        go_wp2_with fail
        · next hc1 =>
          refine (Hq2.out W1 v1 (some ⟨b, off, none⟩) hW1 hb1 (fun hl => by have := hRr.out; omega) 0).mono ?_
          rintro e W2 ⟨rfl, v2, hW2, hb2⟩
          have HW := Lib.hid hW2
          have HB := Lib.hid (hb1.trans hb2)
          clear hW2 hb1 hb2 hW1
          go_wp2_with fail
          go_end0
          exact ⟨rfl, _, HW.out, HB.out⟩
        · refine (Hq2.out W1 v1 (some ⟨b, off + 2, none⟩) hW1 hb1 (fun _ => rfl) (c - 1)).mono ?_
          rintro e W2 ⟨rfl, v2, hW2, hb2⟩
          have HW := Lib.hid hW2
          have HB := Lib.hid (hb1.trans hb2)
          clear hW2 hb1 hb2 hW1
          go_wp2_with fail
          go_end0
          exact ⟨rfl, _, HW.out, HB.out⟩
end Go.Proofs.Ytohgdlhijgjdkaa
