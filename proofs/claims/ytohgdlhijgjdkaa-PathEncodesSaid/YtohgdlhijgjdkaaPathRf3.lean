/- Layer 9: the reference's Decode, walked. -/
import Derived.Test.YtohgdlhijgjdkaaPathRf2
namespace Go.Proofs.Ytohgdlhijgjdkaa
open Go.RowKit
set_option linter.unusedVariables false
set_option maxRecDepth 100000

theorem loopM_err {kind f : Nat} {l : List Nat} {p : P2} {acc : List (List P2)} {e : Nat} (h : stepM kind l p = .error e) : loopM kind (f + 1) l p acc = .error e := by simp [loopM, h]
theorem loopM_ok {kind f : Nat} {l r : List Nat} {p q : P2} {a : List P2} {acc : List (List P2)} (h : stepM kind l p = .ok (a, r, q)) : loopM kind (f + 1) l p acc = if r = [] then .ok (acc ++ [a]) else if kind = 1 then .error 3 else loopM kind f r q (acc ++ [a]) := by simp [loopM, h]
theorem step1_err {l : List Nat} {p : P2} {e : Nat} (h : cmdM 1 1 536870912 l = .error e) : stepM 1 l p = .error e := by simp [stepM, h]
theorem step1_ok {l r : List Nat} {p : P2} {n : Nat} (h : cmdM 1 1 536870912 l = .ok (n, r)) : stepM 1 l p = ptsM n r p [] := by simp [stepM, h]
theorem step2_err {kind : Nat} (hk : kind ≠ 1) {l : List Nat} {p : P2} {e : Nat} (h : cmdM 1 1 1 l = .error e) : stepM kind l p = .error e := by simp [stepM, hk, groupM, h]
theorem step2_err2 {kind : Nat} (hk : kind ≠ 1) {l r : List Nat} {p : P2} {n e : Nat} (h : cmdM 1 1 1 l = .ok (n, r)) (h2 : ptsM n r p [] = .error e) : stepM kind l p = .error e := by simp [stepM, hk, groupM, h, h2]
theorem step2_err3 {kind : Nat} (hk : kind ≠ 1) {l r r2 : List Nat} {p p2 : P2} {a : List P2} {n e : Nat} (h : cmdM 1 1 1 l = .ok (n, r)) (h2 : ptsM n r p [] = .ok (a, r2, p2)) (h3 : cmdM 2 (kind - 1) 536870912 r2 = .error e) : stepM kind l p = .error e := by simp [stepM, hk, groupM, h, h2, h3]
theorem step2_err4 {kind : Nat} (hk : kind ≠ 1) {l r r2 r3 : List Nat} {p p2 : P2} {a : List P2} {n n2 e : Nat} (h : cmdM 1 1 1 l = .ok (n, r)) (h2 : ptsM n r p [] = .ok (a, r2, p2)) (h3 : cmdM 2 (kind - 1) 536870912 r2 = .ok (n2, r3)) (h4 : ptsM n2 r3 p2 [] = .error e) : stepM kind l p = .error e := by
  have h5 : ptsM n2 r3 p2 a = .error e := by rw [ptsM_acc, h4]
  simp [stepM, hk, groupM, h, h2, h3, h5]
theorem step2_ok {kind : Nat} (hk : kind ≠ 1) {l r r2 r3 r4 : List Nat} {p p2 p3 : P2} {a b : List P2} {n n2 : Nat} (h : cmdM 1 1 1 l = .ok (n, r)) (h2 : ptsM n r p [] = .ok (a, r2, p2)) (h3 : cmdM 2 (kind - 1) 536870912 r2 = .ok (n2, r3)) (h4 : ptsM n2 r3 p2 [] = .ok (b, r4, p3)) :
    stepM kind l p = if kind = 3 then (match cmdM 7 1 1 r4 with | .error e => .error e | .ok (_, r5) => .ok (a ++ b, r5, p3)) else .ok (a ++ b, r4, p3) := by
  have h5 : ptsM n2 r3 p2 a = .ok (a ++ b, r4, p3) := by rw [ptsM_acc, h4]
  simp only [stepM, hk, groupM, h, h2, h3, h5, if_false]
  by_cases h6 : kind = 3
  · rw [if_pos h6, if_pos h6]
    cases cmdM 7 1 1 r4 <;> rfl
  · rw [if_neg h6, if_neg h6]
theorem last_at {b : List P2} {q : P2} {a : List P2} {m : Nat} (h : a = b ++ [q]) (hm : a.length = m + 1) (hi : m < a.length) : a[m] = q := by
  subst h
  have : m = b.length := by simp at hm; omega
  subst this
  simp
theorem ptsM_pos : ∀ {n : Nat} {l : List Nat} {p : P2} {acc : List P2} {e : Nat}, ptsM n l p acc = .error e → e ≠ 0
  | 0, l, p, acc, e, h => by simp [ptsM] at h
  | n + 1, l, p, acc, e, h => by
    cases h1 : crd p.1 l with
    | error e1 =>
      rw [ptsM_err l p acc n h1] at h
      injection h with h
      have := crd_err h1; omega
    | ok v =>
      obtain ⟨x, r1⟩ := v
      cases h2 : crd p.2 r1 with
      | error e1 =>
        rw [ptsM_err2 l r1 p acc n h1 h2] at h
        injection h with h
        have := crd_err h2; omega
      | ok v =>
        obtain ⟨y, r2⟩ := v
        rw [ptsM_ok l r1 r2 p acc n h1 h2] at h
        exact ptsM_pos h
/-- Of what stood, only the point's block has turned. -/
def Rst (w wr : World) (b7 : Nat) (q : P2) (W : World) : Prop := Whole W b7 42 #[.int .i64 q.1, .int .i64 q.2] ∧ Only (fun b => b = b7) wr W ∧ Below w.heap.size w W
theorem Rst.set {w wr W : World} {b7 : Nat} {q : P2} (h : Rst w wr b7 q W) (hl : w.heap.size ≤ b7) (p : P2) : Rst w wr b7 p ((W.setCell ⟨b7, 0, none⟩ (.int .i64 p.1)).setCell ⟨b7, 1, none⟩ (.int .i64 p.2)) :=
  ⟨by simpa using (h.1.set 0 (.int .i64 p.1)).set 1 (.int .i64 p.2), Only.setCell (S := fun b => b = b7) (Only.setCell (S := fun b => b = b7) h.2.1 (p := ⟨b7, 0, none⟩) (fun _ => rfl) _) (p := ⟨b7, 1, none⟩) (fun _ => rfl) _, (h.2.2.setCell (p := ⟨b7, 0, none⟩) hl _).setCell (p := ⟨b7, 1, none⟩) hl _⟩
theorem Rst.more {w wr W W' : World} {b7 : Nat} {q : P2} (h : Rst w wr b7 q W) (hb : Below W.heap.size W W') : Rst w wr b7 q W' :=
  ⟨h.1.below hb h.1.lt, h.2.1.trans (Only.of_below hb (fun _ => False)) (fun _ _ h => h.elim), h.2.2.trans (hb.mono h.2.2.size)⟩
theorem set_only (W : World) (b7 : Nat) (u v : Value) : Only (fun b => b = b7) W ((W.setCell ⟨b7, 0, none⟩ u).setCell ⟨b7, 1, none⟩ v) := Only.setCell (S := fun b => b = b7) (Only.setCell (S := fun b => b = b7) (Only.refl _ _) (p := ⟨b7, 0, none⟩) (fun _ => rfl) _) (p := ⟨b7, 1, none⟩) (fun _ => rfl) _
set_option maxHeartbeats 64000000 in
theorem refDecode_in (K : Int) (kind : Nat) (hK : K = (kind : Int)) (hk1 : 1 ≤ kind) (hk3 : kind ≤ 3) (a : Option Addr) (c : Nat) (l : List Nat) (w : World) (hN : Nums .u32 w w.heap.size a l) (hlen : l.length ≤ 1000) (hl : ∀ x ∈ l, x < 4294967296) :
    Calls Try.prog 8 #[.int .i64 K, .slice a l.length c] w (DecPost w (outM (decM kind l))) := by
  obtain ⟨i0, hi0, hz0, hz1, hz2⟩ := info_parts ppinfo
  obtain ⟨R, hRe⟩ : ∃ R, loopM kind (l.length + 1) l (0, 0) [] = R := ⟨_, rfl⟩
  rw [← loopM_is, hRe]
  have HRe := Lib.hid hRe
  obtain ⟨L, hL⟩ : ∃ z, z = l.length := ⟨_, rfl⟩
  have HL := Lib.hid hL
  rw [← hL] at hlen ⊢
  have HN := Lib.hid hN
  have Hl := Lib.hid hl
  have HKk := Lib.hid (show K = (kind : Int) ∧ 1 ≤ kind ∧ kind ≤ 3 from ⟨hK, hk1, hk3⟩)
  have d1 : decide (K < 1) = false := decide_eq_false (by omega)
  have d3 : decide (3 < K) = false := decide_eq_false (by omega)
  have hKl : 1 ≤ K := by omega
  have hKu : K ≤ 3 := by omega
  clear hRe hL hN hl hK hk1 hk3
  go_enter Try.func8, Try.ntmps8
  go_upto_region 5 with (fail)
  obtain ⟨b7, hb7⟩ : ∃ z, z = w.heap.size := ⟨_, rfl⟩
  obtain ⟨X, hX⟩ : ∃ z, z = w.alloc (.cells #[.int .i64 0, .int .i64 0] 42) := ⟨_, rfl⟩
  have hW7 : Whole X b7 42 #[.int .i64 0, .int .i64 0] := by rw [hX, hb7]; exact Whole.new w _ _
  have hBX : Below w.heap.size w X := by rw [hX]; exact (Below.refl _ _).alloc (Nat.le_refl _) _
  have hl7 : w.heap.size ≤ b7 := by omega
  have HW7 := Lib.hid hW7
  have HBX := Lib.hid hBX
  rw [← hX, ← hb7]
  clear hX hb7 hW7 hBX
  go_wp2_with fail
  go_loopw [6, 8] (fun tv ti W => ∃ (ik f : Nat) (pk : P2) (acc : List (List P2)) (v1 : Value), ik ≤ L ∧ ti = .int .i64 (ik : Int) ∧ v1 = tv ∧ Hid (Paths W (b7 + 1) v1 acc) ∧ Hid (Whole W b7 42 #[.int .i64 pk.1, .int .i64 pk.2]) ∧ Hid (Below w.heap.size w W) ∧ Hid (inP pk) ∧ Hid (L - ik < f ∧ acc.length ≤ ik) ∧ Hid (if ik = 0 ∨ ik < L then (if kind = 1 ∧ ik ≠ 0 then R = .error 3 else loopM kind f (l.drop ik) pk acc = R) else R = .ok acc)) (fun _ ti _ => L + 1 - (intOf ti).toNat)
  case atStart => exact ⟨0, L + 1, (0, 0), [], _, Nat.zero_le _, rfl, rfl, Paths.nil_ _ _, HW7, HBX, ⟨by simp, by simp⟩, ⟨by omega, Nat.zero_le _⟩, by show (if _ then _ else _); rw [if_pos (.inl rfl), if_neg (by simp), HL.out]; exact HRe.out⟩
  case round =>
    obtain ⟨ik, f, pk, acc, v1, hik, rfl, rfl, HP, HW, HBB, Hpk, HLn, HRes⟩ := hrel
    clear HW7 HBX HRe
    have HR0 : Hid (Rst w wr b7 pk wr) := ⟨HW.out, Only.refl _ _, HBB.out⟩
    obtain ⟨px, py⟩ := pk
    have t0 : wr.cell? ⟨b7, 0, none⟩ = some (.int .i64 px) := HW.out.cell 0
    have t1 : wr.cell? ⟨b7, 1, none⟩ = some (.int .i64 py) := HW.out.cell 1
    have f0 : wr.frozen? ⟨b7, 0, none⟩ = false := HW.out.frozen 0
    have f1 : wr.frozen? ⟨b7, 1, none⟩ = false := HW.out.frozen 1
    have hb7l : b7 < wr.heap.size := HW.out.lt
    by_cases hi0' : ik = 0
    · have e0 : ((ik : Int) == 0) = true := by simp; omega
      have dF : decide ((0 : Int) < (ik : Int)) = false := decide_eq_false (by omega)
      have hF0 : ¬ (0 < ik) := by omega
      have hres := HRes.out
      rw [if_pos (.inl hi0'), if_neg (by simp [hi0'])] at hres
      have Hi0 := Lib.hid hi0'
      clear hi0'
      obtain ⟨f1', rfl⟩ : ∃ j, f = j + 1 := ⟨f - 1, by have := HLn.out.1; omega⟩
      have Hres := Lib.hid hres
      clear hres HRes
      by_cases hL0 : L = 0
      · have dL : ((L : Int) == 0) = true := by simp; omega
        have hce : ∀ op a b, cmdM op a b (l.drop ik) = .error 2 := fun op a b => cmd_end (by have := HL.out; omega) op a b
        have hr : R = .error 2 := by
          rw [← Hres.out]
          refine loopM_err ?_
          by_cases hk : kind = 1
          · rw [hk]; exact step1_err (hce _ _ _)
          · exact step2_err hk (hce _ _ _)
        subst hr
        clear HR0 HP HW HLn hce
        go_wp2_with fail
        exact bodyPost_ret (v := .tuple #[.slice none 0 0, .int .i64 2]) (by simp [results, Try.results8, asAddr, go_sem]) rfl ⟨_, rfl, rdpp_nil _ _, HBB.out⟩
      · have dL : ((L : Int) == 0) = false := by simp; omega
        have hikL : ik < L := by have := Hi0.out; omega
        have hiL2 : ik < l.length := by have := HL.out; omega
        obtain ⟨bb, off, rfl, hbb, hcell⟩ := HN.out (by omega)
        have ex : wr.cell? ⟨bb, off + ik, none⟩ = some (.int .u32 ((l[ik]'hiL2 : Nat) : Int)) := by
          have := hcell ik hiL2
          rw [(HBB.out.cell (p := ⟨bb, off + ik, none⟩) hbb), this]
          simp [List.getD, hiL2]
        have hx := Hl.out _ (List.getElem_mem hiL2)
        have hcA := fun op a b => cmd_at hiL2 op a b
        obtain ⟨x, hxe⟩ : ∃ x, x = l[ik]'hiL2 := ⟨_, rfl⟩
        rw [← hxe] at ex hx
        simp only [← hxe] at hcA
        obtain ⟨q, hqe⟩ : ∃ q, q = x / 8 := ⟨_, rfl⟩
        obtain ⟨m8, hme⟩ : ∃ m, m = x % 8 := ⟨_, rfl⟩
        have hqI : (x : Int) / 8 = (q : Int) := by omega
        have hmI : (x : Int) % 8 = (m8 : Int) := by omega
        have hqu : q < 536870912 := by omega
        have hi0n : (0 : Int) ≤ (ik : Int) := by omega
        have hi1n : (ik : Int) < (L : Int) := by omega
        rw [← hqe, ← hme] at hcA
        have HCA := Lib.hid hcA
        clear hxe hcA hcell hqe hme hiL2
        by_cases hk1 : kind = 1
        · have dE : (K == 1) = true := by have := HKk.out.1; simp; omega
          have dD : decide (1 < K) = false := decide_eq_false (by have := HKk.out.1; omega)
          have dK3 : (K == 3) = false := by have := HKk.out.1; simp; omega
          have Hk1 := Lib.hid hk1
          have Hcmd := Lib.hid (HCA.out 1 1 536870912)
          by_cases g1 : m8 = 1
          · have dA : ((m8 : Int) != 1) = false := by simp [g1]
            by_cases g2 : q < 1
            · have dB : decide ((q : Int) < 1) = true := decide_eq_true (by omega)
              have hr : R = .error 3 := by rw [← Hres.out]; exact loopM_err (by rw [Hk1.out]; exact step1_err (by rw [Hcmd.out]; exact if_pos (by omega)))
              subst hr
              clear hk1 HR0 HP HW HLn
              go_wp2_with fail
              exact bodyPost_ret (v := .tuple #[.slice none 0 0, .int .i64 3]) (by simp [results, Try.results8, asAddr, go_sem]) rfl ⟨_, rfl, rdpp_nil _ _, HBB.out⟩
            · have dB : decide ((q : Int) < 1) = false := decide_eq_false (by omega)
              by_cases g3 : 1 < q
              · have dC : decide (1 < (q : Int)) = true := decide_eq_true (by omega)
                have hcmd : cmdM 1 1 536870912 (l.drop ik) = .ok (q, l.drop (ik + 1)) := by rw [Hcmd.out]; exact if_neg (by omega)
                have Hcmd := Lib.hid hcmd
                clear hcmd hk1
                have hPts := refPts_any (some ⟨bb, off, none⟩) c l (ik + 1) q (px, py) wr ((HN.out.below HBB.out).more HBB.out.size) (by have := HL.out; omega) Hl.out (by have := HL.out; omega) (by omega) Hpk.out
                rw [← HL.out, show ((ik + 1 : Nat) : Int) = (ik : Int) + 1 by omega] at hPts
                have HPts := Lib.hid hPts
                clear hPts
                go_upto_region 12 with (fail)
                cases hp1 : ptsM q (l.drop (ik + 1)) (px, py) [] with
                | error e1 =>
                  rw [hp1] at HPts
                  have hr : R = .error e1 := by rw [← Hres.out]; exact loopM_err (by rw [Hk1.out, step1_ok Hcmd.out]; exact hp1)
                  subst hr
                  have he1 : ¬ e1 = 0 := ptsM_pos hp1
                  have de1 : ((e1 : Int) != 0) = true := by simp; omega
                  clear hp1 HP HW HLn
                  go_wp2_with fail
                  refine HPts.out.mono ?_
                  rintro e W ⟨rfl, hb⟩
                  have HB9 := Lib.hid (HBB.out.trans (hb.mono HBB.out.size))
                  clear hb
                  go_wp2_with fail
                  exact bodyPost_ret (v := .tuple #[.slice none 0 0, .int .i64 (e1 : Int)]) (by simp [results, Try.results8, asAddr, go_sem]) rfl ⟨_, rfl, rdpp_nil _ _, HB9.out⟩
                | ok q1 =>
                  obtain ⟨r1, rest1, p1⟩ := q1
                  rw [hp1] at HPts
                  have hdr := ptsM_drop (by have := HL.out; omega) hp1
                  have hln := (ptsM_len _ _ _ _ _ _ _ hp1).2
                  have hlast := ptsM_last _ _ _ _ _ _ _ hp1
                  have hin1 := ptsM_in _ _ _ _ _ _ _ Hpk.out (by simp) hp1
                  rw [← HL.out] at hdr
                  obtain ⟨nx, hnx⟩ : ∃ z, z = L - rest1.length := ⟨_, rfl⟩
                  rw [← hnx] at hdr
                  go_wp2_with fail
                  refine HPts.out.mono ?_
                  rintro e W ⟨v', rfl, hOw, hb⟩
                  rw [← hnx]
                  have HR1 := Lib.hid (HR0.out.more hb)
                  obtain ⟨b1, hb1⟩ : ∃ b, r1 = b ++ [p1] := by
                    rcases hlast with ⟨h, _⟩ | h
                    · omega
                    · exact h
                  obtain ⟨rm, hrm⟩ : ∃ z, r1.length = z + 1 := ⟨q - 1, by simp at hln; omega⟩
                  have hget := last_at hb1 hrm (by omega)
                  obtain ⟨va, vc, rfl, hvc, hvm, hPat⟩ := hOw.rd
                  obtain ⟨bp, op, rfl, hbp, q0, q1⟩ := hPat.at rm (by omega)
                  rw [hget] at q0 q1
                  obtain ⟨p1x, p1y⟩ := p1
                  obtain ⟨rl, hrl⟩ : ∃ z, z = r1.length := ⟨_, rfl⟩
                  have hrlm : (rl : Int) - 1 = (rm : Int) := by omega
                  have hrm0 : (0 : Int) ≤ (rm : Int) := by omega
                  have hrm1 : (rm : Int) < (rl : Int) := by omega
                  have hwrm : wrap64 (rm : Int) = (rm : Int) := by rw [← IntWalk.i64_left, IntKind.wrap_i64]; simp at hln; omega
                  rw [← hrl]
                  simp only at q0 q1
                  have t0 : W.cell? ⟨b7, 0, none⟩ = some (.int .i64 px) := HR1.out.1.cell 0
                  have t1 : W.cell? ⟨b7, 1, none⟩ = some (.int .i64 py) := HR1.out.1.cell 1
                  have f0 : W.frozen? ⟨b7, 0, none⟩ = false := HR1.out.1.frozen 0
                  have f1 : W.frozen? ⟨b7, 1, none⟩ = false := HR1.out.1.frozen 1
                  obtain ⟨W2, hW2⟩ : ∃ z, z = (W.setCell ⟨b7, 0, none⟩ (.int .i64 p1x)).setCell ⟨b7, 1, none⟩ (.int .i64 p1y) := ⟨_, rfl⟩
                  have HR2 : Hid (Rst w wr b7 (p1x, p1y) W2) := by rw [hW2]; exact HR1.out.set hl7 (p1x, p1y)
                  have hO2 : Only (fun b => b = b7) W W2 := by rw [hW2]; exact set_only _ _ _ _
                  have hlow : ∀ b, (Value.slice (some ⟨bp, op, none⟩) r1.length vc).ownBlock = some b → wr.heap.size ≤ b := fun b hb => (hOw.lt b hb).1
                  have HOw := Lib.hid (hOw.only hO2 (fun b hb e => by have := hlow b hb; omega))
                  have Hlow := Lib.hid hlow
                  have HRl := Lib.hid hrl
                  have Hnx := Lib.hid (show rest1 = l.drop nx ∧ nx = ik + 1 + 2 * q ∧ nx ≤ L from ⟨hdr.1, hdr.2.1, hdr.2.1 ▸ hdr.2.2⟩)
                  have hnxL : nx ≤ L := Hnx.out.2.2
                  have hnxi : ik < nx := by rw [Hnx.out.2.1]; exact Nat.lt_of_lt_of_le (Nat.lt_succ_self ik) (Nat.le_add_right _ _)
                  have Hin1 := Lib.hid hin1
                  have Hln1 := Lib.hid (show r1.length = q from by simpa using hln)
                  have Hp1 := Lib.hid hp1
                  clear hOw hb hlast hb1 hget hPat hO2 hlow hrl hdr hnx hln hin1 hp1 hrm
                  go_upto_region 17 with (fail)
                  rw [← hW2]
                  clear hbp q0 q1 hrlm hwrm hrm0 hrm1 t0 t1 f0 f1 hW2 HPts HR1 hvc hvm
                  have hgr := (by rw [Hk1.out, step1_ok Hcmd.out]; exact Hp1.out : stepM kind (l.drop ik) (px, py) = .ok (r1, rest1, (p1x, p1y)))
                  have hres2 := Hres.out
                  rw [loopM_ok hgr] at hres2
                  have hPk := HP.out.only HR2.out.2.1 (fun b e => by omega)
                  have HPB := Lib.hid (fun b (hb : v1.ownBlock = some b) => HP.out.lt b hb)
                  obtain ⟨xs, hown, hx⟩ := hPk
                  have HX := Lib.hid hx
                  have HU := Lib.hid (RdN.of_rd (own := v1.ownBlock) HOw.out.rd (fun b hb e => by
                    have h1 := Hlow.out b hb
                    have h2 := (HPB.out b e).2
                    omega))
                  have huo := rdp_one HOw.out.rd
                  have HUl := Lib.hid (fun b hb => (by have := Hlow.out b hb; omega : b7 + 1 ≤ b))
                  have hxl : xs.length = acc.length := by have := hown.1; omega
                  have hBg : b7 + 1 ≤ W2.heap.size := by have := HR2.out.1.lt; omega
                  have hacc : acc.length ≤ 1000 := by have := HLn.out.2; omega
                  have Hres2 := Lib.hid hres2
                  clear hx hgr hres2
                  try rw [← HRl.out] at HU huo HUl
                  go_wp2_with (at_builtin; refine app_one rfl (.tmp 147) (.tmp 149) 24 rfl (b7 + 1) 43 i0 _ 24 Try.underlying24 hi0 hz0 hz1 hz2 rfl v1 _ _ rfl hown (.slice (some ⟨bp, op, none⟩) rl vc) 1 rfl huo (by unfold maxLen; omega) (by omega) hBg ?_)
                  intro v3 w3 g2 g3 g5
                  have hG := Paths.grow HX.out hxl HU.out HUl.out g2 g3 g5
                  have hOg : Only (fun b => v1.ownBlock = some b) W2 w3 := Only.of_grown g3 (fun b e => e)
                  have hPL : ∀ b, v1.ownBlock = some b → b7 + 1 ≤ b := fun b hb => (HPB.out b hb).1
                  have HA1 := Lib.hid hG
                  have HA2 := Lib.hid (HR2.out.1.only hOg (fun e => by have := hPL b7 e; omega))
                  have HA3 := Lib.hid (HR2.out.2.2.trans (hOg.below (fun b hlt hS => by have := hPL b hS; omega) HR2.out.2.2.size))
                  clear g2 g3 g5 hG hOg hPL hown
                  go_wp2_with fail
                  go_roundw
                  case rel => exact ⟨nx, f1', (p1x, p1y), acc ++ [r1], v3, by omega, by go_num, rfl, HA1, HA2, HA3, Hin1.out.1, ⟨by have := HLn.out; omega, by have := HLn.out; simp; omega⟩, by
                    have h9 := Hres2.out
                    have hrn := Hnx.out
                    have hlL := HL.out
                    show (if _ then _ else _)
                    by_cases hnL : nx < L
                    · rw [if_pos (.inr hnL), if_pos ⟨Hk1.out, by omega⟩]
                      rw [if_neg (by rw [hrn.1]; intro e; have := List.drop_eq_nil_iff.1 e; omega), if_pos Hk1.out] at h9
                      exact h9.symm
                    · rw [if_neg (by omega)]
                      rw [if_pos (by rw [hrn.1]; exact List.drop_eq_nil_of_le (by omega))] at h9
                      exact h9.symm⟩
                  case measure => simp [intOf]; omega
              · have dC : decide (1 < (q : Int)) = false := decide_eq_false (by omega)
                have hcmd : cmdM 1 1 536870912 (l.drop ik) = .ok (q, l.drop (ik + 1)) := by rw [Hcmd.out]; exact if_neg (by omega)
                have Hcmd := Lib.hid hcmd
                clear hcmd hk1
                have hPts := refPts_any (some ⟨bb, off, none⟩) c l (ik + 1) q (px, py) wr ((HN.out.below HBB.out).more HBB.out.size) (by have := HL.out; omega) Hl.out (by have := HL.out; omega) (by omega) Hpk.out
                rw [← HL.out, show ((ik + 1 : Nat) : Int) = (ik : Int) + 1 by omega] at hPts
                have HPts := Lib.hid hPts
                clear hPts
                go_upto_region 12 with (fail)
                cases hp1 : ptsM q (l.drop (ik + 1)) (px, py) [] with
                | error e1 =>
                  rw [hp1] at HPts
                  have hr : R = .error e1 := by rw [← Hres.out]; exact loopM_err (by rw [Hk1.out, step1_ok Hcmd.out]; exact hp1)
                  subst hr
                  have he1 : ¬ e1 = 0 := ptsM_pos hp1
                  have de1 : ((e1 : Int) != 0) = true := by simp; omega
                  clear hp1 HP HW HLn
                  go_wp2_with fail
                  refine HPts.out.mono ?_
                  rintro e W ⟨rfl, hb⟩
                  have HB9 := Lib.hid (HBB.out.trans (hb.mono HBB.out.size))
                  clear hb
                  go_wp2_with fail
                  exact bodyPost_ret (v := .tuple #[.slice none 0 0, .int .i64 (e1 : Int)]) (by simp [results, Try.results8, asAddr, go_sem]) rfl ⟨_, rfl, rdpp_nil _ _, HB9.out⟩
                | ok q1 =>
                  obtain ⟨r1, rest1, p1⟩ := q1
                  rw [hp1] at HPts
                  have hdr := ptsM_drop (by have := HL.out; omega) hp1
                  have hln := (ptsM_len _ _ _ _ _ _ _ hp1).2
                  have hlast := ptsM_last _ _ _ _ _ _ _ hp1
                  have hin1 := ptsM_in _ _ _ _ _ _ _ Hpk.out (by simp) hp1
                  rw [← HL.out] at hdr
                  obtain ⟨nx, hnx⟩ : ∃ z, z = L - rest1.length := ⟨_, rfl⟩
                  rw [← hnx] at hdr
                  go_wp2_with fail
                  refine HPts.out.mono ?_
                  rintro e W ⟨v', rfl, hOw, hb⟩
                  rw [← hnx]
                  have HR1 := Lib.hid (HR0.out.more hb)
                  obtain ⟨b1, hb1⟩ : ∃ b, r1 = b ++ [p1] := by
                    rcases hlast with ⟨h, _⟩ | h
                    · omega
                    · exact h
                  obtain ⟨rm, hrm⟩ : ∃ z, r1.length = z + 1 := ⟨q - 1, by simp at hln; omega⟩
                  have hget := last_at hb1 hrm (by omega)
                  obtain ⟨va, vc, rfl, hvc, hvm, hPat⟩ := hOw.rd
                  obtain ⟨bp, op, rfl, hbp, q0, q1⟩ := hPat.at rm (by omega)
                  rw [hget] at q0 q1
                  obtain ⟨p1x, p1y⟩ := p1
                  obtain ⟨rl, hrl⟩ : ∃ z, z = r1.length := ⟨_, rfl⟩
                  have hrlm : (rl : Int) - 1 = (rm : Int) := by omega
                  have hrm0 : (0 : Int) ≤ (rm : Int) := by omega
                  have hrm1 : (rm : Int) < (rl : Int) := by omega
                  have hwrm : wrap64 (rm : Int) = (rm : Int) := by rw [← IntWalk.i64_left, IntKind.wrap_i64]; simp at hln; omega
                  rw [← hrl]
                  simp only at q0 q1
                  have t0 : W.cell? ⟨b7, 0, none⟩ = some (.int .i64 px) := HR1.out.1.cell 0
                  have t1 : W.cell? ⟨b7, 1, none⟩ = some (.int .i64 py) := HR1.out.1.cell 1
                  have f0 : W.frozen? ⟨b7, 0, none⟩ = false := HR1.out.1.frozen 0
                  have f1 : W.frozen? ⟨b7, 1, none⟩ = false := HR1.out.1.frozen 1
                  obtain ⟨W2, hW2⟩ : ∃ z, z = (W.setCell ⟨b7, 0, none⟩ (.int .i64 p1x)).setCell ⟨b7, 1, none⟩ (.int .i64 p1y) := ⟨_, rfl⟩
                  have HR2 : Hid (Rst w wr b7 (p1x, p1y) W2) := by rw [hW2]; exact HR1.out.set hl7 (p1x, p1y)
                  have hO2 : Only (fun b => b = b7) W W2 := by rw [hW2]; exact set_only _ _ _ _
                  have hlow : ∀ b, (Value.slice (some ⟨bp, op, none⟩) r1.length vc).ownBlock = some b → wr.heap.size ≤ b := fun b hb => (hOw.lt b hb).1
                  have HOw := Lib.hid (hOw.only hO2 (fun b hb e => by have := hlow b hb; omega))
                  have Hlow := Lib.hid hlow
                  have HRl := Lib.hid hrl
                  have Hnx := Lib.hid (show rest1 = l.drop nx ∧ nx = ik + 1 + 2 * q ∧ nx ≤ L from ⟨hdr.1, hdr.2.1, hdr.2.1 ▸ hdr.2.2⟩)
                  have hnxL : nx ≤ L := Hnx.out.2.2
                  have hnxi : ik < nx := by rw [Hnx.out.2.1]; exact Nat.lt_of_lt_of_le (Nat.lt_succ_self ik) (Nat.le_add_right _ _)
                  have Hin1 := Lib.hid hin1
                  have Hln1 := Lib.hid (show r1.length = q from by simpa using hln)
                  have Hp1 := Lib.hid hp1
                  clear hOw hb hlast hb1 hget hPat hO2 hlow hrl hdr hnx hln hin1 hp1 hrm
                  go_upto_region 17 with (fail)
                  rw [← hW2]
                  clear hbp q0 q1 hrlm hwrm hrm0 hrm1 t0 t1 f0 f1 hW2 HPts HR1 hvc hvm
                  have hgr := (by rw [Hk1.out, step1_ok Hcmd.out]; exact Hp1.out : stepM kind (l.drop ik) (px, py) = .ok (r1, rest1, (p1x, p1y)))
                  have hres2 := Hres.out
                  rw [loopM_ok hgr] at hres2
                  have hPk := HP.out.only HR2.out.2.1 (fun b e => by omega)
                  have HPB := Lib.hid (fun b (hb : v1.ownBlock = some b) => HP.out.lt b hb)
                  obtain ⟨xs, hown, hx⟩ := hPk
                  have HX := Lib.hid hx
                  have HU := Lib.hid (RdN.of_rd (own := v1.ownBlock) HOw.out.rd (fun b hb e => by
                    have h1 := Hlow.out b hb
                    have h2 := (HPB.out b e).2
                    omega))
                  have huo := rdp_one HOw.out.rd
                  have HUl := Lib.hid (fun b hb => (by have := Hlow.out b hb; omega : b7 + 1 ≤ b))
                  have hxl : xs.length = acc.length := by have := hown.1; omega
                  have hBg : b7 + 1 ≤ W2.heap.size := by have := HR2.out.1.lt; omega
                  have hacc : acc.length ≤ 1000 := by have := HLn.out.2; omega
                  have Hres2 := Lib.hid hres2
                  clear hx hgr hres2
                  try rw [← HRl.out] at HU huo HUl
                  go_wp2_with (at_builtin; refine app_one rfl (.tmp 147) (.tmp 149) 24 rfl (b7 + 1) 43 i0 _ 24 Try.underlying24 hi0 hz0 hz1 hz2 rfl v1 _ _ rfl hown (.slice (some ⟨bp, op, none⟩) rl vc) 1 rfl huo (by unfold maxLen; omega) (by omega) hBg ?_)
                  intro v3 w3 g2 g3 g5
                  have hG := Paths.grow HX.out hxl HU.out HUl.out g2 g3 g5
                  have hOg : Only (fun b => v1.ownBlock = some b) W2 w3 := Only.of_grown g3 (fun b e => e)
                  have hPL : ∀ b, v1.ownBlock = some b → b7 + 1 ≤ b := fun b hb => (HPB.out b hb).1
                  have HA1 := Lib.hid hG
                  have HA2 := Lib.hid (HR2.out.1.only hOg (fun e => by have := hPL b7 e; omega))
                  have HA3 := Lib.hid (HR2.out.2.2.trans (hOg.below (fun b hlt hS => by have := hPL b hS; omega) HR2.out.2.2.size))
                  clear g2 g3 g5 hG hOg hPL hown
                  go_wp2_with fail
                  go_roundw
                  case rel => exact ⟨nx, f1', (p1x, p1y), acc ++ [r1], v3, by omega, by go_num, rfl, HA1, HA2, HA3, Hin1.out.1, ⟨by have := HLn.out; omega, by have := HLn.out; simp; omega⟩, by
                    have h9 := Hres2.out
                    have hrn := Hnx.out
                    have hlL := HL.out
                    show (if _ then _ else _)
                    by_cases hnL : nx < L
                    · rw [if_pos (.inr hnL), if_pos ⟨Hk1.out, by omega⟩]
                      rw [if_neg (by rw [hrn.1]; intro e; have := List.drop_eq_nil_iff.1 e; omega), if_pos Hk1.out] at h9
                      exact h9.symm
                    · rw [if_neg (by omega)]
                      rw [if_pos (by rw [hrn.1]; exact List.drop_eq_nil_of_le (by omega))] at h9
                      exact h9.symm⟩
                  case measure => simp [intOf]; omega
          · have dA : ((m8 : Int) != 1) = true := by simp; omega
            have hr : R = .error 3 := by rw [← Hres.out]; exact loopM_err (by rw [Hk1.out]; exact step1_err (by rw [Hcmd.out]; exact if_pos (by omega)))
            subst hr
            clear hk1 HR0 HP HW HLn
            go_wp2_with fail
            exact bodyPost_ret (v := .tuple #[.slice none 0 0, .int .i64 3]) (by simp [results, Try.results8, asAddr, go_sem]) rfl ⟨_, rfl, rdpp_nil _ _, HBB.out⟩
        · have dE : (K == 1) = false := by have := HKk.out.1; simp; omega
          have dD : decide (1 < K) = true := decide_eq_true (by have := HKk.out; omega)
          have Hk1 := Lib.hid hk1
          have Hcmd := Lib.hid (HCA.out 1 1 1)
          by_cases g1 : m8 = 1
          · have dA : ((m8 : Int) != 1) = false := by simp [g1]
            by_cases g2 : q < 1
            · have dB : decide ((q : Int) < 1) = true := decide_eq_true (by omega)
              have hr : R = .error 3 := by rw [← Hres.out]; exact loopM_err (step2_err Hk1.out (by rw [Hcmd.out]; exact if_pos (by omega)))
              subst hr
              clear hk1 HR0 HP HW HLn
              go_wp2_with fail
              exact bodyPost_ret (v := .tuple #[.slice none 0 0, .int .i64 3]) (by simp [results, Try.results8, asAddr, go_sem]) rfl ⟨_, rfl, rdpp_nil _ _, HBB.out⟩
            · have dB : decide ((q : Int) < 1) = false := decide_eq_false (by omega)
              by_cases g3 : 1 < q
              · have dC : decide (1 < (q : Int)) = true := decide_eq_true (by omega)
                have hr : R = .error 3 := by rw [← Hres.out]; exact loopM_err (step2_err Hk1.out (by rw [Hcmd.out]; exact if_pos (by omega)))
                subst hr
                clear hk1 HR0 HP HW HLn
                go_wp2_with fail
                exact bodyPost_ret (v := .tuple #[.slice none 0 0, .int .i64 3]) (by simp [results, Try.results8, asAddr, go_sem]) rfl ⟨_, rfl, rdpp_nil _ _, HBB.out⟩
              · have dC : decide (1 < (q : Int)) = false := decide_eq_false (by omega)
                have hcmd : cmdM 1 1 1 (l.drop ik) = .ok (q, l.drop (ik + 1)) := by rw [Hcmd.out]; exact if_neg (by omega)
                have Hcmd := Lib.hid hcmd
                clear hcmd hk1
                have hPts := refPts_any (some ⟨bb, off, none⟩) c l (ik + 1) q (px, py) wr ((HN.out.below HBB.out).more HBB.out.size) (by have := HL.out; omega) Hl.out (by have := HL.out; omega) (by omega) Hpk.out
                rw [← HL.out, show ((ik + 1 : Nat) : Int) = (ik : Int) + 1 by omega] at hPts
                have HPts := Lib.hid hPts
                clear hPts
                go_upto_region 12 with (fail)
                cases hp1 : ptsM q (l.drop (ik + 1)) (px, py) [] with
                | error e1 =>
                  rw [hp1] at HPts
                  have hr : R = .error e1 := by rw [← Hres.out]; exact loopM_err (step2_err2 Hk1.out Hcmd.out hp1)
                  subst hr
                  have he1 : ¬ e1 = 0 := ptsM_pos hp1
                  have de1 : ((e1 : Int) != 0) = true := by simp; omega
                  clear hp1 HP HW HLn
                  go_wp2_with fail
                  refine HPts.out.mono ?_
                  rintro e W ⟨rfl, hb⟩
                  have HB9 := Lib.hid (HBB.out.trans (hb.mono HBB.out.size))
                  clear hb
                  go_wp2_with fail
                  exact bodyPost_ret (v := .tuple #[.slice none 0 0, .int .i64 (e1 : Int)]) (by simp [results, Try.results8, asAddr, go_sem]) rfl ⟨_, rfl, rdpp_nil _ _, HB9.out⟩
                | ok q1 =>
                  obtain ⟨r1, rest1, p1⟩ := q1
                  rw [hp1] at HPts
                  have hdr := ptsM_drop (by have := HL.out; omega) hp1
                  have hln := (ptsM_len _ _ _ _ _ _ _ hp1).2
                  have hlast := ptsM_last _ _ _ _ _ _ _ hp1
                  have hin1 := ptsM_in _ _ _ _ _ _ _ Hpk.out (by simp) hp1
                  rw [← HL.out] at hdr
                  obtain ⟨nx, hnx⟩ : ∃ z, z = L - rest1.length := ⟨_, rfl⟩
                  rw [← hnx] at hdr
                  go_wp2_with fail
                  refine HPts.out.mono ?_
                  rintro e W ⟨v', rfl, hOw, hb⟩
                  rw [← hnx]
                  have HR1 := Lib.hid (HR0.out.more hb)
                  obtain ⟨b1, hb1⟩ : ∃ b, r1 = b ++ [p1] := by
                    rcases hlast with ⟨h, _⟩ | h
                    · omega
                    · exact h
                  obtain ⟨rm, hrm⟩ : ∃ z, r1.length = z + 1 := ⟨q - 1, by simp at hln; omega⟩
                  have hget := last_at hb1 hrm (by omega)
                  obtain ⟨va, vc, rfl, hvc, hvm, hPat⟩ := hOw.rd
                  obtain ⟨bp, op, rfl, hbp, q0, q1⟩ := hPat.at rm (by omega)
                  rw [hget] at q0 q1
                  obtain ⟨p1x, p1y⟩ := p1
                  obtain ⟨rl, hrl⟩ : ∃ z, z = r1.length := ⟨_, rfl⟩
                  have hrlm : (rl : Int) - 1 = (rm : Int) := by omega
                  have hrm0 : (0 : Int) ≤ (rm : Int) := by omega
                  have hrm1 : (rm : Int) < (rl : Int) := by omega
                  have hwrm : wrap64 (rm : Int) = (rm : Int) := by rw [← IntWalk.i64_left, IntKind.wrap_i64]; simp at hln; omega
                  rw [← hrl]
                  simp only at q0 q1
                  have t0 : W.cell? ⟨b7, 0, none⟩ = some (.int .i64 px) := HR1.out.1.cell 0
                  have t1 : W.cell? ⟨b7, 1, none⟩ = some (.int .i64 py) := HR1.out.1.cell 1
                  have f0 : W.frozen? ⟨b7, 0, none⟩ = false := HR1.out.1.frozen 0
                  have f1 : W.frozen? ⟨b7, 1, none⟩ = false := HR1.out.1.frozen 1
                  obtain ⟨W2, hW2⟩ : ∃ z, z = (W.setCell ⟨b7, 0, none⟩ (.int .i64 p1x)).setCell ⟨b7, 1, none⟩ (.int .i64 p1y) := ⟨_, rfl⟩
                  have HR2 : Hid (Rst w wr b7 (p1x, p1y) W2) := by rw [hW2]; exact HR1.out.set hl7 (p1x, p1y)
                  have hO2 : Only (fun b => b = b7) W W2 := by rw [hW2]; exact set_only _ _ _ _
                  have hlow : ∀ b, (Value.slice (some ⟨bp, op, none⟩) r1.length vc).ownBlock = some b → wr.heap.size ≤ b := fun b hb => (hOw.lt b hb).1
                  have HOw := Lib.hid (hOw.only hO2 (fun b hb e => by have := hlow b hb; omega))
                  have Hlow := Lib.hid hlow
                  have HRl := Lib.hid hrl
                  have Hnx := Lib.hid (show rest1 = l.drop nx ∧ nx = ik + 1 + 2 * q ∧ nx ≤ L from ⟨hdr.1, hdr.2.1, hdr.2.1 ▸ hdr.2.2⟩)
                  have hnxL : nx ≤ L := Hnx.out.2.2
                  have hnxi : ik < nx := by rw [Hnx.out.2.1]; exact Nat.lt_of_lt_of_le (Nat.lt_succ_self ik) (Nat.le_add_right _ _)
                  have Hin1 := Lib.hid hin1
                  have Hln1 := Lib.hid (show r1.length = q from by simpa using hln)
                  have Hp1 := Lib.hid hp1
                  clear hOw hb hlast hb1 hget hPat hO2 hlow hrl hdr hnx hln hin1 hp1 hrm
                  go_upto_region 17 with (fail)
                  rw [← hW2]
                  clear hbp q0 q1 hrlm hwrm hrm0 hrm1 t0 t1 f0 f1 hW2 HPts HR1 hvc hvm
                  have HB2 := Lib.hid HR2.out.2.2
                  obtain ⟨km, hkm⟩ : ∃ km, kind = km + 1 := ⟨kind - 1, by have := HKk.out; omega⟩
                  have hKm : K - 1 = (km : Int) := by have := HKk.out.1; omega
                  have Hkm := Lib.hid hkm
                  clear hkm
                  by_cases hx2 : nx < L
                  · have hiLb : nx < l.length := by have := HL.out; omega
                    obtain ⟨bb, off, hbo, hbb, hcell⟩ := HN.out (by omega)
                    injection hbo with hbo
                    injection hbo with hbo1 hbo2
                    subst hbo1 hbo2
                    have ex2 : W2.cell? ⟨bb, off + nx, none⟩ = some (.int .u32 ((l[nx]'hiLb : Nat) : Int)) := by
                      have := hcell nx hiLb
                      rw [(HB2.out.cell (p := ⟨bb, off + nx, none⟩) hbb), this]
                      simp [List.getD, hiLb]
                    have hx := Hl.out _ (List.getElem_mem hiLb)
                    have hcA := fun op a b => cmd_at hiLb op a b
                    obtain ⟨x2, hxe⟩ : ∃ x, x = l[nx]'hiLb := ⟨_, rfl⟩
                    rw [← hxe] at ex2 hx
                    simp only [← hxe] at hcA
                    obtain ⟨q2, hqe⟩ : ∃ q, q = x2 / 8 := ⟨_, rfl⟩
                    obtain ⟨m2, hme⟩ : ∃ m, m = x2 % 8 := ⟨_, rfl⟩
                    have hqI : (x2 : Int) / 8 = (q2 : Int) := by omega
                    have hmI : (x2 : Int) % 8 = (m2 : Int) := by omega
                    have hqu : q2 < 536870912 := by omega
                    have hi0n : (0 : Int) ≤ (nx : Int) := by omega
                    have hi1n : (nx : Int) < (L : Int) := by omega
                    rw [← hqe, ← hme] at hcA
                    have HCA := Lib.hid hcA
                    clear hxe hcA hcell hqe hme hiLb
                    by_cases k1 : m2 = 2
                    · have dA2 : ((m2 : Int) != 2) = false := by simp [k1]
                      by_cases k2 : q2 < km
                      · have dB2 : decide ((q2 : Int) < (km : Int)) = true := decide_eq_true (by omega)
                        have hr : R = .error 3 := by rw [← Hres.out]; exact loopM_err (step2_err3 Hk1.out Hcmd.out Hp1.out (by rw [Hnx.out.1, HCA.out 2 (kind - 1) 536870912]; exact if_pos (by have := Hkm.out; omega)))
                        subst hr
                        clear HP HW HLn HOw
                        go_wp2_with fail
                        exact bodyPost_ret (v := .tuple #[.slice none 0 0, .int .i64 3]) (by simp [results, Try.results8, asAddr, go_sem]) rfl ⟨_, rfl, rdpp_nil _ _, HB2.out⟩
                      · have dB2 : decide ((q2 : Int) < (km : Int)) = false := decide_eq_false (by omega)
                        have hcmd2 : cmdM 2 (kind - 1) 536870912 rest1 = .ok (q2, l.drop (nx + 1)) := by rw [Hnx.out.1, HCA.out 2 (kind - 1) 536870912]; exact if_neg (by have := Hkm.out; omega)
                        have Hcmd2 := Lib.hid hcmd2
                        clear hcmd2
                        have hPts := refPts_any (some ⟨bb, off, none⟩) c l (nx + 1) q2 (p1x, p1y) W2 ((HN.out.below HB2.out).more HB2.out.size) (by have := HL.out; omega) Hl.out (by have := HL.out; omega) (by omega) Hin1.out.1
                        rw [← HL.out, show ((nx + 1 : Nat) : Int) = (nx : Int) + 1 by omega] at hPts
                        have HPts := Lib.hid hPts
                        clear hPts
                        have t0 : W2.cell? ⟨b7, 0, none⟩ = some (.int .i64 p1x) := HR2.out.1.cell 0
                        have t1 : W2.cell? ⟨b7, 1, none⟩ = some (.int .i64 p1y) := HR2.out.1.cell 1
                        go_upto_region 23 with (fail)
                        cases hp2 : ptsM q2 (l.drop (nx + 1)) (p1x, p1y) [] with
                        | error e1 =>
                          rw [hp2] at HPts
                          have hr : R = .error e1 := by rw [← Hres.out]; exact loopM_err (step2_err4 Hk1.out Hcmd.out Hp1.out Hcmd2.out hp2)
                          subst hr
                          have he1 : ¬ e1 = 0 := ptsM_pos hp2
                          have de1 : ((e1 : Int) != 0) = true := by simp; omega
                          clear hp2 HP HW HLn HOw
                          go_wp2_with fail
                          refine HPts.out.mono ?_
                          rintro e W ⟨rfl, hb⟩
                          have HB9 := Lib.hid (HB2.out.trans (hb.mono HB2.out.size))
                          clear hb
                          go_wp2_with fail
                          exact bodyPost_ret (v := .tuple #[.slice none 0 0, .int .i64 (e1 : Int)]) (by simp [results, Try.results8, asAddr, go_sem]) rfl ⟨_, rfl, rdpp_nil _ _, HB9.out⟩
                        | ok q3 =>
                          obtain ⟨r2, rest2, p2⟩ := q3
                          rw [hp2] at HPts
                          have hdr := ptsM_drop (by have := HL.out; omega) hp2
                          have hln := (ptsM_len _ _ _ _ _ _ _ hp2).2
                          have hlast := ptsM_last _ _ _ _ _ _ _ hp2
                          have hin2 := ptsM_in _ _ _ _ _ _ _ Hin1.out.1 (by simp) hp2
                          rw [← HL.out] at hdr
                          obtain ⟨ny, hny⟩ : ∃ z, z = L - rest2.length := ⟨_, rfl⟩
                          rw [← hny] at hdr
                          go_wp2_with fail
                          refine HPts.out.mono ?_
                          rintro e W3 ⟨v2, rfl, hOw2, hb⟩
                          rw [← hny]
                          have HR3 := Lib.hid (HR2.out.more hb)
                          have hOw1 := HOw.out.below hb
                          rw [← HRl.out] at hOw1
                          obtain ⟨va2, vc2, rfl, _, _, hPat2⟩ := hOw2.rd
                          have hln2 : r2.length = q2 := by simpa using hln
                          have hsz : wr.heap.size ≤ W3.heap.size := Nat.le_trans HR2.out.2.1.size hb.size
                          have hnyF : rest2 = l.drop ny ∧ ny = nx + 1 + 2 * q2 ∧ ny ≤ L := ⟨hdr.1, hdr.2.1, hdr.2.1 ▸ hdr.2.2⟩
                          obtain ⟨v4, W4, hrun, hG⟩ := app_pts wr.heap.size _ r1 r2 va2 vc2 hOw1 hPat2 (by have h1 := Hln1.out; have h2 := Hnx.out.2; rw [h1, hln2]; omega) hsz
                          have hlow := Hlow.out
                          rw [← HRl.out] at hlow
                          have hRst4 : Rst w wr b7 (p1x, p1y) W4 := ⟨HR3.out.1.only hG.only (fun e => by have := hlow b7 e; omega), HR3.out.2.1.trans hG.only (fun b hb hS => by have := hlow b hS; omega), HR3.out.2.2.trans ((hG.below hOw1 hsz).mono HBB.out.size)⟩
                          have hv4low : ∀ b, v4.ownBlock = some b → wr.heap.size ≤ b := fun b hb => (hG.own.lt b hb).1
                          obtain ⟨b2, hb2⟩ : ∃ b, r2 = b ++ [p2] := by
                            rcases hlast with ⟨h, _⟩ | h
                            · have := Hkm.out; have := HKk.out; have := Hk1.out; omega
                            · exact h
                          have hb12 : r1 ++ r2 = (r1 ++ b2) ++ [p2] := by rw [hb2]; simp
                          obtain ⟨r12, hr12⟩ : ∃ z, z = r1 ++ r2 := ⟨_, rfl⟩
                          rw [← hr12] at hG hb12
                          have hl12 : r12.length = q + q2 := by rw [hr12, List.length_append, Hln1.out, hln2]
                          obtain ⟨rm2, hrm2⟩ : ∃ z, r12.length = z + 1 := ⟨q + q2 - 1, by rw [hl12]; omega⟩
                          have hget2 := last_at hb12 hrm2 (by omega)
                          obtain ⟨va4, vc4, rfl, hvc4, hvm4, hPat4⟩ := hG.own.rd
                          obtain ⟨bq, oq, rfl, hbq, u0, u1⟩ := hPat4.at rm2 (by omega)
                          rw [hget2] at u0 u1
                          obtain ⟨p2x, p2y⟩ := p2
                          obtain ⟨rl4, hrl4⟩ : ∃ z, z = r12.length := ⟨_, rfl⟩
                          have hrlm4 : (rl4 : Int) - 1 = (rm2 : Int) := by omega
                          have hrm40 : (0 : Int) ≤ (rm2 : Int) := by omega
                          have hrm41 : (rm2 : Int) < (rl4 : Int) := by omega
                          have hwrm4 : wrap64 (rm2 : Int) = (rm2 : Int) := by rw [← IntWalk.i64_left, IntKind.wrap_i64]; have := Hnx.out.2; omega
                          rw [← hrl4] at hrun
                          simp only at u0 u1
                          have t0 : W4.cell? ⟨b7, 0, none⟩ = some (.int .i64 p1x) := hRst4.1.cell 0
                          have t1 : W4.cell? ⟨b7, 1, none⟩ = some (.int .i64 p1y) := hRst4.1.cell 1
                          have f0 : W4.frozen? ⟨b7, 0, none⟩ = false := hRst4.1.frozen 0
                          have f1 : W4.frozen? ⟨b7, 1, none⟩ = false := hRst4.1.frozen 1
                          obtain ⟨W5, hW5⟩ : ∃ z, z = (W4.setCell ⟨b7, 0, none⟩ (.int .i64 p2x)).setCell ⟨b7, 1, none⟩ (.int .i64 p2y) := ⟨_, rfl⟩
                          have HR5 : Hid (Rst w wr b7 (p2x, p2y) W5) := by rw [hW5]; exact hRst4.set hl7 (p2x, p2y)
                          have hO5 : Only (fun b => b = b7) W4 W5 := by rw [hW5]; exact set_only _ _ _ _
                          have HOw5 := Lib.hid (hG.own.only hO5 (fun b hb e => by have := hv4low b hb; omega))
                          have Hlow5 := Lib.hid hv4low
                          have HRl5 := Lib.hid hrl4
                          have HB5 := Lib.hid HR5.out.2.2
                          have Hny := Lib.hid hnyF
                          have hnyL : ny ≤ L := hnyF.2.2
                          have hnyi : ik < ny := by rw [hnyF.2.1]; exact Nat.lt_of_lt_of_le hnxi (Nat.le_trans (Nat.le_succ nx) (Nat.le_add_right _ _))
                          have Hin2 := Lib.hid hin2
                          have Hp2 := Lib.hid hp2
                          have Hrun := Lib.hid hrun
                          have Hr12 := Lib.hid hr12
                          clear hb hlast hb2 hb12 hget2 hPat2 hPat4 hO5 hlow hv4low hrl4 hdr hny hnyF hln hin2 hp2 hrm2 hG hOw1 hOw2 hln2 hl12 hrun hRst4 hr12 HR3 hsz HOw
                          go_upto_region 29 with (at_builtin; refine app_run (by rfl) (.tmp 124) (.tmp 125) 43 rfl _ _ _ rfl rfl Hrun.out ?_)
                          rw [← hW5]
                          clear hbq u0 u1 hrlm4 hwrm4 hrm40 hrm41 t0 t1 f0 f1 hW5 HPts hvc4 hvm4 Hrun
                          by_cases hk3 : kind = 3
                          · have dK : (K == 3) = true := by have := HKk.out.1; simp; omega
                            have Hk3 := Lib.hid hk3
                            clear hk3
                            by_cases hx3 : ny < L
                            · have hiLc : ny < l.length := by have := HL.out; omega
                              obtain ⟨bb, off, hbo, hbb, hcell⟩ := HN.out (by omega)
                              injection hbo with hbo
                              injection hbo with hbo1 hbo2
                              subst hbo1 hbo2
                              have ex3 : W5.cell? ⟨bb, off + ny, none⟩ = some (.int .u32 ((l[ny]'hiLc : Nat) : Int)) := by
                                have := hcell ny hiLc
                                rw [(HB5.out.cell (p := ⟨bb, off + ny, none⟩) hbb), this]
                                simp [List.getD, hiLc]
                              have hx := Hl.out _ (List.getElem_mem hiLc)
                              have hcA := fun op a b => cmd_at hiLc op a b
                              obtain ⟨x3, hxe⟩ : ∃ x, x = l[ny]'hiLc := ⟨_, rfl⟩
                              rw [← hxe] at ex3 hx
                              simp only [← hxe] at hcA
                              obtain ⟨q3, hqe⟩ : ∃ q, q = x3 / 8 := ⟨_, rfl⟩
                              obtain ⟨m3, hme⟩ : ∃ m, m = x3 % 8 := ⟨_, rfl⟩
                              have hqI : (x3 : Int) / 8 = (q3 : Int) := by omega
                              have hmI : (x3 : Int) % 8 = (m3 : Int) := by omega
                              have hqu : q3 < 536870912 := by omega
                              have hi0n : (0 : Int) ≤ (ny : Int) := by omega
                              have hi1n : (ny : Int) < (L : Int) := by omega
                              rw [← hqe, ← hme] at hcA
                              have HCA := Lib.hid hcA
                              clear hxe hcA hcell hqe hme hiLc
                              by_cases k15 : x3 = 15
                              · have d15 : ((x3 : Int) != 15) = false := by simp [k15]
                                have hcmd7 : cmdM 7 1 1 rest2 = .ok (q3, l.drop (ny + 1)) := by rw [Hny.out.1, HCA.out 7 1 1]; exact if_neg (by omega)
                                have Hcmd7 := Lib.hid hcmd7
                                have Hny1 := Lib.hid (show l.drop (ny + 1) = l.drop (ny + 1) ∧ True from ⟨rfl, trivial⟩)
                                clear hcmd7 k15
                                have hgr := (by rw [step2_ok Hk1.out Hcmd.out Hp1.out Hcmd2.out Hp2.out, if_pos Hk3.out, Hcmd7.out, ← Hr12.out] : stepM kind (l.drop ik) (px, py) = .ok (r12, l.drop (ny + 1), (p2x, p2y)))
                                have hres2 := Hres.out
                                rw [loopM_ok hgr] at hres2
                                have hPk := HP.out.only HR5.out.2.1 (fun b e => by omega)
                                have HPB := Lib.hid (fun b (hb : v1.ownBlock = some b) => HP.out.lt b hb)
                                obtain ⟨xs, hown, hx⟩ := hPk
                                have HX := Lib.hid hx
                                have HU := Lib.hid (RdN.of_rd (own := v1.ownBlock) HOw5.out.rd (fun b hb e => by
                                  have h1 := Hlow5.out b hb
                                  have h2 := (HPB.out b e).2
                                  omega))
                                have huo := rdp_one HOw5.out.rd
                                have HUl := Lib.hid (fun b hb => (by have := Hlow5.out b hb; omega : b7 + 1 ≤ b))
                                have hxl : xs.length = acc.length := by have := hown.1; omega
                                have hBg : b7 + 1 ≤ W5.heap.size := by have := HR5.out.1.lt; omega
                                have hacc : acc.length ≤ 1000 := by have := HLn.out.2; omega
                                have Hres2 := Lib.hid hres2
                                clear hx hgr hres2
                                try rw [← HRl5.out] at HU huo HUl
                                go_wp2_with (at_builtin; refine app_one rfl (.tmp 147) (.tmp 149) 24 rfl (b7 + 1) 43 i0 _ 24 Try.underlying24 hi0 hz0 hz1 hz2 rfl v1 _ _ rfl hown (.slice (some ⟨bq, oq, none⟩) rl4 vc4) 1 rfl huo (by unfold maxLen; omega) (by omega) hBg ?_)
                                intro v3 w3 g2 g3 g5
                                have hG := Paths.grow HX.out hxl HU.out HUl.out g2 g3 g5
                                have hOg : Only (fun b => v1.ownBlock = some b) W5 w3 := Only.of_grown g3 (fun b e => e)
                                have hPL : ∀ b, v1.ownBlock = some b → b7 + 1 ≤ b := fun b hb => (HPB.out b hb).1
                                have HA1 := Lib.hid hG
                                have HA2 := Lib.hid (HR5.out.1.only hOg (fun e => by have := hPL b7 e; omega))
                                have HA3 := Lib.hid (HR5.out.2.2.trans (hOg.below (fun b hlt hS => by have := hPL b hS; omega) HR5.out.2.2.size))
                                clear g2 g3 g5 hG hOg hPL hown
                                go_wp2_with fail
                                go_roundw
                                case rel => exact ⟨(ny + 1), f1', (p2x, p2y), acc ++ [r12], v3, by omega, by go_num, rfl, HA1, HA2, HA3, Hin2.out.1, ⟨by have := HLn.out; omega, by have := HLn.out; simp; omega⟩, by
                                  have h9 := Hres2.out
                                  have hlL := HL.out
                                  show (if _ then _ else _)
                                  by_cases hnL : ny + 1 < L
                                  · rw [if_pos (.inr hnL), if_neg (fun h => Hk1.out h.1)]
                                    rw [if_neg (by intro e; have := List.drop_eq_nil_iff.1 e; omega), if_neg Hk1.out] at h9
                                    exact h9
                                  · rw [if_neg (by omega)]
                                    rw [if_pos (by exact List.drop_eq_nil_of_le (by omega))] at h9
                                    exact h9.symm⟩
                                case measure => simp [intOf]; omega
                              · have d15 : ((x3 : Int) != 15) = true := by simp; omega
                                have hr : R = .error 3 := by rw [← Hres.out]; exact loopM_err (by rw [step2_ok Hk1.out Hcmd.out Hp1.out Hcmd2.out Hp2.out, if_pos Hk3.out, Hny.out.1, HCA.out 7 1 1, if_pos (by omega)])
                                subst hr
                                clear HP HW HLn HOw5
                                go_wp2_with fail
                                exact bodyPost_ret (v := .tuple #[.slice none 0 0, .int .i64 3]) (by simp [results, Try.results8, asAddr, go_sem]) rfl ⟨_, rfl, rdpp_nil _ _, HB5.out⟩
                            · have dL3 : decide ((L : Int) ≤ (ny : Int)) = true := decide_eq_true (by omega)
                              have hr : R = .error 2 := by rw [← Hres.out]; exact loopM_err (by rw [step2_ok Hk1.out Hcmd.out Hp1.out Hcmd2.out Hp2.out, if_pos Hk3.out, Hny.out.1, cmd_end (by have := HL.out; omega)])
                              subst hr
                              clear HP HW HLn HOw5
                              go_wp2_with fail
                              exact bodyPost_ret (v := .tuple #[.slice none 0 0, .int .i64 2]) (by simp [results, Try.results8, asAddr, go_sem]) rfl ⟨_, rfl, rdpp_nil _ _, HB5.out⟩
                          · have dK : (K == 3) = false := by have := HKk.out.1; simp; omega
                            have Hk3 := Lib.hid hk3
                            clear hk3
                            have hgr := (by rw [step2_ok Hk1.out Hcmd.out Hp1.out Hcmd2.out Hp2.out, if_neg Hk3.out, ← Hr12.out] : stepM kind (l.drop ik) (px, py) = .ok (r12, rest2, (p2x, p2y)))
                            have hres2 := Hres.out
                            rw [loopM_ok hgr] at hres2
                            have hPk := HP.out.only HR5.out.2.1 (fun b e => by omega)
                            have HPB := Lib.hid (fun b (hb : v1.ownBlock = some b) => HP.out.lt b hb)
                            obtain ⟨xs, hown, hx⟩ := hPk
                            have HX := Lib.hid hx
                            have HU := Lib.hid (RdN.of_rd (own := v1.ownBlock) HOw5.out.rd (fun b hb e => by
                              have h1 := Hlow5.out b hb
                              have h2 := (HPB.out b e).2
                              omega))
                            have huo := rdp_one HOw5.out.rd
                            have HUl := Lib.hid (fun b hb => (by have := Hlow5.out b hb; omega : b7 + 1 ≤ b))
                            have hxl : xs.length = acc.length := by have := hown.1; omega
                            have hBg : b7 + 1 ≤ W5.heap.size := by have := HR5.out.1.lt; omega
                            have hacc : acc.length ≤ 1000 := by have := HLn.out.2; omega
                            have Hres2 := Lib.hid hres2
                            clear hx hgr hres2
                            try rw [← HRl5.out] at HU huo HUl
                            go_wp2_with (at_builtin; refine app_one rfl (.tmp 147) (.tmp 149) 24 rfl (b7 + 1) 43 i0 _ 24 Try.underlying24 hi0 hz0 hz1 hz2 rfl v1 _ _ rfl hown (.slice (some ⟨bq, oq, none⟩) rl4 vc4) 1 rfl huo (by unfold maxLen; omega) (by omega) hBg ?_)
                            intro v3 w3 g2 g3 g5
                            have hG := Paths.grow HX.out hxl HU.out HUl.out g2 g3 g5
                            have hOg : Only (fun b => v1.ownBlock = some b) W5 w3 := Only.of_grown g3 (fun b e => e)
                            have hPL : ∀ b, v1.ownBlock = some b → b7 + 1 ≤ b := fun b hb => (HPB.out b hb).1
                            have HA1 := Lib.hid hG
                            have HA2 := Lib.hid (HR5.out.1.only hOg (fun e => by have := hPL b7 e; omega))
                            have HA3 := Lib.hid (HR5.out.2.2.trans (hOg.below (fun b hlt hS => by have := hPL b hS; omega) HR5.out.2.2.size))
                            clear g2 g3 g5 hG hOg hPL hown
                            go_wp2_with fail
                            go_roundw
                            case rel => exact ⟨ny, f1', (p2x, p2y), acc ++ [r12], v3, by omega, by go_num, rfl, HA1, HA2, HA3, Hin2.out.1, ⟨by have := HLn.out; omega, by have := HLn.out; simp; omega⟩, by
                              have h9 := Hres2.out
                              have hrn := Hny.out
                              have hlL := HL.out
                              show (if _ then _ else _)
                              by_cases hnL : ny < L
                              · rw [if_pos (.inr hnL), if_neg (fun h => Hk1.out h.1)]
                                rw [if_neg (by rw [hrn.1]; intro e; have := List.drop_eq_nil_iff.1 e; omega), if_neg Hk1.out, hrn.1] at h9
                                exact h9
                              · rw [if_neg (by omega)]
                                rw [if_pos (by rw [hrn.1]; exact List.drop_eq_nil_of_le (by omega))] at h9
                                exact h9.symm⟩
                            case measure => simp [intOf]; omega
                    · have dA2 : ((m2 : Int) != 2) = true := by simp; omega
                      have hr : R = .error 3 := by rw [← Hres.out]; exact loopM_err (step2_err3 Hk1.out Hcmd.out Hp1.out (by rw [Hnx.out.1, HCA.out 2 (kind - 1) 536870912]; exact if_pos (by have := Hkm.out; omega)))
                      subst hr
                      clear HP HW HLn HOw
                      go_wp2_with fail
                      exact bodyPost_ret (v := .tuple #[.slice none 0 0, .int .i64 3]) (by simp [results, Try.results8, asAddr, go_sem]) rfl ⟨_, rfl, rdpp_nil _ _, HB2.out⟩
                  · have dL2 : decide ((L : Int) ≤ (nx : Int)) = true := decide_eq_true (by omega)
                    have hr : R = .error 2 := by rw [← Hres.out]; exact loopM_err (step2_err3 Hk1.out Hcmd.out Hp1.out (by rw [Hnx.out.1]; exact cmd_end (by have := HL.out; omega) _ _ _))
                    subst hr
                    clear HP HW HLn HOw
                    go_wp2_with fail
                    exact bodyPost_ret (v := .tuple #[.slice none 0 0, .int .i64 2]) (by simp [results, Try.results8, asAddr, go_sem]) rfl ⟨_, rfl, rdpp_nil _ _, HB2.out⟩
          · have dA : ((m8 : Int) != 1) = true := by simp; omega
            have hr : R = .error 3 := by rw [← Hres.out]; exact loopM_err (step2_err Hk1.out (by rw [Hcmd.out]; exact if_pos (by omega)))
            subst hr
            clear hk1 HR0 HP HW HLn
            go_wp2_with fail
            exact bodyPost_ret (v := .tuple #[.slice none 0 0, .int .i64 3]) (by simp [results, Try.results8, asAddr, go_sem]) rfl ⟨_, rfl, rdpp_nil _ _, HBB.out⟩
    · have e0 : ((ik : Int) == 0) = false := by simp; omega
      have dF : decide ((0 : Int) < (ik : Int)) = true := decide_eq_true (by omega)
      have hF0 : 0 < ik := by omega
      by_cases hiL : ik < L
      · have dG : decide ((ik : Int) < (L : Int)) = true := decide_eq_true (by omega)
        by_cases hkk : kind = 1
        · have hr : R = .error 3 := by have := HRes.out; rw [if_pos (.inr hiL), if_pos ⟨hkk, hi0'⟩] at this; exact this
          subst hr
          have hL0 : ¬ L = 0 := by omega
          have dL : ((L : Int) == 0) = false := by simp; omega
          have dE : (K == 1) = true := by have := HKk.out.1; simp; omega
          have dD : decide (1 < K) = false := decide_eq_false (by have := HKk.out.1; omega)
          clear hi0' hkk HRes HR0 HP HW HLn
          have hiL2 : ik < l.length := by have := HL.out; omega
          obtain ⟨bb, off, rfl, hbb, hcell⟩ := HN.out (by omega)
          have ex : wr.cell? ⟨bb, off + ik, none⟩ = some (.int .u32 ((l[ik]'hiL2 : Nat) : Int)) := by
            have := hcell ik hiL2
            rw [(HBB.out.cell (p := ⟨bb, off + ik, none⟩) hbb), this]
            simp [List.getD, hiL2]
          have hx := Hl.out _ (List.getElem_mem hiL2)
          have hcA := fun op a b => cmd_at hiL2 op a b
          obtain ⟨x, hxe⟩ : ∃ x, x = l[ik]'hiL2 := ⟨_, rfl⟩
          rw [← hxe] at ex hx
          simp only [← hxe] at hcA
          obtain ⟨q, hqe⟩ : ∃ q, q = x / 8 := ⟨_, rfl⟩
          obtain ⟨m8, hme⟩ : ∃ m, m = x % 8 := ⟨_, rfl⟩
          have hqI : (x : Int) / 8 = (q : Int) := by omega
          have hmI : (x : Int) % 8 = (m8 : Int) := by omega
          have hqu : q < 536870912 := by omega
          have hi0n : (0 : Int) ≤ (ik : Int) := by omega
          have hi1n : (ik : Int) < (L : Int) := by omega
          rw [← hqe, ← hme] at hcA
          have HCA := Lib.hid hcA
          clear hxe hcA hcell hqe hme hiL2
          by_cases g1 : m8 = 1
          · have dA : ((m8 : Int) != 1) = false := by simp [g1]
            by_cases g2 : q < 1
            · have dB : decide ((q : Int) < 1) = true := decide_eq_true (by omega)
              go_wp2_with fail
              exact bodyPost_ret (v := .tuple #[.slice none 0 0, .int .i64 3]) (by simp [results, Try.results8, asAddr, go_sem]) rfl ⟨_, rfl, rdpp_nil _ _, HBB.out⟩
            · have dB : decide ((q : Int) < 1) = false := decide_eq_false (by omega)
              by_cases g3 : 1 < q
              · have dC : decide (1 < (q : Int)) = true := decide_eq_true (by omega)
                go_wp2_with fail
                exact bodyPost_ret (v := .tuple #[.slice none 0 0, .int .i64 3]) (by simp [results, Try.results8, asAddr, go_sem]) rfl ⟨_, rfl, rdpp_nil _ _, HBB.out⟩
              · have dC : decide (1 < (q : Int)) = false := decide_eq_false (by omega)
                go_wp2_with fail
                exact bodyPost_ret (v := .tuple #[.slice none 0 0, .int .i64 3]) (by simp [results, Try.results8, asAddr, go_sem]) rfl ⟨_, rfl, rdpp_nil _ _, HBB.out⟩
          · have dA : ((m8 : Int) != 1) = true := by simp; omega
            go_wp2_with fail
            exact bodyPost_ret (v := .tuple #[.slice none 0 0, .int .i64 3]) (by simp [results, Try.results8, asAddr, go_sem]) rfl ⟨_, rfl, rdpp_nil _ _, HBB.out⟩
        · have hres := HRes.out
          rw [if_pos (.inr hiL), if_neg (fun h => hkk h.1)] at hres
          have Hi0 := Lib.hid hi0'
          have Hk1 := Lib.hid hkk
          clear hi0' hkk
          obtain ⟨f1', rfl⟩ : ∃ j, f = j + 1 := ⟨f - 1, by have := HLn.out.1; omega⟩
          have Hres := Lib.hid hres
          clear hres HRes
          by_cases hL0 : L = 0
          · omega
          · have dL : ((L : Int) == 0) = false := by simp; omega
            have hikL : ik < L := by have := Hi0.out; omega
            have hiL2 : ik < l.length := by have := HL.out; omega
            obtain ⟨bb, off, rfl, hbb, hcell⟩ := HN.out (by omega)
            have ex : wr.cell? ⟨bb, off + ik, none⟩ = some (.int .u32 ((l[ik]'hiL2 : Nat) : Int)) := by
              have := hcell ik hiL2
              rw [(HBB.out.cell (p := ⟨bb, off + ik, none⟩) hbb), this]
              simp [List.getD, hiL2]
            have hx := Hl.out _ (List.getElem_mem hiL2)
            have hcA := fun op a b => cmd_at hiL2 op a b
            obtain ⟨x, hxe⟩ : ∃ x, x = l[ik]'hiL2 := ⟨_, rfl⟩
            rw [← hxe] at ex hx
            simp only [← hxe] at hcA
            obtain ⟨q, hqe⟩ : ∃ q, q = x / 8 := ⟨_, rfl⟩
            obtain ⟨m8, hme⟩ : ∃ m, m = x % 8 := ⟨_, rfl⟩
            have hqI : (x : Int) / 8 = (q : Int) := by omega
            have hmI : (x : Int) % 8 = (m8 : Int) := by omega
            have hqu : q < 536870912 := by omega
            have hi0n : (0 : Int) ≤ (ik : Int) := by omega
            have hi1n : (ik : Int) < (L : Int) := by omega
            rw [← hqe, ← hme] at hcA
            have HCA := Lib.hid hcA
            clear hxe hcA hcell hqe hme hiL2
            have dE : (K == 1) = false := by have := HKk.out.1; have := Hk1.out; simp; omega
            have dD : decide (1 < K) = true := decide_eq_true (by have := HKk.out; have := Hk1.out; omega)
            have Hcmd := Lib.hid (HCA.out 1 1 1)
            by_cases g1 : m8 = 1
            · have dA : ((m8 : Int) != 1) = false := by simp [g1]
              by_cases g2 : q < 1
              · have dB : decide ((q : Int) < 1) = true := decide_eq_true (by omega)
                have hr : R = .error 3 := by rw [← Hres.out]; exact loopM_err (step2_err Hk1.out (by rw [Hcmd.out]; exact if_pos (by omega)))
                subst hr
                clear HR0 HP HW HLn
                go_wp2_with fail
                exact bodyPost_ret (v := .tuple #[.slice none 0 0, .int .i64 3]) (by simp [results, Try.results8, asAddr, go_sem]) rfl ⟨_, rfl, rdpp_nil _ _, HBB.out⟩
              · have dB : decide ((q : Int) < 1) = false := decide_eq_false (by omega)
                by_cases g3 : 1 < q
                · have dC : decide (1 < (q : Int)) = true := decide_eq_true (by omega)
                  have hr : R = .error 3 := by rw [← Hres.out]; exact loopM_err (step2_err Hk1.out (by rw [Hcmd.out]; exact if_pos (by omega)))
                  subst hr
                  clear HR0 HP HW HLn
                  go_wp2_with fail
                  exact bodyPost_ret (v := .tuple #[.slice none 0 0, .int .i64 3]) (by simp [results, Try.results8, asAddr, go_sem]) rfl ⟨_, rfl, rdpp_nil _ _, HBB.out⟩
                · have dC : decide (1 < (q : Int)) = false := decide_eq_false (by omega)
                  have hcmd : cmdM 1 1 1 (l.drop ik) = .ok (q, l.drop (ik + 1)) := by rw [Hcmd.out]; exact if_neg (by omega)
                  have Hcmd := Lib.hid hcmd
                  clear hcmd
                  have hPts := refPts_any (some ⟨bb, off, none⟩) c l (ik + 1) q (px, py) wr ((HN.out.below HBB.out).more HBB.out.size) (by have := HL.out; omega) Hl.out (by have := HL.out; omega) (by omega) Hpk.out
                  rw [← HL.out, show ((ik + 1 : Nat) : Int) = (ik : Int) + 1 by omega] at hPts
                  have HPts := Lib.hid hPts
                  clear hPts
                  go_upto_region 12 with (fail)
                  cases hp1 : ptsM q (l.drop (ik + 1)) (px, py) [] with
                  | error e1 =>
                    rw [hp1] at HPts
                    have hr : R = .error e1 := by rw [← Hres.out]; exact loopM_err (step2_err2 Hk1.out Hcmd.out hp1)
                    subst hr
                    have he1 : ¬ e1 = 0 := ptsM_pos hp1
                    have de1 : ((e1 : Int) != 0) = true := by simp; omega
                    clear hp1 HP HW HLn
                    go_wp2_with fail
                    refine HPts.out.mono ?_
                    rintro e W ⟨rfl, hb⟩
                    have HB9 := Lib.hid (HBB.out.trans (hb.mono HBB.out.size))
                    clear hb
                    go_wp2_with fail
                    exact bodyPost_ret (v := .tuple #[.slice none 0 0, .int .i64 (e1 : Int)]) (by simp [results, Try.results8, asAddr, go_sem]) rfl ⟨_, rfl, rdpp_nil _ _, HB9.out⟩
                  | ok q1 =>
                    obtain ⟨r1, rest1, p1⟩ := q1
                    rw [hp1] at HPts
                    have hdr := ptsM_drop (by have := HL.out; omega) hp1
                    have hln := (ptsM_len _ _ _ _ _ _ _ hp1).2
                    have hlast := ptsM_last _ _ _ _ _ _ _ hp1
                    have hin1 := ptsM_in _ _ _ _ _ _ _ Hpk.out (by simp) hp1
                    rw [← HL.out] at hdr
                    obtain ⟨nx, hnx⟩ : ∃ z, z = L - rest1.length := ⟨_, rfl⟩
                    rw [← hnx] at hdr
                    go_wp2_with fail
                    refine HPts.out.mono ?_
                    rintro e W ⟨v', rfl, hOw, hb⟩
                    rw [← hnx]
                    have HR1 := Lib.hid (HR0.out.more hb)
                    obtain ⟨b1, hb1⟩ : ∃ b, r1 = b ++ [p1] := by
                      rcases hlast with ⟨h, _⟩ | h
                      · omega
                      · exact h
                    obtain ⟨rm, hrm⟩ : ∃ z, r1.length = z + 1 := ⟨q - 1, by simp at hln; omega⟩
                    have hget := last_at hb1 hrm (by omega)
                    obtain ⟨va, vc, rfl, hvc, hvm, hPat⟩ := hOw.rd
                    obtain ⟨bp, op, rfl, hbp, q0, q1⟩ := hPat.at rm (by omega)
                    rw [hget] at q0 q1
                    obtain ⟨p1x, p1y⟩ := p1
                    obtain ⟨rl, hrl⟩ : ∃ z, z = r1.length := ⟨_, rfl⟩
                    have hrlm : (rl : Int) - 1 = (rm : Int) := by omega
                    have hrm0 : (0 : Int) ≤ (rm : Int) := by omega
                    have hrm1 : (rm : Int) < (rl : Int) := by omega
                    have hwrm : wrap64 (rm : Int) = (rm : Int) := by rw [← IntWalk.i64_left, IntKind.wrap_i64]; simp at hln; omega
                    rw [← hrl]
                    simp only at q0 q1
                    have t0 : W.cell? ⟨b7, 0, none⟩ = some (.int .i64 px) := HR1.out.1.cell 0
                    have t1 : W.cell? ⟨b7, 1, none⟩ = some (.int .i64 py) := HR1.out.1.cell 1
                    have f0 : W.frozen? ⟨b7, 0, none⟩ = false := HR1.out.1.frozen 0
                    have f1 : W.frozen? ⟨b7, 1, none⟩ = false := HR1.out.1.frozen 1
                    obtain ⟨W2, hW2⟩ : ∃ z, z = (W.setCell ⟨b7, 0, none⟩ (.int .i64 p1x)).setCell ⟨b7, 1, none⟩ (.int .i64 p1y) := ⟨_, rfl⟩
                    have HR2 : Hid (Rst w wr b7 (p1x, p1y) W2) := by rw [hW2]; exact HR1.out.set hl7 (p1x, p1y)
                    have hO2 : Only (fun b => b = b7) W W2 := by rw [hW2]; exact set_only _ _ _ _
                    have hlow : ∀ b, (Value.slice (some ⟨bp, op, none⟩) r1.length vc).ownBlock = some b → wr.heap.size ≤ b := fun b hb => (hOw.lt b hb).1
                    have HOw := Lib.hid (hOw.only hO2 (fun b hb e => by have := hlow b hb; omega))
                    have Hlow := Lib.hid hlow
                    have HRl := Lib.hid hrl
                    have Hnx := Lib.hid (show rest1 = l.drop nx ∧ nx = ik + 1 + 2 * q ∧ nx ≤ L from ⟨hdr.1, hdr.2.1, hdr.2.1 ▸ hdr.2.2⟩)
                    have hnxL : nx ≤ L := Hnx.out.2.2
                    have hnxi : ik < nx := by rw [Hnx.out.2.1]; exact Nat.lt_of_lt_of_le (Nat.lt_succ_self ik) (Nat.le_add_right _ _)
                    have Hin1 := Lib.hid hin1
                    have Hln1 := Lib.hid (show r1.length = q from by simpa using hln)
                    have Hp1 := Lib.hid hp1
                    clear hOw hb hlast hb1 hget hPat hO2 hlow hrl hdr hnx hln hin1 hp1 hrm
                    go_upto_region 17 with (fail)
                    rw [← hW2]
                    clear hbp q0 q1 hrlm hwrm hrm0 hrm1 t0 t1 f0 f1 hW2 HPts HR1 hvc hvm
                    have HB2 := Lib.hid HR2.out.2.2
                    obtain ⟨km, hkm⟩ : ∃ km, kind = km + 1 := ⟨kind - 1, by have := HKk.out; omega⟩
                    have hKm : K - 1 = (km : Int) := by have := HKk.out.1; omega
                    have Hkm := Lib.hid hkm
                    clear hkm
                    by_cases hx2 : nx < L
                    · have hiLb : nx < l.length := by have := HL.out; omega
                      obtain ⟨bb, off, hbo, hbb, hcell⟩ := HN.out (by omega)
                      injection hbo with hbo
                      injection hbo with hbo1 hbo2
                      subst hbo1 hbo2
                      have ex2 : W2.cell? ⟨bb, off + nx, none⟩ = some (.int .u32 ((l[nx]'hiLb : Nat) : Int)) := by
                        have := hcell nx hiLb
                        rw [(HB2.out.cell (p := ⟨bb, off + nx, none⟩) hbb), this]
                        simp [List.getD, hiLb]
                      have hx := Hl.out _ (List.getElem_mem hiLb)
                      have hcA := fun op a b => cmd_at hiLb op a b
                      obtain ⟨x2, hxe⟩ : ∃ x, x = l[nx]'hiLb := ⟨_, rfl⟩
                      rw [← hxe] at ex2 hx
                      simp only [← hxe] at hcA
                      obtain ⟨q2, hqe⟩ : ∃ q, q = x2 / 8 := ⟨_, rfl⟩
                      obtain ⟨m2, hme⟩ : ∃ m, m = x2 % 8 := ⟨_, rfl⟩
                      have hqI : (x2 : Int) / 8 = (q2 : Int) := by omega
                      have hmI : (x2 : Int) % 8 = (m2 : Int) := by omega
                      have hqu : q2 < 536870912 := by omega
                      have hi0n : (0 : Int) ≤ (nx : Int) := by omega
                      have hi1n : (nx : Int) < (L : Int) := by omega
                      rw [← hqe, ← hme] at hcA
                      have HCA := Lib.hid hcA
                      clear hxe hcA hcell hqe hme hiLb
                      by_cases k1 : m2 = 2
                      · have dA2 : ((m2 : Int) != 2) = false := by simp [k1]
                        by_cases k2 : q2 < km
                        · have dB2 : decide ((q2 : Int) < (km : Int)) = true := decide_eq_true (by omega)
                          have hr : R = .error 3 := by rw [← Hres.out]; exact loopM_err (step2_err3 Hk1.out Hcmd.out Hp1.out (by rw [Hnx.out.1, HCA.out 2 (kind - 1) 536870912]; exact if_pos (by have := Hkm.out; omega)))
                          subst hr
                          clear HP HW HLn HOw
                          go_wp2_with fail
                          exact bodyPost_ret (v := .tuple #[.slice none 0 0, .int .i64 3]) (by simp [results, Try.results8, asAddr, go_sem]) rfl ⟨_, rfl, rdpp_nil _ _, HB2.out⟩
                        · have dB2 : decide ((q2 : Int) < (km : Int)) = false := decide_eq_false (by omega)
                          have hcmd2 : cmdM 2 (kind - 1) 536870912 rest1 = .ok (q2, l.drop (nx + 1)) := by rw [Hnx.out.1, HCA.out 2 (kind - 1) 536870912]; exact if_neg (by have := Hkm.out; omega)
                          have Hcmd2 := Lib.hid hcmd2
                          clear hcmd2
                          have hPts := refPts_any (some ⟨bb, off, none⟩) c l (nx + 1) q2 (p1x, p1y) W2 ((HN.out.below HB2.out).more HB2.out.size) (by have := HL.out; omega) Hl.out (by have := HL.out; omega) (by omega) Hin1.out.1
                          rw [← HL.out, show ((nx + 1 : Nat) : Int) = (nx : Int) + 1 by omega] at hPts
                          have HPts := Lib.hid hPts
                          clear hPts
                          have t0 : W2.cell? ⟨b7, 0, none⟩ = some (.int .i64 p1x) := HR2.out.1.cell 0
                          have t1 : W2.cell? ⟨b7, 1, none⟩ = some (.int .i64 p1y) := HR2.out.1.cell 1
                          go_upto_region 23 with (fail)
                          cases hp2 : ptsM q2 (l.drop (nx + 1)) (p1x, p1y) [] with
                          | error e1 =>
                            rw [hp2] at HPts
                            have hr : R = .error e1 := by rw [← Hres.out]; exact loopM_err (step2_err4 Hk1.out Hcmd.out Hp1.out Hcmd2.out hp2)
                            subst hr
                            have he1 : ¬ e1 = 0 := ptsM_pos hp2
                            have de1 : ((e1 : Int) != 0) = true := by simp; omega
                            clear hp2 HP HW HLn HOw
                            go_wp2_with fail
                            refine HPts.out.mono ?_
                            rintro e W ⟨rfl, hb⟩
                            have HB9 := Lib.hid (HB2.out.trans (hb.mono HB2.out.size))
                            clear hb
                            go_wp2_with fail
                            exact bodyPost_ret (v := .tuple #[.slice none 0 0, .int .i64 (e1 : Int)]) (by simp [results, Try.results8, asAddr, go_sem]) rfl ⟨_, rfl, rdpp_nil _ _, HB9.out⟩
                          | ok q3 =>
                            obtain ⟨r2, rest2, p2⟩ := q3
                            rw [hp2] at HPts
                            have hdr := ptsM_drop (by have := HL.out; omega) hp2
                            have hln := (ptsM_len _ _ _ _ _ _ _ hp2).2
                            have hlast := ptsM_last _ _ _ _ _ _ _ hp2
                            have hin2 := ptsM_in _ _ _ _ _ _ _ Hin1.out.1 (by simp) hp2
                            rw [← HL.out] at hdr
                            obtain ⟨ny, hny⟩ : ∃ z, z = L - rest2.length := ⟨_, rfl⟩
                            rw [← hny] at hdr
                            go_wp2_with fail
                            refine HPts.out.mono ?_
                            rintro e W3 ⟨v2, rfl, hOw2, hb⟩
                            rw [← hny]
                            have HR3 := Lib.hid (HR2.out.more hb)
                            have hOw1 := HOw.out.below hb
                            rw [← HRl.out] at hOw1
                            obtain ⟨va2, vc2, rfl, _, _, hPat2⟩ := hOw2.rd
                            have hln2 : r2.length = q2 := by simpa using hln
                            have hsz : wr.heap.size ≤ W3.heap.size := Nat.le_trans HR2.out.2.1.size hb.size
                            have hnyF : rest2 = l.drop ny ∧ ny = nx + 1 + 2 * q2 ∧ ny ≤ L := ⟨hdr.1, hdr.2.1, hdr.2.1 ▸ hdr.2.2⟩
                            obtain ⟨v4, W4, hrun, hG⟩ := app_pts wr.heap.size _ r1 r2 va2 vc2 hOw1 hPat2 (by have h1 := Hln1.out; have h2 := Hnx.out.2; rw [h1, hln2]; omega) hsz
                            have hlow := Hlow.out
                            rw [← HRl.out] at hlow
                            have hRst4 : Rst w wr b7 (p1x, p1y) W4 := ⟨HR3.out.1.only hG.only (fun e => by have := hlow b7 e; omega), HR3.out.2.1.trans hG.only (fun b hb hS => by have := hlow b hS; omega), HR3.out.2.2.trans ((hG.below hOw1 hsz).mono HBB.out.size)⟩
                            have hv4low : ∀ b, v4.ownBlock = some b → wr.heap.size ≤ b := fun b hb => (hG.own.lt b hb).1
                            obtain ⟨b2, hb2⟩ : ∃ b, r2 = b ++ [p2] := by
                              rcases hlast with ⟨h, _⟩ | h
                              · have := Hkm.out; have := HKk.out; have := Hk1.out; omega
                              · exact h
                            have hb12 : r1 ++ r2 = (r1 ++ b2) ++ [p2] := by rw [hb2]; simp
                            obtain ⟨r12, hr12⟩ : ∃ z, z = r1 ++ r2 := ⟨_, rfl⟩
                            rw [← hr12] at hG hb12
                            have hl12 : r12.length = q + q2 := by rw [hr12, List.length_append, Hln1.out, hln2]
                            obtain ⟨rm2, hrm2⟩ : ∃ z, r12.length = z + 1 := ⟨q + q2 - 1, by rw [hl12]; omega⟩
                            have hget2 := last_at hb12 hrm2 (by omega)
                            obtain ⟨va4, vc4, rfl, hvc4, hvm4, hPat4⟩ := hG.own.rd
                            obtain ⟨bq, oq, rfl, hbq, u0, u1⟩ := hPat4.at rm2 (by omega)
                            rw [hget2] at u0 u1
                            obtain ⟨p2x, p2y⟩ := p2
                            obtain ⟨rl4, hrl4⟩ : ∃ z, z = r12.length := ⟨_, rfl⟩
                            have hrlm4 : (rl4 : Int) - 1 = (rm2 : Int) := by omega
                            have hrm40 : (0 : Int) ≤ (rm2 : Int) := by omega
                            have hrm41 : (rm2 : Int) < (rl4 : Int) := by omega
                            have hwrm4 : wrap64 (rm2 : Int) = (rm2 : Int) := by rw [← IntWalk.i64_left, IntKind.wrap_i64]; have := Hnx.out.2; omega
                            rw [← hrl4] at hrun
                            simp only at u0 u1
                            have t0 : W4.cell? ⟨b7, 0, none⟩ = some (.int .i64 p1x) := hRst4.1.cell 0
                            have t1 : W4.cell? ⟨b7, 1, none⟩ = some (.int .i64 p1y) := hRst4.1.cell 1
                            have f0 : W4.frozen? ⟨b7, 0, none⟩ = false := hRst4.1.frozen 0
                            have f1 : W4.frozen? ⟨b7, 1, none⟩ = false := hRst4.1.frozen 1
                            obtain ⟨W5, hW5⟩ : ∃ z, z = (W4.setCell ⟨b7, 0, none⟩ (.int .i64 p2x)).setCell ⟨b7, 1, none⟩ (.int .i64 p2y) := ⟨_, rfl⟩
                            have HR5 : Hid (Rst w wr b7 (p2x, p2y) W5) := by rw [hW5]; exact hRst4.set hl7 (p2x, p2y)
                            have hO5 : Only (fun b => b = b7) W4 W5 := by rw [hW5]; exact set_only _ _ _ _
                            have HOw5 := Lib.hid (hG.own.only hO5 (fun b hb e => by have := hv4low b hb; omega))
                            have Hlow5 := Lib.hid hv4low
                            have HRl5 := Lib.hid hrl4
                            have HB5 := Lib.hid HR5.out.2.2
                            have Hny := Lib.hid hnyF
                            have hnyL : ny ≤ L := hnyF.2.2
                            have hnyi : ik < ny := by rw [hnyF.2.1]; exact Nat.lt_of_lt_of_le hnxi (Nat.le_trans (Nat.le_succ nx) (Nat.le_add_right _ _))
                            have Hin2 := Lib.hid hin2
                            have Hp2 := Lib.hid hp2
                            have Hrun := Lib.hid hrun
                            have Hr12 := Lib.hid hr12
                            clear hb hlast hb2 hb12 hget2 hPat2 hPat4 hO5 hlow hv4low hrl4 hdr hny hnyF hln hin2 hp2 hrm2 hG hOw1 hOw2 hln2 hl12 hrun hRst4 hr12 HR3 hsz HOw
                            go_upto_region 29 with (at_builtin; refine app_run (by rfl) (.tmp 124) (.tmp 125) 43 rfl _ _ _ rfl rfl Hrun.out ?_)
                            rw [← hW5]
                            clear hbq u0 u1 hrlm4 hwrm4 hrm40 hrm41 t0 t1 f0 f1 hW5 HPts hvc4 hvm4 Hrun
                            by_cases hk3 : kind = 3
                            · have dK : (K == 3) = true := by have := HKk.out.1; simp; omega
                              have Hk3 := Lib.hid hk3
                              clear hk3
                              by_cases hx3 : ny < L
                              · have hiLc : ny < l.length := by have := HL.out; omega
                                obtain ⟨bb, off, hbo, hbb, hcell⟩ := HN.out (by omega)
                                injection hbo with hbo
                                injection hbo with hbo1 hbo2
                                subst hbo1 hbo2
                                have ex3 : W5.cell? ⟨bb, off + ny, none⟩ = some (.int .u32 ((l[ny]'hiLc : Nat) : Int)) := by
                                  have := hcell ny hiLc
                                  rw [(HB5.out.cell (p := ⟨bb, off + ny, none⟩) hbb), this]
                                  simp [List.getD, hiLc]
                                have hx := Hl.out _ (List.getElem_mem hiLc)
                                have hcA := fun op a b => cmd_at hiLc op a b
                                obtain ⟨x3, hxe⟩ : ∃ x, x = l[ny]'hiLc := ⟨_, rfl⟩
                                rw [← hxe] at ex3 hx
                                simp only [← hxe] at hcA
                                obtain ⟨q3, hqe⟩ : ∃ q, q = x3 / 8 := ⟨_, rfl⟩
                                obtain ⟨m3, hme⟩ : ∃ m, m = x3 % 8 := ⟨_, rfl⟩
                                have hqI : (x3 : Int) / 8 = (q3 : Int) := by omega
                                have hmI : (x3 : Int) % 8 = (m3 : Int) := by omega
                                have hqu : q3 < 536870912 := by omega
                                have hi0n : (0 : Int) ≤ (ny : Int) := by omega
                                have hi1n : (ny : Int) < (L : Int) := by omega
                                rw [← hqe, ← hme] at hcA
                                have HCA := Lib.hid hcA
                                clear hxe hcA hcell hqe hme hiLc
                                by_cases k15 : x3 = 15
                                · have d15 : ((x3 : Int) != 15) = false := by simp [k15]
                                  have hcmd7 : cmdM 7 1 1 rest2 = .ok (q3, l.drop (ny + 1)) := by rw [Hny.out.1, HCA.out 7 1 1]; exact if_neg (by omega)
                                  have Hcmd7 := Lib.hid hcmd7
                                  have Hny1 := Lib.hid (show l.drop (ny + 1) = l.drop (ny + 1) ∧ True from ⟨rfl, trivial⟩)
                                  clear hcmd7 k15
                                  have hgr := (by rw [step2_ok Hk1.out Hcmd.out Hp1.out Hcmd2.out Hp2.out, if_pos Hk3.out, Hcmd7.out, ← Hr12.out] : stepM kind (l.drop ik) (px, py) = .ok (r12, l.drop (ny + 1), (p2x, p2y)))
                                  have hres2 := Hres.out
                                  rw [loopM_ok hgr] at hres2
                                  have hPk := HP.out.only HR5.out.2.1 (fun b e => by omega)
                                  have HPB := Lib.hid (fun b (hb : v1.ownBlock = some b) => HP.out.lt b hb)
                                  obtain ⟨xs, hown, hx⟩ := hPk
                                  have HX := Lib.hid hx
                                  have HU := Lib.hid (RdN.of_rd (own := v1.ownBlock) HOw5.out.rd (fun b hb e => by
                                    have h1 := Hlow5.out b hb
                                    have h2 := (HPB.out b e).2
                                    omega))
                                  have huo := rdp_one HOw5.out.rd
                                  have HUl := Lib.hid (fun b hb => (by have := Hlow5.out b hb; omega : b7 + 1 ≤ b))
                                  have hxl : xs.length = acc.length := by have := hown.1; omega
                                  have hBg : b7 + 1 ≤ W5.heap.size := by have := HR5.out.1.lt; omega
                                  have hacc : acc.length ≤ 1000 := by have := HLn.out.2; omega
                                  have Hres2 := Lib.hid hres2
                                  clear hx hgr hres2
                                  try rw [← HRl5.out] at HU huo HUl
                                  go_wp2_with (at_builtin; refine app_one rfl (.tmp 147) (.tmp 149) 24 rfl (b7 + 1) 43 i0 _ 24 Try.underlying24 hi0 hz0 hz1 hz2 rfl v1 _ _ rfl hown (.slice (some ⟨bq, oq, none⟩) rl4 vc4) 1 rfl huo (by unfold maxLen; omega) (by omega) hBg ?_)
                                  intro v3 w3 g2 g3 g5
                                  have hG := Paths.grow HX.out hxl HU.out HUl.out g2 g3 g5
                                  have hOg : Only (fun b => v1.ownBlock = some b) W5 w3 := Only.of_grown g3 (fun b e => e)
                                  have hPL : ∀ b, v1.ownBlock = some b → b7 + 1 ≤ b := fun b hb => (HPB.out b hb).1
                                  have HA1 := Lib.hid hG
                                  have HA2 := Lib.hid (HR5.out.1.only hOg (fun e => by have := hPL b7 e; omega))
                                  have HA3 := Lib.hid (HR5.out.2.2.trans (hOg.below (fun b hlt hS => by have := hPL b hS; omega) HR5.out.2.2.size))
                                  clear g2 g3 g5 hG hOg hPL hown
                                  go_wp2_with fail
                                  go_roundw
                                  case rel => exact ⟨(ny + 1), f1', (p2x, p2y), acc ++ [r12], v3, by omega, by go_num, rfl, HA1, HA2, HA3, Hin2.out.1, ⟨by have := HLn.out; omega, by have := HLn.out; simp; omega⟩, by
                                    have h9 := Hres2.out
                                    have hlL := HL.out
                                    show (if _ then _ else _)
                                    by_cases hnL : ny + 1 < L
                                    · rw [if_pos (.inr hnL), if_neg (fun h => Hk1.out h.1)]
                                      rw [if_neg (by intro e; have := List.drop_eq_nil_iff.1 e; omega), if_neg Hk1.out] at h9
                                      exact h9
                                    · rw [if_neg (by omega)]
                                      rw [if_pos (by exact List.drop_eq_nil_of_le (by omega))] at h9
                                      exact h9.symm⟩
                                  case measure => simp [intOf]; omega
                                · have d15 : ((x3 : Int) != 15) = true := by simp; omega
                                  have hr : R = .error 3 := by rw [← Hres.out]; exact loopM_err (by rw [step2_ok Hk1.out Hcmd.out Hp1.out Hcmd2.out Hp2.out, if_pos Hk3.out, Hny.out.1, HCA.out 7 1 1, if_pos (by omega)])
                                  subst hr
                                  clear HP HW HLn HOw5
                                  go_wp2_with fail
                                  exact bodyPost_ret (v := .tuple #[.slice none 0 0, .int .i64 3]) (by simp [results, Try.results8, asAddr, go_sem]) rfl ⟨_, rfl, rdpp_nil _ _, HB5.out⟩
                              · have dL3 : decide ((L : Int) ≤ (ny : Int)) = true := decide_eq_true (by omega)
                                have hr : R = .error 2 := by rw [← Hres.out]; exact loopM_err (by rw [step2_ok Hk1.out Hcmd.out Hp1.out Hcmd2.out Hp2.out, if_pos Hk3.out, Hny.out.1, cmd_end (by have := HL.out; omega)])
                                subst hr
                                clear HP HW HLn HOw5
                                go_wp2_with fail
                                exact bodyPost_ret (v := .tuple #[.slice none 0 0, .int .i64 2]) (by simp [results, Try.results8, asAddr, go_sem]) rfl ⟨_, rfl, rdpp_nil _ _, HB5.out⟩
                            · have dK : (K == 3) = false := by have := HKk.out.1; simp; omega
                              have Hk3 := Lib.hid hk3
                              clear hk3
                              have hgr := (by rw [step2_ok Hk1.out Hcmd.out Hp1.out Hcmd2.out Hp2.out, if_neg Hk3.out, ← Hr12.out] : stepM kind (l.drop ik) (px, py) = .ok (r12, rest2, (p2x, p2y)))
                              have hres2 := Hres.out
                              rw [loopM_ok hgr] at hres2
                              have hPk := HP.out.only HR5.out.2.1 (fun b e => by omega)
                              have HPB := Lib.hid (fun b (hb : v1.ownBlock = some b) => HP.out.lt b hb)
                              obtain ⟨xs, hown, hx⟩ := hPk
                              have HX := Lib.hid hx
                              have HU := Lib.hid (RdN.of_rd (own := v1.ownBlock) HOw5.out.rd (fun b hb e => by
                                have h1 := Hlow5.out b hb
                                have h2 := (HPB.out b e).2
                                omega))
                              have huo := rdp_one HOw5.out.rd
                              have HUl := Lib.hid (fun b hb => (by have := Hlow5.out b hb; omega : b7 + 1 ≤ b))
                              have hxl : xs.length = acc.length := by have := hown.1; omega
                              have hBg : b7 + 1 ≤ W5.heap.size := by have := HR5.out.1.lt; omega
                              have hacc : acc.length ≤ 1000 := by have := HLn.out.2; omega
                              have Hres2 := Lib.hid hres2
                              clear hx hgr hres2
                              try rw [← HRl5.out] at HU huo HUl
                              go_wp2_with (at_builtin; refine app_one rfl (.tmp 147) (.tmp 149) 24 rfl (b7 + 1) 43 i0 _ 24 Try.underlying24 hi0 hz0 hz1 hz2 rfl v1 _ _ rfl hown (.slice (some ⟨bq, oq, none⟩) rl4 vc4) 1 rfl huo (by unfold maxLen; omega) (by omega) hBg ?_)
                              intro v3 w3 g2 g3 g5
                              have hG := Paths.grow HX.out hxl HU.out HUl.out g2 g3 g5
                              have hOg : Only (fun b => v1.ownBlock = some b) W5 w3 := Only.of_grown g3 (fun b e => e)
                              have hPL : ∀ b, v1.ownBlock = some b → b7 + 1 ≤ b := fun b hb => (HPB.out b hb).1
                              have HA1 := Lib.hid hG
                              have HA2 := Lib.hid (HR5.out.1.only hOg (fun e => by have := hPL b7 e; omega))
                              have HA3 := Lib.hid (HR5.out.2.2.trans (hOg.below (fun b hlt hS => by have := hPL b hS; omega) HR5.out.2.2.size))
                              clear g2 g3 g5 hG hOg hPL hown
                              go_wp2_with fail
                              go_roundw
                              case rel => exact ⟨ny, f1', (p2x, p2y), acc ++ [r12], v3, by omega, by go_num, rfl, HA1, HA2, HA3, Hin2.out.1, ⟨by have := HLn.out; omega, by have := HLn.out; simp; omega⟩, by
                                have h9 := Hres2.out
                                have hrn := Hny.out
                                have hlL := HL.out
                                show (if _ then _ else _)
                                by_cases hnL : ny < L
                                · rw [if_pos (.inr hnL), if_neg (fun h => Hk1.out h.1)]
                                  rw [if_neg (by rw [hrn.1]; intro e; have := List.drop_eq_nil_iff.1 e; omega), if_neg Hk1.out, hrn.1] at h9
                                  exact h9
                                · rw [if_neg (by omega)]
                                  rw [if_pos (by rw [hrn.1]; exact List.drop_eq_nil_of_le (by omega))] at h9
                                  exact h9.symm⟩
                              case measure => simp [intOf]; omega
                      · have dA2 : ((m2 : Int) != 2) = true := by simp; omega
                        have hr : R = .error 3 := by rw [← Hres.out]; exact loopM_err (step2_err3 Hk1.out Hcmd.out Hp1.out (by rw [Hnx.out.1, HCA.out 2 (kind - 1) 536870912]; exact if_pos (by have := Hkm.out; omega)))
                        subst hr
                        clear HP HW HLn HOw
                        go_wp2_with fail
                        exact bodyPost_ret (v := .tuple #[.slice none 0 0, .int .i64 3]) (by simp [results, Try.results8, asAddr, go_sem]) rfl ⟨_, rfl, rdpp_nil _ _, HB2.out⟩
                    · have dL2 : decide ((L : Int) ≤ (nx : Int)) = true := decide_eq_true (by omega)
                      have hr : R = .error 2 := by rw [← Hres.out]; exact loopM_err (step2_err3 Hk1.out Hcmd.out Hp1.out (by rw [Hnx.out.1]; exact cmd_end (by have := HL.out; omega) _ _ _))
                      subst hr
                      clear HP HW HLn HOw
                      go_wp2_with fail
                      exact bodyPost_ret (v := .tuple #[.slice none 0 0, .int .i64 2]) (by simp [results, Try.results8, asAddr, go_sem]) rfl ⟨_, rfl, rdpp_nil _ _, HB2.out⟩
            · have dA : ((m8 : Int) != 1) = true := by simp; omega
              have hr : R = .error 3 := by rw [← Hres.out]; exact loopM_err (step2_err Hk1.out (by rw [Hcmd.out]; exact if_pos (by omega)))
              subst hr
              clear HR0 HP HW HLn
              go_wp2_with fail
              exact bodyPost_ret (v := .tuple #[.slice none 0 0, .int .i64 3]) (by simp [results, Try.results8, asAddr, go_sem]) rfl ⟨_, rfl, rdpp_nil _ _, HBB.out⟩
      · have hr : R = .ok acc := by have := HRes.out; rw [if_neg (by omega)] at this; exact this
        subst hr
        have HPr := Lib.hid HP.out.pp.rd
        clear HP HW HLn HRes HR0 t0 t1 f0 f1
        go_wp2_with fail
        exact bodyPost_ret (v := .tuple #[v1, .int .i64 0]) (by simp [results, Try.results8, asAddr, go_sem]) rfl ⟨_, rfl, HPr.out, HBB.out⟩
end Go.Proofs.Ytohgdlhijgjdkaa
