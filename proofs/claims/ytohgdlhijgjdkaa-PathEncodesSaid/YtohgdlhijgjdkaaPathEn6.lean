/- Layer 9: Encode. -/
import Derived.Test.YtohgdlhijgjdkaaPathEn5
namespace Go.Proofs.Ytohgdlhijgjdkaa
open Go.RowKit
set_option linter.unusedVariables false
set_option maxRecDepth 100000

def encP (kind : Nat) : P2 → List (List P2) → List Nat
  | _, [] => []
  | q, l :: r => encN kind q l ++ encP kind (endP q l) r
theorem encP_at {kind : Nat} {ll : List (List P2)} {k : Nat} (h : k < ll.length) (q : P2) : encP kind q (ll.drop k) = encN kind q ll[k] ++ encP kind (endP q ll[k]) (ll.drop (k + 1)) := by
  rw [List.drop_eq_getElem_cons h]; rfl
theorem endP_in {q : P2} : ∀ {l : List P2}, inP q → (∀ p ∈ l, inP p) → inP (endP q l)
  | [], hq, _ => hq
  | p :: r, _, h => endP_in (q := p) (l := r) (h p (List.mem_cons_self ..)) (fun x hx => h x (List.mem_cons_of_mem _ hx))
theorem encode_err (K : Int) (u : Value) (ll : List (List P2)) (w : World) (hu : RdPP w w.heap.size u ll) (hlen : ll.length ≤ 1000000) (hin : ∀ l ∈ ll, l.length ≤ 1000000) (hKb : -9223372036854775808 ≤ K ∧ K < 9223372036854775808) (hr : rightP K ll ≠ 0) :
    Calls Try.prog 11 #[.int .i64 K, u] w fun e w' => e = .returned (.tuple #[.slice none 0 0, .int .i64 (rightP K ll : Int)]) ∧ Below w.heap.size w w' := by
  have Hr := Lib.hid (right_any K u ll w hu hlen hin hKb)
  obtain ⟨a, c, rfl, _, _, _⟩ := hu.at
  obtain ⟨R, hR⟩ : ∃ R, R = rightP K ll := ⟨_, rfl⟩
  rw [← hR] at Hr hr ⊢
  obtain ⟨L, hL⟩ : ∃ z, z = ll.length := ⟨_, rfl⟩
  rw [← hL] at Hr ⊢
  have dr : ((R : Int) != 0) = true := by simp; omega
  clear hu hR hL hlen hin
  go_enter Try.func11, Try.ntmps11
  go_wp2_with fail
  refine Hr.out.mono ?_
  rintro e X ⟨rfl, hX⟩
  have HX := Lib.hid hX
  clear hX
  go_wp2_with fail
  exact bodyPost_ret (v := .tuple #[.slice none 0 0, .int .i64 (R : Int)]) (by simp [results, Try.results11, asAddr, go_sem]) rfl ⟨rfl, HX.out⟩
set_option maxHeartbeats 8000000 in
theorem encode_any (K : Int) (kind : Nat) (hK : K = (kind : Int)) (u : Value) (ll : List (List P2)) (w : World) (hu : RdPP w w.heap.size u ll) (hlen : ll.length ≤ 1000) (hin : ∀ l ∈ ll, 1 ≤ l.length ∧ l.length ≤ 1000 ∧ ∀ p ∈ l, inP p) (hr : rightP K ll = 0) (hk3 : K ≤ 3) (hT : (encP kind (0, 0) ll).length ≤ 5000) :
    Calls Try.prog 11 #[.int .i64 K, u] w fun e w' => ∃ v, e = .returned (.tuple #[v, .int .i64 0]) ∧ Own32 w' w.heap.size v (encP kind (0, 0) ll) ∧ Below w.heap.size w w' := by
  have Hr := Lib.hid (right_any K u ll w hu (by omega) (fun l hl => by have := (hin l hl).2.1; omega) (by omega))
  rw [hr] at Hr
  obtain ⟨a, c, rfl, _, _, hP⟩ := hu.at
  have HP := Lib.hid hP
  have HIn := Lib.hid hin
  obtain ⟨T, hTe⟩ : ∃ T, T = encP kind (0, 0) ll := ⟨_, rfl⟩
  rw [← hTe] at hT ⊢
  have HTe := Lib.hid hTe
  have HTl := Lib.hid hT
  obtain ⟨L, hL⟩ : ∃ z, z = ll.length := ⟨_, rfl⟩
  have HL := Lib.hid hL
  rw [← hL] at Hr hlen ⊢
  have HKk := Lib.hid hK
  clear hu hP hin hTe hT hL hr hK hk3
  go_enter Try.func11, Try.ntmps11
  go_wp2_with fail
  refine Hr.out.mono ?_
  rintro e X ⟨rfl, hX⟩
  have HX := Lib.hid hX
  clear hX Hr
  go_upto_region 5 with (fail)
  obtain ⟨g, hg⟩ : ∃ g, g = X.heap.size := ⟨_, rfl⟩
  obtain ⟨X2, hX2⟩ : ∃ Y, Y = X.alloc (.cells #[.slice none 0 0, .int .i64 0, .int .i64 0] 53) := ⟨_, rfl⟩
  have HW : Hid (Wp X2 w.heap.size g (.slice none 0 0) [] 0 0) := by rw [hX2, hg]; exact ⟨Whole.new X _ _, Own32.nil_ _ _, by simp [Value.ownBlock]⟩
  have HB : Hid (Below w.heap.size w X2) := by rw [hX2]; exact below_then HX.out ((Below.refl _ _).alloc (Nat.le_refl _) _) HX.out.size
  have Hg : Hid (w.heap.size ≤ g) := by show _ ≤ _; rw [hg]; exact HX.out.size
  rw [← hX2, ← hg]
  clear hX2 hg
  go_wp2_with fail
  go_loopw [20] (fun i W => ∃ (k : Nat) (mk : List Nat) (qk : P2) (v1 : Value), k ≤ L ∧ i = .int .i64 (k : Int) ∧ Hid (Wp W w.heap.size g v1 mk qk.1 qk.2) ∧ Hid (Below w.heap.size w W) ∧ Hid (mk ++ encP kind qk (ll.drop k) = T) ∧ Hid (inP qk)) (fun i _ => L - (intOf i).toNat)
  case atStart => exact ⟨0, [], (0, 0), _, Nat.zero_le _, rfl, HW, HB, HTe.out.symm, ⟨by simp, by simp⟩⟩
  case round =>
    obtain ⟨k, mk, qk, v1, hk, rfl, HWp, HBw, HTot, Hqk⟩ := hrel
    clear HW HB
    by_cases hlt : k < L
    · have hkl : k < ll.length := by have := HL.out; omega
      have Hlt : Hid (k + 1 ≤ L) := hlt
      have hkb : k ≤ 1000 := by omega
      obtain ⟨b1, o1, ue, rfl, hb1, ce, hRd⟩ := (HP.out.below HBw.out) k hkl
      obtain ⟨ae, cx, rfl, hce, hcm, hPt⟩ := hRd
      obtain ⟨q1, q2, q3⟩ := HIn.out _ (List.getElem_mem hkl)
      have ht := HTot.out
      rw [encP_at hkl] at ht
      have hmk : mk.length ≤ 5000 := by have h1 := HTl.out; rw [← ht] at h1; simp at h1; omega
      have HQ := Lib.hid (wpath_any w.heap.size g K kind HKk.out v1 mk qk (ll[k]'hkl) _ ae cx HWp.out hPt hce hcm HBw.out.size Hg.out q2 q1 hmk Hqk.out q3)
      have hin2 := endP_in Hqk.out q3
      generalize ll[k]'hkl = l0 at *
      obtain ⟨m, hm⟩ : ∃ z, z = l0.length := ⟨_, rfl⟩
      rw [← hm] at HQ ce
      have Ht := Lib.hid ht
      have Hin2 := Lib.hid hin2
      have hk0 : (0 : Int) ≤ (k : Int) := by omega
      have hk1 : (k : Int) < (L : Int) := by omega
      clear ht hin2 hmk hPt q1 q2 q3 hm hce hkl
      go_wp2_with fail
      refine HQ.out.mono ?_
      rintro e W2 ⟨rfl, v2, hW2, hb2⟩
      have HW2 := Lib.hid hW2
      have HB2 := Lib.hid (HBw.out.trans hb2)
      have Ht2 : Hid ((mk ++ encN kind qk l0) ++ encP kind (endP qk l0) (ll.drop (k + 1)) = T) := by show _ = _; rw [← Ht.out]; simp
      clear hW2 hb2 ce HQ
      go_wp2_with fail
      go_roundw
      case rel => exact ⟨k + 1, mk ++ encN kind qk l0, endP qk l0, v2, Hlt.out, by go_num, HW2, HB2, Ht2, Hin2⟩
      case measure => have := Hlt.out; simp [intOf]; omega
    · have hkL : k = L := by omega
      have ht := HTot.out
      rw [List.drop_eq_nil_of_le (by have := HL.out; omega)] at ht
      have hmT : mk = T := by simpa [encP] using ht
      subst hkL hmT
      have c0 := HWp.out.1.cell 0
      simp only [List.getElem?_toArray, List.getElem?_cons_zero, List.getElem?_cons_succ] at c0
      clear ht
      go_wp2_with fail
      exact bodyPost_ret (v := .tuple #[v1, .int .i64 0]) (by simp [results, Try.results11, asAddr, go_sem]) rfl ⟨v1, rfl, HWp.out.2.1, HBw.out⟩
end Go.Proofs.Ytohgdlhijgjdkaa
