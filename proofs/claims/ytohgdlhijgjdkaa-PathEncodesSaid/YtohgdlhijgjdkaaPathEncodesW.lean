/- Layer 9: PathEncodes. -/
import Derived.Test.YtohgdlhijgjdkaaPathDecodesW
import Derived.Test.YtohgdlhijgjdkaaPathForth
import Derived.Test.YtohgdlhijgjdkaaPathEr1
import Derived.Test.YtohgdlhijgjdkaaPathEr2
namespace Go.Proofs.Ytohgdlhijgjdkaa
open Go.RowKit
set_option linter.unusedVariables false
set_option maxRecDepth 100000

/-- What R.Much says no to is small. -/
theorem much_small : ∀ (ll : List (List P2)) (tot i : Nat) (n : Int), 0 ≤ n ∧ n ≤ 300 → tot = i + ll.length → (∀ l ∈ ll, l.length ≤ 140737488351232) → muchE tot i n ll = false → tot ≤ 40 ∧ (i ≤ 40 → (n + ((ll.map List.length).sum : Int) + ll.length ≤ 300 ∨ 40 < tot))
  | [], tot, i, n, hn, ht, _, h => by
    have h1 := of_decide_eq_false h
    exact ⟨by omega, fun _ => .inl (by simp; omega)⟩
  | l :: r, tot, i, n, hn, ht, hl, h => by
    have hll := hl l (List.mem_cons_self ..)
    simp only [muchE] at h
    split at h
    · next hi =>
      have e1 : IntKind.i64.wrap (n + 1) = n + 1 := by rw [IntKind.wrap_i64]; omega
      have e2 : IntKind.i64.wrap (n + 1 + (l.length : Int)) = n + 1 + (l.length : Int) := by rw [IntKind.wrap_i64]; omega
      rw [e1, e2] at h
      split at h
      · cases h
      · next h3 =>
        obtain ⟨h4, h5⟩ := much_small r tot (i + 1) (n + 1 + (l.length : Int)) ⟨by omega, by omega⟩ (by rw [ht, List.length_cons]; omega) (fun x hx => hl x (List.mem_cons_of_mem _ hx)) h
        refine ⟨h4, fun hi40 => ?_⟩
        rcases h5 (by omega) with h6 | h6
        · left
          simp only [List.map_cons, List.sum_cons, List.length_cons]
          push_cast
          omega
        · exact .inr h6
    · next hi =>
      have h1 := of_decide_eq_false h
      exact ⟨by omega, fun _ => .inr (by rw [List.length_cons] at ht; omega)⟩
theorem runE_len : ∀ (l : List P2) (q : P2), (runE q l).length = 2 * l.length
  | [], _ => rfl
  | p :: r, q => by simp [runE, runE_len r p]; omega
theorem encN_len (kind : Nat) (q : P2) (l : List P2) : (encN kind q l).length ≤ 2 * l.length + 3 := by
  unfold encN
  split
  · simp only [List.length_cons, runE_len]; omega
  · cases l with
    | nil => by_cases h3 : kind = 3 <;> simp [runE_len, runE, h3]
    | cons p r => simp [runE_len]; split <;> simp <;> omega
theorem encP_len (kind : Nat) : ∀ (ll : List (List P2)) (q : P2), (encP kind q ll).length ≤ 2 * (ll.map List.length).sum + 3 * ll.length
  | [], _ => Nat.zero_le _
  | l :: r, q => by
    have h1 := encN_len kind q l
    have h2 := encP_len kind r (endP q l)
    simp only [encP, List.length_append, List.map_cons, List.sum_cons, List.length_cons]
    omega
theorem runE_lt : ∀ (l : List P2) (q : P2), inP q → (∀ p ∈ l, inP p) → ∀ x ∈ runE q l, x < 4294967296
  | [], _, _, _ => by simp [runE]
  | p :: r, q, hq, h => by
    have hp := h p (List.mem_cons_self ..)
    have e1 := zig_small (d := p.1 - q.1) (by have h1 := hp.1; have h2 := hq.1; omega)
    have e2 := zig_small (d := p.2 - q.2) (by have h1 := hp.2; have h2 := hq.2; omega)
    intro x hx
    simp only [runE, List.mem_cons] at hx
    rcases hx with rfl | rfl | hx
    · exact e1
    · exact e2
    · exact runE_lt r p hp (fun y hy => h y (List.mem_cons_of_mem _ hy)) x hx
theorem encN_lt (kind : Nat) (q : P2) (l : List P2) (hq : inP q) (h : ∀ p ∈ l, inP p) (hl : l.length ≤ 1000) : ∀ x ∈ encN kind q l, x < 4294967296 := by
  intro x hx
  unfold encN at hx
  split at hx
  · rcases List.mem_cons.1 hx with rfl | hx
    · omega
    · exact runE_lt l q hq h x hx
  · have ht : ∀ p ∈ l.take 1, inP p := fun p hp => h p (List.mem_of_mem_take hp)
    rcases List.mem_append.1 hx with hx | hx
    · rcases List.mem_cons.1 hx with rfl | hx
      · omega
      · exact runE_lt _ q hq ht x hx
    · rcases List.mem_append.1 hx with hx | hx
      · rcases List.mem_cons.1 hx with rfl | hx
        · omega
        · exact runE_lt _ _ (endP_in hq ht) (fun p hp => h p (List.mem_of_mem_drop hp)) x hx
      · split at hx
        · simp at hx; omega
        · simp at hx
theorem encP_lt (kind : Nat) : ∀ (ll : List (List P2)) (q : P2), inP q → (∀ l ∈ ll, l.length ≤ 1000 ∧ ∀ p ∈ l, inP p) → ∀ x ∈ encP kind q ll, x < 4294967296
  | [], _, _, _ => by simp [encP]
  | l :: r, q, hq, h => by
    obtain ⟨h1, h2⟩ := h l (List.mem_cons_self ..)
    intro x hx
    simp only [encP, List.mem_append] at hx
    rcases hx with hx | hx
    · exact encN_lt kind q l hq h2 h1 x hx
    · exact encP_lt kind r (endP q l) (endP_in hq h2) (fun y hy => h y (List.mem_cons_of_mem _ hy)) x hx
theorem le_sum : ∀ {ll : List (List P2)} {l : List P2}, l ∈ ll → l.length ≤ (ll.map List.length).sum
  | m :: r, l, h => by
    simp only [List.map_cons, List.sum_cons]
    rcases List.mem_cons.1 h with rfl | h
    · omega
    · have := le_sum h; omega
set_option maxHeartbeats 8000000 in
theorem pathEncodes_walk (K : Int) (u : Value) (ll : List (List P2)) (w : World) (hKb : -9223372036854775808 ≤ K ∧ K < 9223372036854775808) (hu : RdPP w w.heap.size u ll) (hin : ∀ l ∈ ll, l.length ≤ 140737488351232) :
    Calls Try.prog 4 #[.int .i64 K, u] w fun e w' => e = .returned (.bool true) ∧ Below w.heap.size w w' := by
  have HLV := Lib.hid fun W => live9_any W
  have HC := Lib.hid code9_any
  have HM := Lib.hid (much_any u ll w hu _ rfl)
  obtain ⟨R, hR⟩ : ∃ R, R = muchE ll.length 0 0 ll := ⟨_, rfl⟩
  rw [← hR] at HM
  cases R with
  | true =>
    clear hR hu hin
    go_enter Try.func4, Try.ntmps4
    go_wp2_with fail
    refine HM.out.mono ?_
    rintro e W1 ⟨rfl, hb1⟩
    have HB1 := Lib.hid hb1
    clear hb1
    go_wp2_with fail
    refine (HLV.out _).mono ?_
    rintro e W9 ⟨rfl, hb9⟩
    have HF := Lib.hid (HB1.out.trans (hb9.mono HB1.out.size))
    clear hb9
    go_wp2_with fail
    go_ret
    exact ⟨rfl, HF.out⟩
  | false =>
    obtain ⟨h40, hs⟩ := much_small ll ll.length 0 0 ⟨by omega, by omega⟩ (by omega) hin hR.symm
    have hsum : (ll.map List.length).sum ≤ 300 := by rcases hs (by omega) with h | h <;> omega
    have hl300 : ∀ l ∈ ll, l.length ≤ 300 := fun l hl => Nat.le_trans (le_sum hl) hsum
    have hT : (encP K.toNat (0, 0) ll).length ≤ 1000 := by have := encP_len K.toNat ll (0, 0); omega
    have HRt := Lib.hid fun W (hb : Below w.heap.size w W) => right_any K u ll W ((hu.below hb).more hb.size) (by omega) (fun l hl => by have := hl300 l hl; omega) hKb
    have HRR := Lib.hid fun W (hb : Below w.heap.size w W) => rright_any K u ll W ((hu.below hb).more hb.size) (by omega) (fun l hl => by have := hl300 l hl; omega) hKb
    by_cases hr : rightP K ll = 0
    · obtain ⟨hk13, hne, -, hall⟩ := right_facts hr
      have hKn : ((K.toNat : Nat) : Int) = K := by omega
      have hdec : decR K (encP K.toNat (0, 0) ll) = (ll, 0) := by
        unfold decR
        rw [if_neg (by omega), dec_enc hr (fun l hl => by have := hl300 l hl; omega)]
        rfl
      have hall2 : ∀ l ∈ ll, K.toNat ≤ l.length ∧ 1 ≤ l.length ∧ l.length ≤ 1000 ∧ ∀ p ∈ l, inP p := fun l hl => by
        have h1 := hall l hl
        have h2 := hl300 l hl
        exact ⟨by omega, by omega, by omega, h1.2⟩
      have hlt := encP_lt K.toNat ll (0, 0) ⟨by simp, by simp⟩ (fun l hl => (hall2 l hl).2.2)
      have HEn := Lib.hid fun W (hb : Below w.heap.size w W) => encode_any K K.toNat hKn.symm u ll W ((hu.below hb).more hb.size) (by omega) (fun l hl => (hall2 l hl).2) hr hk13.2 (by omega)
      have HREn := Lib.hid fun W (hb : Below w.heap.size w W) => rencode_any K K.toNat hKn.symm (by omega) (by omega) u ll W ((hu.below hb).more hb.size) (by omega) (fun l hl => ⟨(hall2 l hl).1, (hall2 l hl).2.2⟩) (by omega)
      have HU := Lib.hid fun W (hb : Below w.heap.size w W) => (hu.below hb).more hb.size
      rw [hr] at HRt HRR
      obtain ⟨T, hTe⟩ : ∃ T, T = encP K.toNat (0, 0) ll := ⟨_, rfl⟩
      simp only [← hTe] at HEn HREn hdec hlt hT
      have HD := Lib.hid fun (a : Option Addr) (c : Nat) W (hN : Nums .u32 W W.heap.size a T) (hc : T.length ≤ c) (hm : c ≤ maxLen) => (by
        have := decode_any K a c T W hN hc hm hT hlt
        rw [hdec] at this
        exact this : Calls Try.prog 7 #[.int .i64 K, .slice a T.length c] W (DecPost W (ll, 0)))
      have HSI := Lib.hid fun (a b : Option Addr) (c d : Nat) W (h1 : Nums .u32 W W.heap.size a T) (h2 : Nums .u32 W W.heap.size b T) => sameInts_eq a b c d T W h1 h2 (by omega)
      clear hR hu hin h40 hs hsum hl300 hT hTe hr hk13 hne hall hKn hdec hall2 hlt
      go_enter Try.func4, Try.ntmps4
      go_wp2_with fail
      refine HM.out.mono ?_
      rintro e W1 ⟨rfl, hb1⟩
      have HB1 := Lib.hid hb1
      clear hb1
      go_wp2_with fail
      refine (HEn.out _ HB1.out).mono ?_
      rintro e W2 ⟨v1, rfl, hO, hb2⟩
      obtain ⟨a1, c1, rfl, hc1, hc2, _, hN1⟩ := hO.nums
      have HB2 := Lib.hid (HB1.out.trans (hb2.mono HB1.out.size))
      have HN := Lib.hid hN1
      have Hc1 := Lib.hid (show T.length ≤ c1 ∧ c1 ≤ maxLen from ⟨hc1, hc2⟩)
      clear hb2 hO hN1 hc1 hc2
      go_wp2_with fail
      refine (HRt.out _ HB2.out).mono ?_
      rintro e W3 ⟨rfl, hb3⟩
      have HN := Lib.hid ((HN.out.below hb3).more hb3.size)
      have HB3 := Lib.hid (HB2.out.trans (hb3.mono HB2.out.size))
      clear hb3
      go_wp2_with (go_at_call 10; refine (HC.out _ _).mono ?_; rintro e Z9 ⟨rfl, rfl⟩)
      refine (HRR.out _ HB3.out).mono ?_
      rintro e W4 ⟨rfl, hb4⟩
      have HN := Lib.hid ((HN.out.below hb4).more hb4.size)
      have HB4 := Lib.hid (HB3.out.trans (hb4.mono HB3.out.size))
      clear hb4
      go_wp2_with (go_at_call 10; refine (HC.out _ _).mono ?_; rintro e Z9 ⟨rfl, rfl⟩)
      refine (HRR.out _ HB4.out).mono ?_
      rintro e W5 ⟨rfl, hb5⟩
      have HN := Lib.hid ((HN.out.below hb5).more hb5.size)
      have HB5 := Lib.hid (HB4.out.trans (hb5.mono HB4.out.size))
      clear hb5
      go_wp2_with fail
      refine (HRR.out _ HB5.out).mono ?_
      rintro e W6 ⟨rfl, hb6⟩
      have HN := Lib.hid ((HN.out.below hb6).more hb6.size)
      have HB6 := Lib.hid (HB5.out.trans (hb6.mono HB5.out.size))
      have HD6 := Lib.hid (HD.out a1 c1 W6 HN.out Hc1.out.1 Hc1.out.2)
      clear hb6
      go_wp2_with fail
      refine HD6.out.mono ?_
      rintro e W7 ⟨v2, rfl, hr2, hb7⟩
      have HR2 := Lib.hid hr2
      have HN := Lib.hid ((HN.out.below hb7).more hb7.size)
      have HB7 := Lib.hid (HB6.out.trans (hb7.mono HB6.out.size))
      clear hb7 hr2 HD6
      go_wp2_with fail
      refine (HREn.out _ HB7.out).mono ?_
      rintro e W8 ⟨v3, rfl, hO3, hb8⟩
      obtain ⟨a3, c3, rfl, _, _, _, hN3⟩ := hO3.nums
      have HN := Lib.hid ((HN.out.below hb8).more hb8.size)
      have HR2 := Lib.hid ((HR2.out.below hb8).more hb8.size)
      have HB8 := Lib.hid (HB7.out.trans (hb8.mono HB7.out.size))
      have HS8 := Lib.hid (HSI.out a1 a3 c1 c3 W8 HN.out hN3)
      clear hb8 hO3 hN3
      go_wp2_with fail
      refine HS8.out.mono ?_
      rintro e W9 ⟨rfl, hb9⟩
      have HR2 := Lib.hid ((HR2.out.below hb9).more hb9.size)
      have HB9 := Lib.hid (HB8.out.trans (hb9.mono HB8.out.size))
      have hs9 := refSame_any u v2 ll ll W9 (HU.out _ HB9.out) HR2.out
      rw [decide_eq_true (rfl : ll = ll)] at hs9
      have HS9 := Lib.hid hs9
      clear hb9 hs9 HS8
      go_wp2_with (go_at_call 10; refine (HC.out _ _).mono ?_; rintro e Z9 ⟨rfl, rfl⟩)
      refine HS9.out.mono ?_
      rintro e W10 ⟨rfl, hb10⟩
      have HB10 := Lib.hid (HB9.out.trans (hb10.mono HB9.out.size))
      clear hb10
      go_wp2_with fail
      refine (HLV.out _).mono ?_
      rintro e W11 ⟨rfl, hb11⟩
      have HF := Lib.hid (HB10.out.trans (hb11.mono HB10.out.size))
      clear hb11
      go_wp2_with fail
      go_ret
      exact ⟨rfl, HF.out⟩
    · have HE := Lib.hid (fun W (hb : Below w.heap.size w W) => encode_err K u ll W ((hu.below hb).more hb.size) (by omega) (fun l hl => by have := hl300 l hl; omega) hKb hr)
      obtain ⟨r, hre⟩ : ∃ r, r = rightP K ll := ⟨_, rfl⟩
      rw [← hre] at HE HRt HRR hr
      have dr : ((r : Int) != 0) = true := by simp; omega
      clear hR hu hin h40 hs hsum hl300 hT hre
      go_enter Try.func4, Try.ntmps4
      go_wp2_with fail
      refine HM.out.mono ?_
      rintro e W1 ⟨rfl, hb1⟩
      have HB1 := Lib.hid hb1
      clear hb1
      go_wp2_with fail
      refine (HE.out _ HB1.out).mono ?_
      rintro e W2 ⟨rfl, hb2⟩
      have HB2 := Lib.hid (HB1.out.trans (hb2.mono HB1.out.size))
      clear hb2
      go_wp2_with fail
      refine (HRt.out _ HB2.out).mono ?_
      rintro e W3 ⟨rfl, hb3⟩
      have HB3 := Lib.hid (HB2.out.trans (hb3.mono HB2.out.size))
      clear hb3
      go_wp2_with (go_at_call 10; refine (HC.out _ _).mono ?_; rintro e Z9 ⟨rfl, rfl⟩)
      refine (HRR.out _ HB3.out).mono ?_
      rintro e W4 ⟨rfl, hb4⟩
      have HB4 := Lib.hid (HB3.out.trans (hb4.mono HB3.out.size))
      clear hb4
      go_wp2_with (go_at_call 10; refine (HC.out _ _).mono ?_; rintro e Z9 ⟨rfl, rfl⟩)
      refine (HRR.out _ HB4.out).mono ?_
      rintro e W5 ⟨rfl, hb5⟩
      have HB5 := Lib.hid (HB4.out.trans (hb5.mono HB4.out.size))
      clear hb5
      go_wp2_with fail
      refine (HRR.out _ HB5.out).mono ?_
      rintro e W6 ⟨rfl, hb6⟩
      have HB6 := Lib.hid (HB5.out.trans (hb6.mono HB5.out.size))
      clear hb6
      go_wp2_with fail
      refine (HLV.out _).mono ?_
      rintro e W9 ⟨rfl, hb9⟩
      have HF := Lib.hid (HB6.out.trans (hb9.mono HB6.out.size))
      clear hb9
      go_wp2_with fail
      go_ret
      exact ⟨rfl, HF.out⟩
end Go.Proofs.Ytohgdlhijgjdkaa
