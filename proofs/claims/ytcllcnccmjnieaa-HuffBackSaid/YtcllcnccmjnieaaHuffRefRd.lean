/- Walks over layer 3: the reference's Read. -/
import Derived.Test.YtcllcnccmjnieaaHuffCodesW
import Derived.Test.YtcllcnccmjnieaaHuffRd
namespace Go.Proofs.Ytcllcnccmjnieaa
open Go.RowKit Huff Bit
set_option linter.unusedVariables false
set_option maxRecDepth 100000

theorem digs_snoc (v b k : Nat) (hb : b < 2) : digs (2 * v + b) (k + 1) = digs v k ++ [48 + b] := by
  apply List.ext_getElem?
  intro i
  rcases Nat.lt_trichotomy i k with h | h | h
  · rw [digs_get _ _ _ (by omega), List.getElem?_append_left (by rw [digs_length]; exact h), digs_get _ _ _ h]
    obtain ⟨d, hd⟩ : ∃ d, k - i = d + 1 := ⟨k - i - 1, by omega⟩
    rw [show k + 1 - 1 - i = d + 1 by omega, show k - 1 - i = d by omega, Nat.pow_succ, Nat.mul_comm (2 ^ d) 2, ← Nat.div_div_eq_div_mul, show (2 * v + b) / 2 = v by omega]
  · subst h
    rw [digs_get _ _ _ (by omega), List.getElem?_append_right (by rw [digs_length]; exact Nat.le_refl _), digs_length, Nat.sub_self, show i + 1 - 1 - i = 0 by omega, Nat.pow_zero, Nat.div_one, show (2 * v + b) % 2 = b by omega]
    rfl
  · rw [List.getElem?_eq_none (by rw [digs_length]; omega), List.getElem?_eq_none (by rw [List.length_append, digs_length]; simp; omega)]
theorem digs_inj {V v : Nat} : ∀ {k : Nat}, digs V k = digs v k → V % 2 ^ k = v % 2 ^ k
  | 0, _ => by simp [Nat.mod_one]
  | k + 1, h => by
    have h1 : [48 + V / 2 ^ k % 2] ++ digs V k = [48 + v / 2 ^ k % 2] ++ digs v k := h
    simp only [List.cons_append, List.nil_append, List.cons.injEq] at h1
    have ih := digs_inj h1.2
    have h2 : V / 2 ^ k % 2 = v / 2 ^ k % 2 := by have := h1.1; omega
    rw [Nat.pow_succ, Nat.mod_mul, Nat.mod_mul, ih, h2]
theorem strOf_digs {V m v k : Nat} (h : strOf (digs V m) = strOf (digs v k)) : digs V m = digs v k := by
  have hs : m = k := by
    have := congrArg ByteArray.size h
    rwa [strOf_size, strOf_size, digs_length, digs_length] at this
  subst hs
  apply List.ext_getElem?
  intro i
  by_cases hi : i < m
  · rw [digs_get _ _ _ hi, digs_get _ _ _ hi]
    have h1 := digs_byte V m i hi (by rw [strOf_size, digs_length]; exact hi)
    have h2 := digs_byte v m i hi (by rw [strOf_size, digs_length]; exact hi)
    have h3 : (strOf (digs V m))[i]'(by rw [strOf_size, digs_length]; exact hi) = (strOf (digs v m))[i]'(by rw [strOf_size, digs_length]; exact hi) := by simp only [h]
    rw [h3] at h1
    rw [← h1, ← h2]
  · rw [List.getElem?_eq_none (by rw [digs_length]; omega), List.getElem?_eq_none (by rw [digs_length]; omega)]
theorem text_hit {l : List Nat} (hb : ∀ x ∈ l, x ≤ 15) (hkr : kr l ≤ 32768) {i k u : Nat} (hi : i < l.length) (hk : 0 < k) (hu : u < 2 ^ k) : textOf l i = digs u k ↔ hit l k u = some i := by
  have hlt := word_lt hb hkr hi
  rw [hit_word hk]
  unfold textOf
  constructor
  · intro h
    have hm : (wordOf l i).2 = k := by
      have := congrArg List.length h
      rwa [digs_length, digs_length] at this
    rw [hm] at h hlt
    have := digs_inj h
    rw [Nat.mod_eq_of_lt hlt, Nat.mod_eq_of_lt hu] at this
    exact ⟨hi, by rw [← this, ← hm]⟩
  · rintro ⟨_, h⟩
    rw [h]
theorem text_is {l : List Nat} (hb : ∀ x ∈ l, x ≤ 15) (hkr : kr l ≤ 32768) {i k u : Nat} (hi : i < l.length) (hk : 0 < k) (hu : u < 2 ^ k) (h : hit l k u = some i) : ((strOf (textOf l i)).toList == (strOf (digs u k)).toList) = true := by
  rw [(text_hit hb hkr hi hk hu).2 h]; simp
theorem text_isnt {l : List Nat} (hb : ∀ x ∈ l, x ≤ 15) (hkr : kr l ≤ 32768) {i k u : Nat} (hi : i < l.length) (hk : 0 < k) (hu : u < 2 ^ k) (h : hit l k u ≠ some i) : ((strOf (textOf l i)).toList == (strOf (digs u k)).toList) = false := by
  rw [beq_eq_false_iff_ne, ByteArray.toList_eq, ByteArray.toList_eq]
  intro e
  exact h ((text_hit hb hkr hi hk hu).1 (strOf_digs (Go.WideShapes.bytes_inj e)))

def Rd3 (w : World) (R : Nat × Nat × Nat) (e : Ending) (w' : World) : Prop := e = .returned (.tuple #[.int .i64 (R.1 : Int), .int .i64 (R.2.1 : Int), .int .i64 (R.2.2 : Int)]) ∧ w = w'
set_option maxHeartbeats 8000000 in
theorem refRead_any (gs p N cb : Nat) (ab : Option Addr) (l bs : List Nat) (w : World) (hW : Whole w gs 9 (strs (texts l)).toArray) (hV : Vals w w.heap.size 1 ab N (bools (bitsFrom bs 0 N))) (hl : l.length ≤ 288) (hb : ∀ x ∈ l, x ≤ 15) (hkr : kr l ≤ 32768)
    (hN : N ≤ 1000000) (hp : p ≤ N) (R : Nat × Nat × Nat) (hR : scan l (bitOf bs) N p 15 0 0 = R) :
    Calls Try.prog 19 #[.slice (some ⟨gs, 0, none⟩) l.length l.length, .slice ab N cb, .int .i64 (p : Int)] w (Rd3 w R) := by
  have Hcell : Hid (∀ i (h : i < l.length), w.cell? ⟨gs, i, none⟩ = some (.string (strOf (textOf l i)))) := fun i h => by rw [hW.cell]; simp [strs, texts, h]
  have Hbit : Hid (∀ q, q < N → ∃ b off, ab = some ⟨b, off, none⟩ ∧ w.cell? ⟨b, off + q, none⟩ = some (.bool (bitOf bs q == 1))) := fun q hq => by
    obtain ⟨b, off, e, _, hc⟩ := hV.2 (by simp [bools, bitsFrom_length]; omega)
    refine ⟨b, off, e, ?_⟩
    rw [hc q (by simp [bools, bitsFrom_length]; exact hq)]
    simp [bools, bitsFrom_get bs 0 N q hq]
  have His := Lib.hid fun i k u hi hk hu h => text_is (l := l) (i := i) (k := k) (u := u) hb hkr hi hk hu h
  have Hnt := Lib.hid fun i k u hi hk hu h => text_isnt (l := l) (i := i) (k := k) (u := u) hb hkr hi hk hu h
  have Hbt : Hid (∀ q, bitOf bs q < 2) := bitOf_lt bs
  have Hs0 := Lib.hid hR
  have Hsm : Hid (∀ k u, hit l k u = none ∨ ∃ s, s < l.length ∧ hit l k u = some s) := fun k u => by
    cases h : hit l k u with
    | none => exact .inl rfl
    | some s => exact .inr ⟨s, (hit_some.1 h).1, rfl⟩
  obtain ⟨L, hL⟩ : ∃ L, L = l.length := ⟨_, rfl⟩
  rw [← hL] at hl ⊢
  have HL := Lib.hid hL
  clear hW hV hb hkr hR hL
  go_enter Try.func19, Try.ntmps19
  go_wp2_with fail
  go_loop [2, 9] (fun x y => ∃ (k v q : Nat) (O : ByteArray), k ≤ 15 ∧ q = p + k ∧ x = .int .i64 (q : Int) ∧ y = .string O ∧ Hid (O = strOf (digs v k)) ∧ O.size = k ∧ v < 2 ^ k ∧ q ≤ N ∧ Hid (scan l (bitOf bs) N p (15 - k) k v = R)) (fun x _ => p + 15 - (intOf x).toNat)
  case atStart => exact ⟨0, 0, p, _, by omega, rfl, rfl, rfl, rfl, rfl, by decide, hp, Hs0⟩
  case round =>
    obtain ⟨k, v, q, O, hk, hq, rfl, rfl, HO, hOs, hv, hqN, HS⟩ := hrel
    clear Hs0
    by_cases hlt : k < 15
    · have d1 : decide ((O.size : Int) < 15) = true := decide_eq_true (by omega)
      have d2 : decide (O.size < 15) = true := decide_eq_true (by omega)
      have hsc := HS.out
      obtain ⟨f, hf⟩ : ∃ f, 15 - k = f + 1 := ⟨14 - k, by omega⟩
      rw [hf] at hsc
      by_cases hN2 : N ≤ q
      · have d3 : decide ((N : Int) ≤ (q : Int)) = true := decide_eq_true (by omega)
        have d4 : decide (N ≤ q) = true := decide_eq_true hN2
        rw [scan_short (by omega), ← hq] at hsc
        subst hsc
        clear hq hN2 hf hlt hv hOs
        go_wp2_with fail
        go_ret3
        exact ⟨rfl, rfl⟩
      · have d3 : decide ((N : Int) ≤ (q : Int)) = false := decide_eq_false (by omega)
        have d4 : decide (N ≤ q) = false := decide_eq_false hN2
        obtain ⟨b1, o1, rfl, p0⟩ := Hbit.out q (by omega)
        have hb2 := Hbt.out q
        have hN3 : ¬ N ≤ p + k := by omega
        have hmiss := fun h => (scan_miss (l := l) (bt := bitOf bs) (f := f) (v := v) hN3 h).symm.trans hsc
        have hhit := fun s h => (scan_hit (s := s) (l := l) (bt := bitOf bs) (f := f) (v := v) hN3 h).symm.trans hsc
        rw [← hq] at hmiss hhit
        generalize bitOf bs q = b at *
        have hu : 2 * v + b < 2 ^ (k + 1) := by rw [Nat.pow_succ]; omega
        have hO2 : Hid (O ++ strOf [48 + b] = strOf (digs (2 * v + b) (k + 1))) := by show _ = _; rw [HO.out, strOf_app, digs_snoc v b k hb2]
        have hadd := add_run O (strOf [48 + b]) (by omega) (by rw [strOf_size]; simp)
        have hsz : (O ++ strOf [48 + b]).size = k + 1 := by rw [ByteArray.size_append, strOf_size, hOs]; rfl
        obtain ⟨H, hH⟩ : ∃ H, hit l (k + 1) (2 * v + b) = H := ⟨_, rfl⟩
        have HHs := Hsm.out (k + 1) (2 * v + b)
        have His2 := Lib.hid fun i hi h => His.out i (k + 1) (2 * v + b) hi (by omega) hu h
        have Hnt2 := Lib.hid fun i hi h => Hnt.out i (k + 1) (2 * v + b) hi (by omega) hu h
        rw [← hO2.out] at His2 Hnt2
        rw [hH] at hmiss hhit HHs His2 Hnt2
        have Hmiss := Lib.hid hmiss
        have Hhit := Lib.hid hhit
        have HH := Lib.hid HHs
        have Hu := Lib.hid hu
        obtain ⟨O2, hO3⟩ : ∃ O2, O ++ strOf [48 + b] = O2 := ⟨_, rfl⟩
        rw [hO3] at hadd hsz His2 Hnt2 hO2
        have Hsz := Lib.hid hsz
        have hq1 : q + 1 ≤ N := by omega
        have hq0 : (0 : Int) ≤ (q : Int) := by omega
        have hqn : (q : Int) < (N : Int) := by omega
        have Hq := Lib.hid hq
        have Hf := Lib.hid hf
        have hb01 : b = 0 ∨ b = 1 := by omega
        clear hsc hmiss hhit hu hH HHs hO3 hsz hq hf hN2 hN3 hv hOs HO hb2
        rcases hb01 with rfl | rfl
        · rw [show strOf [48 + 0] = ⟨#[48]⟩ from rfl] at hadd
          rw [show ((0 : Nat) == 1) = false from rfl] at p0
          go_wp2_with fail
          go_loop [10] (fun y => ∃ i : Nat, i ≤ L ∧ y = .int .i64 (i : Int) ∧ Hid (∀ s, H = some s → i ≤ s)) (fun y => L - (intOf y).toNat)
          case atStart => exact ⟨0, Nat.zero_le _, rfl, Lib.hid (fun s _ => Nat.zero_le _)⟩
          case round =>
            obtain ⟨i, hi, rfl, HI⟩ := hrel
            by_cases hiL : i < L
            · have hil : i < l.length := by have := HL.out; omega
              have c0 := Hcell.out i hil
              have i0 : (0 : Int) ≤ (i : Int) := by omega
              have i1 : (i : Int) < (L : Int) := by omega
              by_cases hHi : H = some i
              · have e1 := His2.out i hil hHi
                have e9 := Hhit.out i hHi
                subst e9
                generalize strOf (textOf l i) = T at *
                clear hHi Hhit Hmiss HH HI
                go_wp2_with fail
                go_ret3
                exact ⟨by go_num, rfl⟩
              · have e1 := Hnt2.out i hil hHi
                have HI2 : Hid (∀ s, H = some s → i + 1 ≤ s) := fun s hs => by
                  have h1 := HI.out s hs
                  rcases Nat.lt_or_eq_of_le h1 with h2 | h2
                  · exact h2
                  · subst h2; exact absurd hs hHi
                generalize strOf (textOf l i) = T at *
                clear hHi HI
                go_wp2_with fail
                go_round
                case rel => exact ⟨i + 1, by omega, by go_num, HI2⟩
                case measure => simp [intOf]; omega
            · obtain rfl : L = i := by omega
              have hHn : H = none := by
                rcases HH.out with h | ⟨s, hs, h⟩
                · exact h
                · have := HI.out s h; have := HL.out; omega
              have HS2 : Hid (scan l (bitOf bs) N p (15 - (k + 1)) (k + 1) (2 * v + 0) = R) := by
                have := Hmiss.out hHn
                show _ = _
                rw [show 15 - (k + 1) = f by have := Hf.out; omega]
                exact this
              clear hHn hiL HI Hhit Hmiss
              go_wp2_with fail
              go_round
              case rel => exact ⟨k + 1, 2 * v + 0, q + 1, _, by omega, by have := Hq.out; omega, by go_num, rfl, hO2, Hsz.out, Hu.out, hq1, HS2⟩
              case measure => have := Hq.out; simp [intOf]; omega
        · rw [show strOf [48 + 1] = ⟨#[49]⟩ from rfl] at hadd
          rw [show ((1 : Nat) == 1) = true from rfl] at p0
          go_wp2_with fail
          go_loop [10] (fun y => ∃ i : Nat, i ≤ L ∧ y = .int .i64 (i : Int) ∧ Hid (∀ s, H = some s → i ≤ s)) (fun y => L - (intOf y).toNat)
          case atStart => exact ⟨0, Nat.zero_le _, rfl, Lib.hid (fun s _ => Nat.zero_le _)⟩
          case round =>
            obtain ⟨i, hi, rfl, HI⟩ := hrel
            by_cases hiL : i < L
            · have hil : i < l.length := by have := HL.out; omega
              have c0 := Hcell.out i hil
              have i0 : (0 : Int) ≤ (i : Int) := by omega
              have i1 : (i : Int) < (L : Int) := by omega
              by_cases hHi : H = some i
              · have e1 := His2.out i hil hHi
                have e9 := Hhit.out i hHi
                subst e9
                generalize strOf (textOf l i) = T at *
                clear hHi Hhit Hmiss HH HI
                go_wp2_with fail
                go_ret3
                exact ⟨by go_num, rfl⟩
              · have e1 := Hnt2.out i hil hHi
                have HI2 : Hid (∀ s, H = some s → i + 1 ≤ s) := fun s hs => by
                  have h1 := HI.out s hs
                  rcases Nat.lt_or_eq_of_le h1 with h2 | h2
                  · exact h2
                  · subst h2; exact absurd hs hHi
                generalize strOf (textOf l i) = T at *
                clear hHi HI
                go_wp2_with fail
                go_round
                case rel => exact ⟨i + 1, by omega, by go_num, HI2⟩
                case measure => simp [intOf]; omega
            · obtain rfl : L = i := by omega
              have hHn : H = none := by
                rcases HH.out with h | ⟨s, hs, h⟩
                · exact h
                · have := HI.out s h; have := HL.out; omega
              have HS2 : Hid (scan l (bitOf bs) N p (15 - (k + 1)) (k + 1) (2 * v + 1) = R) := by
                have := Hmiss.out hHn
                show _ = _
                rw [show 15 - (k + 1) = f by have := Hf.out; omega]
                exact this
              clear hHn hiL HI Hhit Hmiss
              go_wp2_with fail
              go_round
              case rel => exact ⟨k + 1, 2 * v + 1, q + 1, _, by omega, by have := Hq.out; omega, by go_num, rfl, hO2, Hsz.out, Hu.out, hq1, HS2⟩
              case measure => have := Hq.out; simp [intOf]; omega
    · have hsc := HS.out
      rw [show 15 - k = 0 by omega] at hsc
      have e9 : (0, p + k, 3) = R := hsc
      rw [← hq] at e9
      subst e9
      have d1 : decide ((O.size : Int) < 15) = false := decide_eq_false (by omega)
      have d2 : decide (O.size < 15) = false := decide_eq_false (by omega)
      clear hsc hlt hq hOs hv
      go_wp2_with fail
      go_ret3
      exact ⟨rfl, rfl⟩
end Go.Proofs.Ytcllcnccmjnieaa
