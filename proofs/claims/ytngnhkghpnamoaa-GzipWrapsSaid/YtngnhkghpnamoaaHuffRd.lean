/- HuffRd -/
import Derived.Test.YtngnhkghpnamoaaHuff4
import Derived.Test.YtngnhkghpnamoaaGc19
namespace Go.Proofs.Ytngnhkghpnamoaa
open Go.RowKit Huff Bit
set_option linter.unusedVariables false
set_option maxRecDepth 100000

def optV : Option Nat → Value
  | some s => .tuple #[.int .i64 (s : Int), .bool true]
  | none => .tuple #[.int .i64 0, .bool false]
def FindPost (w : World) (R : Option Nat) (e : Ending) (w' : World) : Prop := e = .returned (optV R) ∧ Below w.heap.size w w'
set_option maxHeartbeats 4000000 in
theorem find_any (F v cc : Nat) (a : Option Addr) (sy : List Nat) (w : World) (hN : Nums .i64 w w.heap.size a sy) (hF : F < 100000000) (hv : v < 100000000) (hs : sy.length ≤ 1000) (R : Option Nat) (hR : (if F ≤ v then sy[v - F]? else none) = R) :
    Calls Try.prog 102 #[.agg #[.int .u32 (F : Int), .slice a sy.length cc], .int .u32 (v : Int)] w (FindPost w R) := by
  obtain ⟨M, hM⟩ : ∃ M, M = sy.length := ⟨_, rfl⟩
  have HN := Lib.hid hN
  rw [← hM] at hs ⊢
  have HM := Lib.hid hM
  clear hN hM
  by_cases h1 : v < F
  · rw [if_neg (by omega)] at hR
    subst hR
    have d1 : decide ((v : Int) < (F : Int)) = true := decide_eq_true (by omega)
    have d2 : decide (v < F) = true := decide_eq_true h1
    clear h1
    go_enter Try.func102, Try.ntmps102
    go_wp2_with fail
    go_ret2
    exact ⟨rfl, (Below.refl _ _).alloc (Nat.le_refl _) _⟩
  · rw [if_pos (by omega)] at hR
    have d1 : decide ((v : Int) < (F : Int)) = false := decide_eq_false (by omega)
    have d2 : decide (v < F) = false := decide_eq_false h1
    obtain ⟨q, hq⟩ : ∃ q, v - F = q := ⟨_, rfl⟩
    have w1 : IntKind.u32.wrap ((v : Int) - (F : Int)) = (q : Int) := by rw [IntWalk.u32_in _ ⟨by omega, by omega⟩]; omega
    have w1' : (v : Int) - (F : Int) = (q : Int) := by omega
    have w2 : IntKind.u32.wrap (M : Int) = (M : Int) := IntWalk.u32_in _ ⟨by omega, by omega⟩
    rw [hq] at hR
    have hql : q < 100000000 := by omega
    clear hq h1
    by_cases h2 : M ≤ q
    · have e : sy[q]? = none := List.getElem?_eq_none (by have := HM.out; omega)
      rw [e] at hR
      subst hR
      have d3 : decide ((M : Int) ≤ (q : Int)) = true := decide_eq_true (by omega)
      have d4 : decide (M ≤ q) = true := decide_eq_true h2
      clear h2 e
      go_enter Try.func102, Try.ntmps102
      go_wp2_with fail
      go_ret2
      exact ⟨rfl, (Below.refl _ _).alloc (Nat.le_refl _) _⟩
    · have hqs : q < sy.length := by have := HM.out; omega
      obtain ⟨b, off, rfl, hb, hc⟩ := HN.out (by omega)
      have p0 := hc q hqs
      have hge : sy.getD q 0 = sy[q] := by simp [hqs]
      rw [hge] at p0
      rw [List.getElem?_eq_getElem hqs] at hR
      generalize sy[q]'hqs = s at *
      subst hR
      have d3 : decide ((M : Int) ≤ (q : Int)) = false := decide_eq_false (by omega)
      have d4 : decide (M ≤ q) = false := decide_eq_false h2
      have hbne : b ≠ w.heap.size := by omega
      have q0 : (0 : Int) ≤ (q : Int) := by omega
      have q1 : (q : Int) < (M : Int) := by omega
      clear h2 hge hc
      go_enter Try.func102, Try.ntmps102
      go_wp2_with fail
      go_ret2
      exact ⟨rfl, (Below.refl _ _).alloc (Nat.le_refl _) _⟩

/-- A code that was there when B blocks were, and of which nothing has turned since. -/
def KeptC (B : Nat) (w : World) (g : Nat) (l : List Nat) : Prop := ∃ X : World, B = X.heap.size ∧ CodeAt X (g + 1) g l ∧ Below B X w
theorem KeptC.more {B g : Nat} {w w' : World} {l : List Nat} (h : KeptC B w g l) (hb : Below B w w') : KeptC B w' g l := by
  obtain ⟨X, e, h1, h2⟩ := h
  exact ⟨X, e, h1, h2.trans hb⟩
theorem KeptC.at {B g : Nat} {w : World} {l : List Nat} (h : KeptC B w g l) : CodeAt w (g + 1) g l := by
  obtain ⟨X, e, h1, h2⟩ := h
  subst e
  exact h1.below h2
theorem KeptC.le {B g : Nat} {w : World} {l : List Nat} (h : KeptC B w g l) : B ≤ w.heap.size := by
  obtain ⟨X, e, h1, h2⟩ := h
  subst e
  exact h2.size
theorem KeptC.start {g : Nat} {w : World} {l : List Nat} (h : CodeAt w (g + 1) g l) : KeptC w.heap.size w g l := ⟨w, rfl, h, Below.refl _ _⟩

/-- The group of a length, as it is read. -/
theorem CodeAt.group {w : World} {g n : Nat} {l : List Nat} (h : CodeAt w (g + 1) g l) (h1 : 1 ≤ n) (h2 : n ≤ 15) :
    ∃ a cc, w.cell? ⟨g, 1 + n * 2, none⟩ = some (.int .u32 (fst l n : Int)) ∧ w.cell? ⟨g, 1 + n * 2 + 1, none⟩ = some (.slice a (syms l n).length cc) ∧ Nums .i64 w w.heap.size a (syms l n) := by
  obtain ⟨gw, v, h0, hC, hW, hG⟩ := h
  obtain ⟨a, cc, hvn, _, _, _, hNm⟩ := (hG.own n (by omega)).nums
  refine ⟨a, cc, ?_, ?_, hNm⟩
  · rw [hC.cell, List.getElem?_toArray, ccells_first _ _ v (show n < 16 by omega)]
    unfold firstTo
    rw [if_pos ⟨h1, by omega⟩]
  · rw [hC.cell, List.getElem?_toArray, ccells_syms _ _ v (show n < 16 by omega), hvn]

def ReadPost (w : World) (gr : Nat) (a : Option Addr) (c : Nat) (bs : List Nat) (R : Nat × Nat × Nat) (e : Ending) (w' : World) : Prop :=
  e = .returned (.tuple #[.int .i64 (R.1 : Int), .int .i64 (R.2.2 : Int)]) ∧ Rd w' gr a c bs R.2.1 ∧ Only (fun k => k = gr) w w'
theorem or_bit (v b : Nat) (hb : b < 2) : (2 * v) ||| b = 2 * v + b := by
  have h := or_add b v 1 (by omega)
  rw [Nat.or_comm, show v * 2 ^ 1 = 2 * v by omega] at h
  rw [h]; omega
set_option maxHeartbeats 8000000 in
theorem read_any (B g gr p c : Nat) (a : Option Addr) (bs l : List Nat) (w : World) (hK : KeptC B w g l) (hgr : B ≤ gr) (hRd : Rd w gr a c bs p) (hbl : bs.length ≤ 1000000) (hbd : ∀ x ∈ bs, x < 256) (hl : l.length ≤ 288) (hp : p ≤ 8 * bs.length)
    (R : Nat × Nat × Nat) (hR : scan l (bitOf bs) (8 * bs.length) p 15 0 0 = R) :
    Calls Try.prog 99 #[.pointer (some ⟨g, 0, none⟩), .pointer (some ⟨gr, 0, none⟩)] w (ReadPost w gr a c bs R) := by
  have HK := Lib.hid hK
  have HR0 : Hid (Rd w gr a c bs (p + 0)) := hRd
  have Hs0 : Hid (scan l (bitOf bs) (8 * bs.length) p 15 0 0 = R) := hR
  have Hbits := Lib.hid fun W q (h : Rd W gr a c bs q) (hq : q + 1 ≤ 8 * bs.length) => bits_any gr a c bs q 1 W h hbl hbd (by omega) hq
  have Hsh := Lib.hid fun W q (h : Rd W gr a c bs q) (hq : q ≤ 8 * bs.length) (hs : 8 * bs.length - q < 1) => rbits_short gr a c bs q 1 W h hbl (by omega) hq hs
  have Hnx : Hid (∀ n, 1 ≤ n → n ≤ 15 → fst l n < 30000000 ∧ (syms l n).length ≤ 288) := fun n h1 h2 => by
    have := nxt_lt l hl (n - 1) (by omega)
    exact ⟨by unfold fst; omega, Nat.le_trans (syms_len l n) hl⟩
  have Hbt : Hid (∀ q, bitOf bs q < 2) := bitOf_lt bs
  obtain ⟨N, hN⟩ : ∃ N, N = 8 * bs.length := ⟨_, rfl⟩
  rw [← hN] at Hs0 Hbits Hsh hp
  have HpN : Hid (p ≤ N) := hp
  have HKle := Lib.hid hK.le
  clear hK hRd hR hbl hbd hN hp
  go_enter Try.func99, Try.ntmps99
  go_wp2_with fail
  go_loopw [6, 7] (fun x y W => ∃ (k n v : Nat), n = k + 1 ∧ n ≤ 16 ∧ y = .int .i64 (n : Int) ∧ x = .int .u32 (v : Int) ∧ v < 2 ^ k ∧ Hid (Rd W gr a c bs (p + k)) ∧ Hid (Only (fun b => b = gr) w W) ∧ Hid (scan l (bitOf bs) N p (15 - k) k v = R) ∧ Hid (p + k ≤ N)) (fun _ y _ => 16 - (intOf y).toNat)
  case atStart => exact ⟨0, 1, 0, rfl, by omega, rfl, rfl, by decide, HR0, Only.refl _ _, Hs0, HpN⟩
  case round =>
    obtain ⟨k, n, v, hkn, hn16, rfl, rfl, hv, HR, HO, HS, HP⟩ := hrel
    have hk : k ≤ 15 := by omega
    have Hkn := Lib.hid hkn
    clear HR0 Hs0
    have HKw := Lib.hid (HK.out.more (HO.out.below (fun b hb e => by subst e; omega) HKle.out))
    by_cases hlt : k < 15
    · have d1 : decide ((n : Int) ≤ 15) = true := decide_eq_true (by omega)
      have d2 : decide (n ≤ 15) = true := decide_eq_true (by omega)
      by_cases hN : N ≤ p + k
      · have hsc := HS.out
        obtain ⟨f, hf⟩ : ∃ f, 15 - k = f + 1 := ⟨14 - k, by omega⟩
        rw [hf, scan_short hN] at hsc
        subst hsc
        have Hq := Lib.hid (Hsh.out wr (p + k) HR.out HP.out (by omega))
        clear hN hf hlt hv hkn
        go_wp2_with fail
        refine Hq.out.mono ?_
        rintro e Y ⟨rfl, hB⟩
        have HR2 := Lib.hid (HR.out.below hB)
        have HO2 : Hid (Only (fun b => b = gr) w Y) := HO.out.trans (Only.of_below hB _) (fun _ _ h => h)
        clear hB
        go_wp2_with fail
        go_ret2
        exact ⟨rfl, HR2.out, HO2.out⟩
      · have Hq := Lib.hid (Hbits.out wr (p + k) HR.out (by omega))
        unfold BitsPost at Hq
        have hb2 := Hbt.out (p + k)
        have hsc := HS.out
        obtain ⟨f, hf⟩ : ∃ f, 15 - k = f + 1 := ⟨14 - k, by omega⟩
        rw [hf] at hsc
        have hval : valOf bs (p + k) 1 = bitOf bs (p + k) := by show 0 + bitOf bs (p + k + 0) * 2 ^ 0 = _; simp
        rw [hval] at Hq
        have hmiss := fun h => (scan_miss (l := l) (bt := bitOf bs) (f := f) (v := v) hN h).symm.trans hsc
        have hhit := fun s h => (scan_hit (s := s) (l := l) (bt := bitOf bs) (f := f) (v := v) hN h).symm.trans hsc
        generalize bitOf bs (p + k) = b at *
        have hpw : 2 ^ k ≤ 2 ^ 14 := Nat.pow_le_pow_right (by omega) (by omega)
        have hv2 : 2 * v + b < 2 ^ (k + 1) := by rw [Nat.pow_succ]; omega
        have w1 : IntKind.u32.wrap ((v : Int) * 2) = ((2 * v : Nat) : Int) := by rw [IntWalk.u32_in _ ⟨by omega, by omega⟩]; omega
        have w1' : (v : Int) * 2 = ((2 * v : Nat) : Int) := by omega
        have w2 : bits .or .u32 ((2 * v : Nat) : Int) (b : Int) = ((2 * v + b : Nat) : Int) := by rw [u32_or_nat _ _ (by omega) (by omega), or_bit v b hb2]
        obtain ⟨z, hz⟩ : ∃ z, 2 * v = z := ⟨_, rfl⟩
        obtain ⟨u, hu⟩ : ∃ u, 2 * v + b = u := ⟨_, rfl⟩
        rw [hu] at w2 hv2 hmiss hhit
        rw [hz] at w1 w1' w2
        have hul : u < 100000 := by omega
        have w3 : (z : Int) % 4294967296 = (z : Int) := by omega
        have Hmiss := Lib.hid hmiss
        have Hhit := Lib.hid hhit
        have Hf := Lib.hid hf
        have HNk : Hid (p + k + 1 ≤ N) := by show _ ≤ _; omega
        have Hv2 : Hid (u < 2 ^ (k + 1)) := hv2
        clear hsc hval hmiss hhit hz hu hf hN hv hv2 hpw hb2 hkn
        go_wp2_with fail
        refine Hq.out.mono ?_
        rintro e Y ⟨rfl, hR2, hO2⟩
        have HR2 := Lib.hid hR2
        have HO2 : Hid (Only (fun b => b = gr) w Y) := HO.out.trans hO2 (fun _ _ h => h)
        have HKY := HK.out.more (HO2.out.below (fun b hb e => by subst e; omega) HKle.out)
        obtain ⟨ga, gcc, c0, c1, hNs⟩ := HKY.at.group (n := k + 1) (by omega) (by omega)
        obtain ⟨n1, n2⟩ := Hnx.out (k + 1) (by omega) (by omega)
        obtain ⟨H, hH⟩ : ∃ H, hit l (k + 1) u = H := ⟨_, rfl⟩
        have Hfd := Lib.hid (find_any (fst l (k + 1)) u gcc ga (syms l (k + 1)) Y hNs (by omega) (by omega) (by omega) H hH)
        unfold FindPost at Hfd
        generalize fst l (k + 1) = F at *
        obtain ⟨M, hM⟩ : ∃ M, (syms l (k + 1)).length = M := ⟨_, rfl⟩
        rw [hM] at c1 Hfd n2
        rw [← Hkn.out] at c0 c1
        have HHH := Lib.hid hH
        have hk0 : (0 : Int) ≤ (n : Int) := by omega
        have hk1 : (n : Int) < 16 := by have := Hkn.out; omega
        clear hR2 hO2 HKY hNs hM hH
        go_wp2_with fail
        refine Hfd.out.mono ?_
        rintro e Z ⟨rfl, hB⟩
        have HR3 := Lib.hid (HR2.out.below hB)
        have HO3 : Hid (Only (fun b => b = gr) w Z) := HO2.out.trans (Only.of_below hB _) (fun _ _ h => h)
        clear hB c0 c1 Hfd
        cases H with
        | some s =>
          have e9 := Hhit.out s HHH.out
          subst e9
          unfold optV
          clear Hmiss Hhit HHH
          go_wp2_with fail
          go_ret2
          exact ⟨rfl, HR3.out, HO3.out⟩
        | none =>
          have HS2 : Hid (scan l (bitOf bs) N p (15 - (k + 1)) (k + 1) u = R) := by
            have := Hmiss.out HHH.out
            show _ = _
            rw [show 15 - (k + 1) = f by have := Hf.out; omega]
            exact this
          unfold optV
          clear Hmiss Hhit HHH
          go_wp2_with fail
          go_roundw
          case rel => exact ⟨k + 1, n + 1, u, by have := Hkn.out; omega, by omega, by go_num, rfl, Hv2.out, HR3, HO3, HS2, HNk⟩
          case measure => simp [intOf]; omega
    · have hk15 : k = 15 := by omega
      have d1 : decide ((n : Int) ≤ 15) = false := decide_eq_false (by omega)
      have d2 : decide (n ≤ 15) = false := decide_eq_false (by omega)
      have hsc := HS.out
      rw [show 15 - k = 0 by omega] at hsc
      have e9 : (0, p + k, 3) = R := hsc
      subst e9
      clear hsc hk15 hlt hkn
      go_wp2_with fail
      go_ret2
      exact ⟨rfl, HR.out, HO.out⟩
end Go.Proofs.Ytngnhkghpnamoaa
