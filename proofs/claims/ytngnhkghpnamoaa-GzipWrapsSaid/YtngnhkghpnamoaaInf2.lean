/- Inf2 -/
import Derived.Test.YtngnhkghpnamoaaHuffRd
import Derived.Test.YtngnhkghpnamoaaGc19
import Derived.Test.YtngnhkghpnamoaaGc06
namespace Go.Proofs.Ytngnhkghpnamoaa
namespace Inf
open Huff
set_option linter.unusedVariables false

/-- A program over the bits bt, of which there are N, from a place on: what it makes, and the place behind. -/
abbrev Pg (α : Type) := (Nat → Nat) → Nat → Nat → Except Nat (α × Nat)
def ret {α : Type} (x : α) : Pg α := fun _ _ p => .ok (x, p)
def err {α : Type} (e : Nat) : Pg α := fun _ _ _ => .error e
def bnd {α β : Type} (f : Pg α) (g : α → Pg β) : Pg β := fun bt N p =>
  match f bt N p with
  | .ok a => g a.1 bt N a.2
  | .error e => .error e
def need (b : Bool) : Pg Unit := if b then ret () else err 3
def valB (bt : Nat → Nat) (p : Nat) : Nat → Nat
  | 0 => 0
  | k + 1 => valB bt p k + bt (p + k) * 2 ^ k
def bitsP (n : Nat) : Pg Nat := fun bt N p => if p + n ≤ N then .ok (valB bt p n, p + n) else .error 2
def symP (l : List Nat) : Pg Nat := fun bt N p => if (scan l bt N p 15 0 0).2.2 = 0 then .ok ((scan l bt N p 15 0 0).1, (scan l bt N p 15 0 0).2.1) else .error (scan l bt N p 15 0 0).2.2
def alignP : Pg Unit := fun _ _ p => .ok ((), (p + 7) / 8 * 8)
def lift {α : Type} (x : Except Nat α) : Pg α :=
  match x with
  | .ok a => ret a
  | .error e => err e
def putE (most : Nat) (out : List Nat) (c : Nat) : Except Nat (List Nat) := if most ≤ out.length then .error 5 else .ok (out ++ [c])
def copyP (most : Nat) : Nat → List Nat → Pg (List Nat)
  | 0, out => ret out
  | k + 1, out => bnd (bitsP 8) fun c => bnd (lift (putE most out c)) fun o => copyP most k o
def repE (most d : Nat) : Nat → List Nat → Except Nat (List Nat)
  | 0, out => .ok out
  | k + 1, out =>
    match putE most out (out.getD (out.length - d) 0) with
    | .ok o => repE most d k o
    | .error e => .error e
def storedP (most : Nat) (out : List Nat) : Pg (List Nat) :=
  bnd alignP fun _ => bnd (bitsP 16) fun n => bnd (bitsP 16) fun m => bnd (need (decide (m + n = 65535))) fun _ => copyP most n out
/-- What a symbol beyond 256 means. -/
def farP (fars : List Nat) (most : Nat) (out : List Nat) (s : Nat) : Pg (List Nat) :=
  bnd (need (decide (s ≤ 285))) fun _ => bnd (bitsP (lenX (s - 257))) fun k => bnd (symP fars) fun d => bnd (need (decide (d ≤ 29))) fun _ =>
    bnd (bitsP (farX d)) fun m => bnd (need (decide (farB d + m ≤ out.length))) fun _ => lift (repE most (farB d + m) (lenB (s - 257) + k) out)
def symsP (lits fars : List Nat) (most : Nat) : Nat → List Nat → Pg (List Nat)
  | 0, _ => err 77
  | f + 1, out => bnd (symP lits) fun s =>
    if s = 256 then ret out
    else if s < 256 then bnd (lift (putE most out s)) fun o => symsP lits fars most f o
    else bnd (farP fars most out s) fun o => symsP lits fars most f o
def order : List Nat := [16, 17, 18, 0, 8, 7, 9, 6, 10, 5, 11, 4, 12, 3, 13, 2, 14, 1, 15]
def clenP : List Nat → List Nat → Pg (List Nat)
  | [], lens => ret lens
  | s :: r, lens => bnd (bitsP 3) fun v => clenP r (lens.set s v)
/-- Whether the lengths make a code. -/
def codeB (l : List Nat) (short : Bool) : Bool := errOf (l.map fun n : Nat => (n : Int)) short == 0
def lengthCodeP : Pg (List Nat) := bnd (bitsP 4) fun n => bnd (clenP (order.take (n + 4)) (List.replicate 19 0)) fun l => bnd (need (codeB l false)) fun _ => ret l
def runP (c before : List Nat) : Pg (Nat × Nat) := bnd (symP c) fun s =>
  if s = 16 then bnd (need (decide (0 < before.length))) fun _ => bnd (bitsP 2) fun k => ret (before.getD (before.length - 1) 0, 3 + k)
  else if s = 17 then bnd (bitsP 3) fun k => ret (0, 3 + k)
  else if s = 18 then bnd (bitsP 7) fun k => ret (0, 11 + k)
  else ret (s, 1)
def lensP (c : List Nat) (n : Nat) : Nat → List Nat → Pg (List Nat)
  | 0, _ => err 77
  | f + 1, l => if n ≤ l.length then ret l else
    bnd (runP c l) fun r => bnd (need (decide (l.length + r.2 ≤ n))) fun _ => lensP c n f (l ++ List.replicate r.2 r.1)
def dynP : Pg (List Nat × List Nat) := bnd (bitsP 5) fun a => bnd (bitsP 5) fun b => bnd (need (decide (a + 257 ≤ 286) && decide (b + 1 ≤ 30))) fun _ =>
  bnd lengthCodeP fun c => bnd (lensP c (a + 257 + (b + 1)) 400 []) fun l => bnd (need (decide (0 < l.getD 256 0))) fun _ =>
    bnd (need (codeB (l.take (a + 257)) false)) fun _ => bnd (need (codeB (l.drop (a + 257)) true)) fun _ => ret (l.take (a + 257), l.drop (a + 257))
def fixLits : List Nat := (List.range 288).map fun n => if n < 144 then 8 else if n < 256 then 9 else if n < 280 then 7 else 8
def fixFars : List Nat := List.replicate 32 5
/-- No input has more bits than that. -/
def fuel : Nat := 40000
def kindP (most : Nat) (out : List Nat) (k : Nat) : Pg (List Nat) :=
  if k = 0 then storedP most out
  else if k = 1 then symsP fixLits fixFars most fuel out
  else if k = 2 then bnd dynP fun c => symsP c.1 c.2 most fuel out
  else err 3
def blockP (most : Nat) (out : List Nat) : Pg (Nat × List Nat) := bnd (bitsP 1) fun last => bnd (bitsP 2) fun k => bnd (kindP most out k) fun o => ret (last, o)
def loopP (most : Nat) : Nat → List Nat → Pg (List Nat)
  | 0, _ => err 77
  | f + 1, out => bnd (blockP most out) fun r => if r.1 = 1 then ret r.2 else loopP most f r.2
def doneM : Except Nat (List Nat × Nat) → List Nat × Nat × Nat
  | .ok a => (a.1, (a.2 + 7) / 8, 0)
  | .error e => ([], 0, e)

/-! What was read is read again wherever the same bits stand, and too few of them are too short. -/
def Stable {α : Type} (f : Pg α) : Prop := ∀ bt N p x q, p ≤ N → 8 ∣ N → f bt N p = .ok (x, q) → p ≤ q ∧ q ≤ N ∧
  ∀ bt' N', p ≤ N' → 8 ∣ N' → (∀ i, i < q → i < N' → bt' i = bt i) → (q ≤ N' → f bt' N' p = .ok (x, q)) ∧ (N' < q → f bt' N' p = .error 2)
theorem Stable.ret {α : Type} (x : α) : Stable (ret x) := by
  intro bt N p y q hp h8 h
  injection h with h
  injection h with h1 h2
  subst h1; subst h2
  exact ⟨Nat.le_refl _, hp, fun bt' N' hp' _ _ => ⟨fun _ => rfl, fun h => by omega⟩⟩
theorem Stable.err {α : Type} (e : Nat) : Stable (err e : Pg α) := by
  intro bt N p y q hp h8 h
  cases h
theorem Stable.bnd {α β : Type} {f : Pg α} {g : α → Pg β} (hf : Stable f) (hg : ∀ a, Stable (g a)) : Stable (bnd f g) := by
  intro bt N p y q hp h8 h
  cases hfe : f bt N p with
  | error e => simp only [Inf.bnd, hfe] at h; cases h
  | ok a =>
    obtain ⟨x, q1⟩ := a
    simp only [Inf.bnd, hfe] at h
    obtain ⟨h1, h2, h3⟩ := hf bt N p x q1 hp h8 hfe
    obtain ⟨h4, h5, h6⟩ := hg x bt N q1 y q h2 h8 h
    refine ⟨by omega, h5, fun bt' N' hp' h8' hb => ?_⟩
    obtain ⟨h7, h9⟩ := h3 bt' N' hp' h8' (fun i hi hi' => hb i (by omega) hi')
    by_cases hq : q1 ≤ N'
    · have h10 := h7 hq
      obtain ⟨h11, h12⟩ := h6 bt' N' hq h8' hb
      refine ⟨fun hh => ?_, fun hh => ?_⟩
      · simp only [Inf.bnd, h10]; exact h11 hh
      · simp only [Inf.bnd, h10]; exact h12 hh
    · refine ⟨fun hh => by omega, fun hh => ?_⟩
      simp only [Inf.bnd, h9 (by omega)]
theorem Stable.need (b : Bool) : Stable (need b) := by
  unfold Inf.need; split
  · exact Stable.ret _
  · exact Stable.err _
theorem Stable.lift {α : Type} (x : Except Nat α) : Stable (lift x) := by
  cases x
  · exact Stable.err _
  · exact Stable.ret _
theorem Stable.ite {α : Type} {c : Prop} [Decidable c] {f g : Pg α} (hf : Stable f) (hg : Stable g) : Stable (if c then f else g) := by
  split
  · exact hf
  · exact hg
theorem valB_congr {bt bt' : Nat → Nat} {p : Nat} : ∀ n, (∀ i, i < p + n → bt' i = bt i) → valB bt' p n = valB bt p n
  | 0, _ => rfl
  | n + 1, h => by
    show valB bt' p n + bt' (p + n) * 2 ^ n = _
    rw [valB_congr n (fun i hi => h i (by omega)), h (p + n) (by omega)]
    rfl
theorem Stable.bits (n : Nat) : Stable (bitsP n) := by
  intro bt N p y q hp h8 h
  unfold bitsP at h
  split at h
  · next hN =>
    injection h with h
    injection h with h1 h2
    subst h1; subst h2
    refine ⟨by omega, hN, fun bt' N' hp' _ hb => ⟨fun hq => ?_, fun hq => ?_⟩⟩
    · unfold bitsP
      rw [if_pos hq, valB_congr n (fun i hi => hb i hi (by omega))]
    · unfold bitsP
      rw [if_neg (by omega)]
  · cases h
theorem Stable.align : Stable alignP := by
  intro bt N p y q hp h8 h
  injection h with h
  injection h with h1 h2
  subst h2
  refine ⟨by omega, by omega, fun bt' N' hp' h8' hb => ⟨fun hq => rfl, fun hq => by omega⟩⟩
theorem scan_stable (l : List Nat) (bt : Nat → Nat) (N p : Nat) : ∀ f k v, p + k ≤ N → (scan l bt N p f k v).2.2 = 0 → ∀ bt' N', p + k ≤ N' → (∀ i, i < (scan l bt N p f k v).2.1 → i < N' → bt' i = bt i) →
    ((scan l bt N p f k v).2.1 ≤ N' → scan l bt' N' p f k v = scan l bt N p f k v) ∧ (N' < (scan l bt N p f k v).2.1 → (scan l bt' N' p f k v).2.2 = 2)
  | 0, k, v, _, h, _, _, _, _ => by cases h
  | f + 1, k, v, hk, h, bt', N', hk', hb => by
    by_cases hN : N ≤ p + k
    · rw [scan_short hN] at h; cases h
    · by_cases hN' : N' ≤ p + k
      · rw [scan_short hN']
        refine ⟨fun hq => ?_, fun _ => rfl⟩
        exfalso
        cases hh : hit l (k + 1) (2 * v + bt (p + k)) with
        | some s => rw [scan_hit hN hh] at hq; simp only at hq; omega
        | none =>
          rw [scan_miss hN hh] at hq
          have := (scan_at l bt N p f (k + 1) (2 * v + bt (p + k)) (by omega)).1
          omega
      · cases hh : hit l (k + 1) (2 * v + bt (p + k)) with
        | some s =>
          rw [scan_hit hN hh] at hb ⊢
          simp only at hb
          have e := hb (p + k) (by omega) (by omega)
          rw [scan_hit hN' (by rw [e]; exact hh)]
          exact ⟨fun _ => rfl, fun hq => by simp only at hq; omega⟩
        | none =>
          rw [scan_miss hN hh] at hb h ⊢
          have h1 := (scan_at l bt N p f (k + 1) (2 * v + bt (p + k)) (by omega)).1
          have e := hb (p + k) (by omega) (by omega)
          rw [scan_miss hN' (by rw [e]; exact hh), e]
          exact scan_stable l bt N p f (k + 1) _ (by omega) h bt' N' (by omega) hb
theorem Stable.sym (l : List Nat) : Stable (symP l) := by
  intro bt N p y q hp h8 h
  unfold symP at h
  split at h
  · next h0 =>
    injection h with h
    injection h with h1 h2
    have ha := scan_at l bt N p 15 0 0 hp
    have hs := scan_stable l bt N p 15 0 0 hp h0
    rw [h2] at ha hs
    refine ⟨ha.1, ha.2, fun bt' N' hp' _ hb => ?_⟩
    obtain ⟨h3, h4⟩ := hs bt' N' hp' hb
    refine ⟨fun hq => ?_, fun hq => ?_⟩
    · unfold symP
      rw [h3 hq, if_pos h0, h1, h2]
    · unfold symP
      rw [h4 hq, if_neg (by omega)]
  · cases h
theorem Stable.copy (most : Nat) : ∀ k out, Stable (copyP most k out)
  | 0, out => Stable.ret _
  | k + 1, out => (Stable.bits _).bnd fun c => (Stable.lift _).bnd fun o => Stable.copy most k o
theorem Stable.stored (most : Nat) (out : List Nat) : Stable (storedP most out) :=
  Stable.align.bnd fun _ => (Stable.bits _).bnd fun n => (Stable.bits _).bnd fun m => (Stable.need _).bnd fun _ => Stable.copy most n out
theorem Stable.far (fars : List Nat) (most : Nat) (out : List Nat) (s : Nat) : Stable (farP fars most out s) :=
  (Stable.need _).bnd fun _ => (Stable.bits _).bnd fun k => (Stable.sym _).bnd fun d => (Stable.need _).bnd fun _ => (Stable.bits _).bnd fun m => (Stable.need _).bnd fun _ => Stable.lift _
theorem Stable.syms (lits fars : List Nat) (most : Nat) : ∀ f out, Stable (symsP lits fars most f out)
  | 0, _ => Stable.err _
  | f + 1, out => (Stable.sym _).bnd fun s => Stable.ite (Stable.ret _) (Stable.ite ((Stable.lift _).bnd fun o => Stable.syms lits fars most f o) ((Stable.far _ _ _ _).bnd fun o => Stable.syms lits fars most f o))
theorem Stable.clen : ∀ r lens, Stable (clenP r lens)
  | [], lens => Stable.ret _
  | s :: r, lens => (Stable.bits _).bnd fun v => Stable.clen r _
theorem Stable.lengthCode : Stable lengthCodeP := (Stable.bits _).bnd fun n => (Stable.clen _ _).bnd fun l => (Stable.need _).bnd fun _ => Stable.ret _
theorem Stable.run (c before : List Nat) : Stable (runP c before) := (Stable.sym _).bnd fun s =>
  Stable.ite ((Stable.need _).bnd fun _ => (Stable.bits _).bnd fun k => Stable.ret _) (Stable.ite ((Stable.bits _).bnd fun k => Stable.ret _) (Stable.ite ((Stable.bits _).bnd fun k => Stable.ret _) (Stable.ret _)))
theorem Stable.lens (c : List Nat) (n : Nat) : ∀ f l, Stable (lensP c n f l)
  | 0, _ => Stable.err _
  | f + 1, l => Stable.ite (Stable.ret _) ((Stable.run _ _).bnd fun r => (Stable.need _).bnd fun _ => Stable.lens c n f _)
theorem Stable.dyn : Stable dynP := (Stable.bits _).bnd fun a => (Stable.bits _).bnd fun b => (Stable.need _).bnd fun _ => Stable.lengthCode.bnd fun c => (Stable.lens _ _ _ _).bnd fun l =>
  (Stable.need _).bnd fun _ => (Stable.need _).bnd fun _ => (Stable.need _).bnd fun _ => Stable.ret _
theorem Stable.kind (most : Nat) (out : List Nat) (k : Nat) : Stable (kindP most out k) :=
  Stable.ite (Stable.stored _ _) (Stable.ite (Stable.syms _ _ _ _ _) (Stable.ite (Stable.dyn.bnd fun c => Stable.syms _ _ _ _ _) (Stable.err _)))
theorem Stable.block (most : Nat) (out : List Nat) : Stable (blockP most out) := (Stable.bits _).bnd fun last => (Stable.bits _).bnd fun k => (Stable.kind _ _ _).bnd fun o => Stable.ret _
theorem Stable.loop (most : Nat) : ∀ f out, Stable (loopP most f out)
  | 0, _ => Stable.err _
  | f + 1, out => (Stable.block _ _).bnd fun r => Stable.ite (Stable.ret _) (Stable.loop most f r.2)
end Inf
end Go.Proofs.Ytngnhkghpnamoaa

namespace Go.Proofs.Ytngnhkghpnamoaa
open Go.RowKit Huff Bit
set_option linter.unusedVariables false
set_option maxRecDepth 100000

set_option maxHeartbeats 8000000 in
theorem read_gen (g gr p c : Nat) (a : Option Addr) (bs l : List Nat) (w : World) (hK : ∀ W, Only (fun b => b = gr) w W → CodeAt W (g + 1) g l) (hRd : Rd w gr a c bs p) (hbl : bs.length ≤ 1000000) (hbd : ∀ x ∈ bs, x < 256) (hl : l.length ≤ 288) (hp : p ≤ 8 * bs.length)
    (R : Nat × Nat × Nat) (hR : scan l (bitOf bs) (8 * bs.length) p 15 0 0 = R) :
    Calls Try.prog 99 #[.pointer (some ⟨g, 0, none⟩), .pointer (some ⟨gr, 0, none⟩)] w (ReadPost w gr a c bs R) := by
  have HK := Lib.hid hK
  have HR0 : Hid (Rd w gr a c bs (p + 0)) := hRd
  have Hs0 : Hid (scan l (bitOf bs) (8 * bs.length) p 15 0 0 = R) := hR
  have Hbits := Lib.hid fun W q (h : Rd W gr a c bs q) (hq : q + 1 ≤ 8 * bs.length) => bits_any gr a c bs q 1 W h hbl hbd (by omega) hq
  have Hsh := Lib.hid fun W q (h : Rd W gr a c bs q) (hq : q ≤ 8 * bs.length) (hs : 8 * bs.length - q < 1) => rbits_short gr a c bs q 1 W h hbl (by omega) hq hs
  have Hnx : Hid (∀ n, 1 ≤ n → n ≤ 15 → fst l n < 30000000 ∧ (syms l n).length ≤ 288) := fun n h1 h2 => by
    have := nxt_lt l hl (n - 1) (by omega)
    exact ⟨by unfold fst; omega, Nat.le_trans (syms_len l n) hl⟩
  have Hbt : Hid (∀ q, bitOf bs q < 2) := bitOf_lt bs
  obtain ⟨N, hN⟩ : ∃ N, N = 8 * bs.length := ⟨_, rfl⟩
  rw [← hN] at Hs0 Hbits Hsh hp
  have HpN : Hid (p ≤ N) := hp
  clear hK hRd hR hbl hbd hN hp
  go_enter Try.func99, Try.ntmps99
  go_wp2_with fail
  go_loopw [6, 7] (fun x y W => ∃ (k n v : Nat), n = k + 1 ∧ n ≤ 16 ∧ y = .int .i64 (n : Int) ∧ x = .int .u32 (v : Int) ∧ v < 2 ^ k ∧ Hid (Rd W gr a c bs (p + k)) ∧ Hid (Only (fun b => b = gr) w W) ∧ Hid (scan l (bitOf bs) N p (15 - k) k v = R) ∧ Hid (p + k ≤ N)) (fun _ y _ => 16 - (intOf y).toNat)
  case atStart => exact ⟨0, 1, 0, rfl, by omega, rfl, rfl, by decide, HR0, Only.refl _ _, Hs0, HpN⟩
  case round =>
    obtain ⟨k, n, v, hkn, hn16, rfl, rfl, hv, HR, HO, HS, HP⟩ := hrel
    have hk : k ≤ 15 := by omega
    have Hkn := Lib.hid hkn
    clear HR0 Hs0
    by_cases hlt : k < 15
    · have d1 : decide ((n : Int) ≤ 15) = true := decide_eq_true (by omega)
      have d2 : decide (n ≤ 15) = true := decide_eq_true (by omega)
      by_cases hN : N ≤ p + k
      · have hsc := HS.out
        obtain ⟨f, hf⟩ : ∃ f, 15 - k = f + 1 := ⟨14 - k, by omega⟩
        rw [hf, scan_short hN] at hsc
        subst hsc
        have Hq := Lib.hid (Hsh.out wr (p + k) HR.out HP.out (by omega))
        clear hN hf hlt hv hkn
        go_wp2_with fail
        refine Hq.out.mono ?_
        rintro e Y ⟨rfl, hB⟩
        have HR2 := Lib.hid (HR.out.below hB)
        have HO2 : Hid (Only (fun b => b = gr) w Y) := HO.out.trans (Only.of_below hB _) (fun _ _ h => h)
        clear hB
        go_wp2_with fail
        go_ret2
        exact ⟨rfl, HR2.out, HO2.out⟩
      · have Hq := Lib.hid (Hbits.out wr (p + k) HR.out (by omega))
        unfold BitsPost at Hq
        have hb2 := Hbt.out (p + k)
        have hsc := HS.out
        obtain ⟨f, hf⟩ : ∃ f, 15 - k = f + 1 := ⟨14 - k, by omega⟩
        rw [hf] at hsc
        have hval : valOf bs (p + k) 1 = bitOf bs (p + k) := by show 0 + bitOf bs (p + k + 0) * 2 ^ 0 = _; simp
        rw [hval] at Hq
        have hmiss := fun h => (scan_miss (l := l) (bt := bitOf bs) (f := f) (v := v) hN h).symm.trans hsc
        have hhit := fun s h => (scan_hit (s := s) (l := l) (bt := bitOf bs) (f := f) (v := v) hN h).symm.trans hsc
        generalize bitOf bs (p + k) = b at *
        have hpw : 2 ^ k ≤ 2 ^ 14 := Nat.pow_le_pow_right (by omega) (by omega)
        have hv2 : 2 * v + b < 2 ^ (k + 1) := by rw [Nat.pow_succ]; omega
        have w1 : IntKind.u32.wrap ((v : Int) * 2) = ((2 * v : Nat) : Int) := by rw [IntWalk.u32_in _ ⟨by omega, by omega⟩]; omega
        have w1' : (v : Int) * 2 = ((2 * v : Nat) : Int) := by omega
        have w2 : bits .or .u32 ((2 * v : Nat) : Int) (b : Int) = ((2 * v + b : Nat) : Int) := by rw [u32_or_nat _ _ (by omega) (by omega), or_bit v b hb2]
        obtain ⟨z, hz⟩ : ∃ z, 2 * v = z := ⟨_, rfl⟩
        obtain ⟨u, hu⟩ : ∃ u, 2 * v + b = u := ⟨_, rfl⟩
        rw [hu] at w2 hv2 hmiss hhit
        rw [hz] at w1 w1' w2
        have hul : u < 100000 := by omega
        have w3 : (z : Int) % 4294967296 = (z : Int) := by omega
        have Hmiss := Lib.hid hmiss
        have Hhit := Lib.hid hhit
        have Hf := Lib.hid hf
        have HNk : Hid (p + k + 1 ≤ N) := by show _ ≤ _; omega
        have Hv2 : Hid (u < 2 ^ (k + 1)) := hv2
        clear hsc hval hmiss hhit hz hu hf hN hv hv2 hpw hb2 hkn
        go_wp2_with fail
        refine Hq.out.mono ?_
        rintro e Y ⟨rfl, hR2, hO2⟩
        have HR2 := Lib.hid hR2
        have HO2 : Hid (Only (fun b => b = gr) w Y) := HO.out.trans hO2 (fun _ _ h => h)
        have HKY := HK.out Y HO2.out
        obtain ⟨ga, gcc, c0, c1, hNs⟩ := HKY.group (n := k + 1) (by omega) (by omega)
        obtain ⟨n1, n2⟩ := Hnx.out (k + 1) (by omega) (by omega)
        obtain ⟨H, hH⟩ : ∃ H, hit l (k + 1) u = H := ⟨_, rfl⟩
        have Hfd := Lib.hid (find_any (fst l (k + 1)) u gcc ga (syms l (k + 1)) Y hNs (by omega) (by omega) (by omega) H hH)
        unfold FindPost at Hfd
        generalize fst l (k + 1) = F at *
        obtain ⟨M, hM⟩ : ∃ M, (syms l (k + 1)).length = M := ⟨_, rfl⟩
        rw [hM] at c1 Hfd n2
        rw [← Hkn.out] at c0 c1
        have HHH := Lib.hid hH
        have hk0 : (0 : Int) ≤ (n : Int) := by omega
        have hk1 : (n : Int) < 16 := by have := Hkn.out; omega
        clear hR2 hO2 HKY hNs hM hH
        go_wp2_with fail
        refine Hfd.out.mono ?_
        rintro e Z ⟨rfl, hB⟩
        have HR3 := Lib.hid (HR2.out.below hB)
        have HO3 : Hid (Only (fun b => b = gr) w Z) := HO2.out.trans (Only.of_below hB _) (fun _ _ h => h)
        clear hB c0 c1 Hfd
        cases H with
        | some s =>
          have e9 := Hhit.out s HHH.out
          subst e9
          unfold optV
          clear Hmiss Hhit HHH
          go_wp2_with fail
          go_ret2
          exact ⟨rfl, HR3.out, HO3.out⟩
        | none =>
          have HS2 : Hid (scan l (bitOf bs) N p (15 - (k + 1)) (k + 1) u = R) := by
            have := Hmiss.out HHH.out
            show _ = _
            rw [show 15 - (k + 1) = f by have := Hf.out; omega]
            exact this
          unfold optV
          clear Hmiss Hhit HHH
          go_wp2_with fail
          go_roundw
          case rel => exact ⟨k + 1, n + 1, u, by have := Hkn.out; omega, by omega, by go_num, rfl, Hv2.out, HR3, HO3, HS2, HNk⟩
          case measure => simp [intOf]; omega
    · have hk15 : k = 15 := by omega
      have d1 : decide ((n : Int) ≤ 15) = false := decide_eq_false (by omega)
      have d2 : decide (n ≤ 15) = false := decide_eq_false (by omega)
      have hsc := HS.out
      rw [show 15 - k = 0 by omega] at hsc
      have e9 : (0, p + k, 3) = R := hsc
      subst e9
      clear hsc hk15 hlt hkn
      go_wp2_with fail
      go_ret2
      exact ⟨rfl, HR.out, HO.out⟩

theorem ralign_any (g : Nat) (a : Option Addr) (c : Nat) (l : List Nat) (p k : Nat) (w : World) (h : Rd w g a c l p) (hp : p ≤ 100000) (hk : k = (8 - p % 8) % 8) :
    Calls Try.prog 88 #[.pointer (some ⟨g, 0, none⟩)] w fun e w' => e = .returned (.int .i64 (k : Int)) ∧ Rd w' g a c l (p + k) ∧ Only (fun k => k = g) w w' := by
  have c1 : w.cell? ⟨g, 1, none⟩ = some (.int .i64 (p : Int)) := h.1.cell 1
  have f1 := h.1.frozen 1
  have hr : Hid (∀ W, Calls Try.prog 72 #[.int .i64 (p : Int)] W fun e w' => e = .returned (.int .i64 (k : Int)) ∧ W = w') := fun W => by
    have h : Hid (((8 : Int) - (p : Int) % 8) % 8 = (k : Int)) := by show _ = _; omega
    clear hk
    go_enter Try.func72, Try.ntmps72
    go_wp2_with fail
    go_ret
    exact ⟨ret_int h.out, rfl⟩
  have hk8 : k < 8 := by omega
  have H := Lib.hid h
  clear h hk
  go_enter Try.func88, Try.ntmps88
  go_wp2_with fail
  refine (hr.out _).mono ?_
  rintro e W ⟨rfl, rfl⟩
  go_wp2_with fail
  go_ret
  exact ⟨rfl, H.out.step (p + k) _ (by simp), (Only.refl (fun k => k = g) w).setCell (fun _ => rfl) _⟩

def pan (n : Nat) : List PanicEntry := [{ v := .iface 24 (.int .i64 (n : Int)), recovered := false }]
/-- What a call of the decoder's leaves alone. -/
structure DK (B : Nat) (W W' : World) : Prop where
  below : Below B W W'
  same : ∀ (k : Nat) (cs : Array Value) (e : TypeId) (fz : Nat × Nat), W.heap[k]? = some (Obj.cells cs e fz) → e ≠ 123 → e ≠ 112 → e ≠ 5 → W'.heap[k]? = W.heap[k]?
section
variable {B : Nat} {W W' W2 : World}
theorem DK.refl (B : Nat) (W : World) : DK B W W := ⟨Below.refl _ _, fun _ _ _ _ _ _ _ _ => rfl⟩
theorem DK.trans (h : DK B W W') (h' : DK B W' W2) : DK B W W2 :=
  ⟨h.below.trans h'.below, fun k cs e fz hk h1 h2 h3 => (h'.same k cs e fz ((h.same k cs e fz hk h1 h2 h3).trans hk) h1 h2 h3).trans (h.same k cs e fz hk h1 h2 h3)⟩
theorem DK.of_below (h : Below W.heap.size W W') (hn : B ≤ W.heap.size) : DK B W W' := ⟨h.mono hn, fun k cs e fz hk _ _ _ => h.block k (Array.getElem?_eq_some_iff.1 hk).1⟩
theorem DK.only {S : Nat → Prop} (ho : Only S W W') (hB : B ≤ W.heap.size) (hl : ∀ k, S k → B ≤ k) (ht : ∀ k, S k → ∃ cs e fz, W.heap[k]? = some (Obj.cells cs e fz) ∧ (e = 123 ∨ e = 112 ∨ e = 5)) : DK B W W' := by
  refine ⟨ho.below (fun b hb hs => by have := hl b hs; omega) hB, fun k cs e fz hk h1 h2 h3 => ho.block k (Array.getElem?_eq_some_iff.1 hk).1 fun hs => ?_⟩
  obtain ⟨cs', e', fz', hk', he⟩ := ht k hs
  rw [hk] at hk'
  injection hk' with hk'
  injection hk' with q1 q2
  subst q2
  rcases he with he | he | he
  · exact h1 he
  · exact h2 he
  · exact h3 he
theorem Whole.dk {g : Nat} {t : TypeId} {cs : Array Value} (h : Whole W g t cs) (hk : DK B W W') (h1 : t ≠ 123) (h2 : t ≠ 112) (h3 : t ≠ 5) : Whole W' g t cs := (hk.same g _ _ _ h h1 h2 h3).trans h
theorem Own64.dk {base : Nat} {v : Value} {l : List Nat} (h : Own64 W base v l) (hk : DK B W W') : Own64 W' base v l := by
  obtain ⟨hl, (h0 | ⟨k, cap, cur, rfl, h1, h2, h3⟩)⟩ := h
  · exact ⟨hl, .inl h0⟩
  · exact ⟨hl, .inr ⟨k, cap, cur, rfl, h1, (hk.same k _ _ _ h2 (by decide) (by decide) (by decide)).trans h2, h3⟩⟩
theorem CodeAt.dk {g : Nat} {l : List Nat} (h : CodeAt W (g + 1) g l) (hk : DK B W W') : CodeAt W' (g + 1) g l := by
  obtain ⟨gw, v, h1, h2, h3, h4⟩ := h
  exact ⟨gw, v, h1, h2.dk hk (by decide) (by decide) (by decide), h3.dk hk (by decide) (by decide) (by decide), ⟨fun j hj => (h4.own j hj).dk hk, h4.apart⟩⟩
end
/-- What a decoding is of: the blocks below B are the caller's; d, r: the decoder, its reader; the reader's bytes; how many at most. -/
structure Cx where
  B : Nat
  n : Nat
  d : Nat
  r : Nat
  a : Option Addr
  c : Nat
  bs : List Nat
  most : Nat
structure Cx.Ok (X : Cx) : Prop where
  bd : X.B ≤ X.d
  br : X.B ≤ X.r
  dn : X.d < X.n
  rn : X.r < X.n
  len : X.bs.length ≤ 4096
  byte : ∀ x ∈ X.bs, x < 256
  most : X.most ≤ 1048576
/-- The decoder at bit p, out behind it. -/
structure Dec (X : Cx) (F : Option Addr × Option Addr) (out : List Nat) (p : Nat) (W : World) : Prop where
  dec : ∃ v, Whole W X.d 112 #[.pointer (some ⟨X.r, 0, none⟩), v, .int .i64 (X.most : Int), .pointer F.1, .pointer F.2] ∧ Own8 W X.n v out
  rd : Whole W X.r 123 #[.slice X.a X.bs.length X.c, .int .i64 (p : Int)]
  nums : Nums .u8 W X.n X.a X.bs
  size : X.n ≤ W.heap.size
  at_ : p ≤ 8 * X.bs.length
section
variable {X : Cx} {F : Option Addr × Option Addr} {out : List Nat} {p : Nat} {W W' : World}
theorem Dec.ne (h : Dec X F out p W) : X.d ≠ X.r := by
  obtain ⟨v, h1, h2⟩ := h.dec
  intro e
  have h3 := h.rd
  unfold Whole at h1 h3
  rw [e, h3] at h1
  injection h1 with h1
  injection h1 with h1 h4
  exact absurd h4 (by decide)
theorem Dec.reader (h : Dec X F out p W) : Rd W X.r X.a X.c X.bs p := ⟨h.rd, fun hl => by
  obtain ⟨b, off, e, hb, hc⟩ := h.nums hl
  exact ⟨b, off, e, Nat.lt_of_lt_of_le hb h.size, hc⟩⟩
theorem Nums.onlyIf {S : Nat → Prop} {k : IntKind} {B : Nat} {a : Option Addr} {l : List Nat} (h : Nums k W B a l) (ho : Only S W W') (hB : B ≤ W.heap.size) (hS : ∀ b u v, W.cell? ⟨b, u, none⟩ = some (.int k v) → b < B → ¬ S b) : Nums k W' B a l := fun hl => by
  obtain ⟨b, off, rfl, hb, hc⟩ := h hl
  refine ⟨b, off, rfl, hb, fun j hj => ?_⟩
  rw [ho.cell (p := ⟨b, off + j, none⟩) (Nat.lt_of_lt_of_le hb hB) (hS b _ _ (hc j hj) hb)]
  exact hc j hj
theorem rd_cell {g : Nat} {t : TypeId} {a0 : Option Addr} {n0 c0 : Nat} {q : Int} {u : Nat} {x : Int} (h : Whole W g t #[.slice a0 n0 c0, .int .i64 q]) : W.cell? ⟨g, u, none⟩ ≠ some (.int .u8 x) := by
  rw [h.cell]
  rcases u with _ | _ | u <;> simp
/-- The reader has gone on. -/
theorem Dec.read (hX : X.Ok) (h : Dec X F out p W) {q : Nat} (hr : Rd W' X.r X.a X.c X.bs q) (ho : Only (fun k => k = X.r) W W') (hq : q ≤ 8 * X.bs.length) : Dec X F out q W' ∧ DK X.B W W' := by
  obtain ⟨v, h1, h2⟩ := h.dec
  refine ⟨⟨⟨v, h1.only ho h.ne, h2.only ho (fun b hb e => ?_)⟩, hr.1, h.nums.onlyIf ho h.size (fun b u x hc hb e => ?_), Nat.le_trans h.size ho.size, hq⟩, DK.only ho (by have := hX.br; have := h.rd.lt; omega) (fun k e => by subst e; exact hX.br) (fun k e => by subst e; exact ⟨_, _, _, h.rd, .inl rfl⟩)⟩
  · have := (h2.lt b hb).1
    have := hX.rn
    omega
  · subst e
    exact rd_cell h.rd hc
theorem Dec.below (hX : X.Ok) (h : Dec X F out p W) (hb : Below W.heap.size W W') : Dec X F out p W' := by
  obtain ⟨v, h1, h2⟩ := h.dec
  exact ⟨⟨v, h1.below hb h1.lt, h2.below hb⟩, h.rd.below hb h.rd.lt, h.nums.onlyIf (S := fun _ => False) (Only.of_below hb _) h.size (fun _ _ _ _ _ h => h), Nat.le_trans h.size hb.size, h.at_⟩
theorem Dec.le (hX : X.Ok) (h : Dec X F out p W) : X.B ≤ W.heap.size := by have := hX.br; have := h.rd.lt; omega
end
/-- What a call of the decoder's does whose result is R: it hands back a value, the decoder has gone on; or it panics with the error's number. -/
def DPost {α : Type} (X : Cx) (w : World) (R : Except Nat (α × Nat)) (rv : α → Value) (F : Option Addr × Option Addr) (o : α → List Nat) (e : Ending) (w' : World) : Prop :=
  match R with
  | .ok a => e = .returned (rv a.1) ∧ Dec X F (o a.1) a.2 w' ∧ DK X.B w w'
  | .error n => e = .panicked (pan n) ∧ Below X.B w w'
theorem valOf_valB (bs : List Nat) (p : Nat) : ∀ k, valOf bs p k = Inf.valB (bitOf bs) p k
  | 0 => rfl
  | k + 1 => by show valOf bs p k + _ = Inf.valB _ p k + _; rw [valOf_valB bs p k]
theorem valB_lt (bs : List Nat) (p k : Nat) : Inf.valB (bitOf bs) p k < 2 ^ k := by rw [← valOf_valB]; exact valOf_lt bs p k
/-- A program run over the decoder's bits. -/
def Cx.run (X : Cx) {α : Type} (f : Inf.Pg α) (p : Nat) : Except Nat (α × Nat) := f (bitOf X.bs) (8 * X.bs.length) p
end Go.Proofs.Ytngnhkghpnamoaa

namespace Go.Proofs.Ytngnhkghpnamoaa
open Go.RowKit Huff Bit
set_option linter.unusedVariables false
set_option maxRecDepth 100000

theorem icheck_ok (w : World) : Calls Try.prog 87 #[.int .i64 0] w fun e w' => e = .returned (.tuple #[]) ∧ w = w' := by
  go_enter Try.func87, Try.ntmps87
  go_wp2_with fail
  go_end0
  exact ⟨rfl, rfl⟩
theorem icheck_no (n : Nat) (w : World) (hn : n ≠ 0) : Calls Try.prog 87 #[.int .i64 (n : Int)] w fun e w' => e = .panicked (pan n) ∧ w = w' := by
  have d : ((n : Int) != 0) = true := by simp; omega
  clear hn
  go_enter Try.func87, Try.ntmps87
  go_wp2_with fail
  exact ⟨rfl, rfl, rfl⟩
theorem idemand_yes (w : World) : Calls Try.prog 89 #[.bool true] w fun e w' => e = .returned (.tuple #[]) ∧ w = w' := by
  go_enter Try.func89, Try.ntmps89
  go_wp2_with fail
  go_end0
  exact ⟨rfl, rfl⟩
theorem idemand_no (w : World) : Calls Try.prog 89 #[.bool false] w fun e w' => e = .panicked (pan 3) ∧ w = w' := by
  go_enter Try.func89, Try.ntmps89
  go_wp2_with fail
  exact ⟨rfl, rfl, rfl⟩

section
variable {X : Cx} {F : Option Addr × Option Addr} {out : List Nat} {p : Nat} {w : World}
theorem dbits_any (hX : X.Ok) (h : Dec X F out p w) (n : Nat) (hn : n ≤ 16) :
    Calls Try.prog 81 #[.pointer (some ⟨X.d, 0, none⟩), .int .i64 (n : Int)] w (DPost X w (X.run (Inf.bitsP n) p) (fun v => .int .i64 (v : Int)) F (fun _ => out)) := by
  obtain ⟨v, h1, h2⟩ := h.dec
  have c0 : w.cell? ⟨X.d, 0, none⟩ = some (.pointer (some ⟨X.r, 0, none⟩)) := h1.cell 0
  have hlen := hX.len
  have hat := h.at_
  have H := Lib.hid h
  have HX := Lib.hid hX
  by_cases hN : p + n ≤ 8 * X.bs.length
  · have e : X.run (Inf.bitsP n) p = .ok (Inf.valB (bitOf X.bs) p n, p + n) := by unfold Cx.run Inf.bitsP; rw [if_pos hN]
    rw [e]
    have hv := valB_lt X.bs p n
    have hp16 : 2 ^ n ≤ 2 ^ 16 := Nat.pow_le_pow_right (by omega) hn
    have Hb := Lib.hid (bits_any X.r X.a X.c X.bs p n w h.reader (by omega) hX.byte (by omega) hN)
    unfold BitsPost at Hb
    rw [valOf_valB] at Hb
    have Hc := Lib.hid icheck_ok
    generalize Inf.valB (bitOf X.bs) p n = V at *
    have w1 : wrap64 (V : Int) = (V : Int) := IntWalk.wrap64_in _ ⟨by omega, by omega⟩
    have w2 : IntKind.i64.wrap (V : Int) = (V : Int) := IntWalk.i64_in _ ⟨by omega, by omega⟩
    have HN := Lib.hid hN
    clear h h1 h2 hX hv hp16 hN e
    go_enter Try.func81, Try.ntmps81
    go_wp2_with fail
    refine Hb.out.mono ?_
    rintro e W ⟨rfl, hR, hO⟩
    have Hf := Lib.hid (H.out.read HX.out hR hO HN.out)
    clear hR hO
    go_wp2_with fail
    refine (Hc.out _).mono ?_
    rintro e W9 ⟨rfl, rfl⟩
    go_wp2_with fail
    go_ret
    exact ⟨rfl, Hf.out.1, Hf.out.2⟩
  · have e : X.run (Inf.bitsP n) p = .error 2 := by unfold Cx.run Inf.bitsP; rw [if_neg hN]
    rw [e]
    have Hb := Lib.hid (rbits_short X.r X.a X.c X.bs p n w h.reader (by omega) (by omega) hat (by omega))
    have Hc := Lib.hid fun W => icheck_no 2 W (by omega)
    have Hle := Lib.hid (h.le hX)
    clear h h1 h2 hX hN e
    go_enter Try.func81, Try.ntmps81
    go_wp2_with fail
    refine Hb.out.mono ?_
    rintro e W ⟨rfl, hB⟩
    have HB := Lib.hid (hB.mono Hle.out)
    clear hB
    go_wp2_with fail
    refine (Hc.out _).mono ?_
    rintro e W9 ⟨rfl, rfl⟩
    go_wp2_with fail
    exact ⟨rfl, rfl, HB.out⟩
/-- A code of the decoder's. -/
structure CodeK (g : Nat) (l : List Nat) (W : World) : Prop where
  code : CodeAt W (g + 1) g l
  len : l.length ≤ 288
theorem CodeK.dk {B g : Nat} {l : List Nat} {W W' : World} (h : CodeK g l W) (hk : DK B W W') : CodeK g l W' := ⟨h.code.dk hk, h.len⟩
theorem dsym_any (hX : X.Ok) (h : Dec X F out p w) (g : Nat) (l : List Nat) (hC : CodeK g l w) :
    Calls Try.prog 91 #[.pointer (some ⟨X.d, 0, none⟩), .pointer (some ⟨g, 0, none⟩)] w (DPost X w (X.run (Inf.symP l) p) (fun v => .int .i64 (v : Int)) F (fun _ => out)) := by
  obtain ⟨v, h1, h2⟩ := h.dec
  have c0 : w.cell? ⟨X.d, 0, none⟩ = some (.pointer (some ⟨X.r, 0, none⟩)) := h1.cell 0
  have hlen := hX.len
  have H := Lib.hid h
  have HX := Lib.hid hX
  obtain ⟨R, hR⟩ : ∃ R, scan l (bitOf X.bs) (8 * X.bs.length) p 15 0 0 = R := ⟨_, rfl⟩
  have ha := scan_at l (bitOf X.bs) (8 * X.bs.length) p 15 0 0 h.at_
  rw [hR] at ha
  have Hb := Lib.hid (read_gen g X.r p X.c X.a X.bs l w (fun W ho => hC.code.dk (DK.only (B := X.B) ho (h.le hX) (fun k e => by subst e; exact hX.br) (fun k e => by subst e; exact ⟨_, _, _, h.rd, .inl rfl⟩))) h.reader (by omega) hX.byte hC.len h.at_ R hR)
  unfold ReadPost at Hb
  have HA : Hid (R.2.1 ≤ 8 * X.bs.length) := ha.2
  by_cases h0 : R.2.2 = 0
  · have e : X.run (Inf.symP l) p = .ok (R.1, R.2.1) := by unfold Cx.run Inf.symP; rw [hR, if_pos h0]
    rw [e]
    rw [h0] at Hb
    have Hc := Lib.hid icheck_ok
    clear h h1 h2 hX hR e ha h0 hC
    go_enter Try.func91, Try.ntmps91
    go_wp2_with fail
    refine Hb.out.mono ?_
    rintro e W ⟨rfl, hR, hO⟩
    have Hf := Lib.hid (H.out.read HX.out hR hO HA.out)
    clear hR hO
    go_wp2_with fail
    refine (Hc.out _).mono ?_
    rintro e W9 ⟨rfl, rfl⟩
    go_wp2_with fail
    go_ret
    exact ⟨rfl, Hf.out.1, Hf.out.2⟩
  · have e : X.run (Inf.symP l) p = .error R.2.2 := by unfold Cx.run Inf.symP; rw [hR, if_neg h0]
    rw [e]
    have Hc := Lib.hid fun W => icheck_no R.2.2 W h0
    obtain ⟨E, hE⟩ : ∃ E, R.2.2 = E := ⟨_, rfl⟩
    rw [hE] at Hb Hc ⊢
    clear h h1 h2 hX hR e ha h0 hC hE
    go_enter Try.func91, Try.ntmps91
    go_wp2_with fail
    refine Hb.out.mono ?_
    rintro e W ⟨rfl, hR, hO⟩
    have Hf := Lib.hid (H.out.read HX.out hR hO HA.out)
    clear hR hO
    go_wp2_with fail
    refine (Hc.out _).mono ?_
    rintro e W9 ⟨rfl, rfl⟩
    go_wp2_with fail
    exact ⟨rfl, rfl, Hf.out.2.below⟩
/-- A byte has been put. -/
theorem Dec.put (hX : X.Ok) (h : Dec X F out p w) {v v' : Value} {w1 : World} {m : List Nat} (h1 : Whole w X.d 112 #[.pointer (some ⟨X.r, 0, none⟩), v, .int .i64 (X.most : Int), .pointer F.1, .pointer F.2]) (h2 : Own8 w X.n v out) (hG : Gone w X.n v m v' w1) :
    Dec X F m p (w1.setCell ⟨X.d, 1, none⟩ v') ∧ DK X.B w (w1.setCell ⟨X.d, 1, none⟩ v') := by
  have hdn := hX.dn
  have hbd := hX.bd
  have hne := h.ne
  have hlt := h1.lt
  have hle := h.le hX
  have hv : ∀ b, v.ownBlock = some b → X.n ≤ b := fun b hb => (h2.lt b hb).1
  have hw1 : Whole w1 X.d 112 #[.pointer (some ⟨X.r, 0, none⟩), v, .int .i64 (X.most : Int), .pointer F.1, .pointer F.2] := h1.only hG.only (fun e => by have := hv _ e; omega)
  have ho : Only (fun k => k = X.d ∨ v.ownBlock = some k) w (w1.setCell ⟨X.d, 1, none⟩ v') := (hG.only.mono (fun b _ e => .inr e)).setCell (fun _ => .inl rfl) _
  refine ⟨⟨⟨v', by simpa using hw1.set 1 v', own_set hG.own (p := ⟨X.d, 1, none⟩) (fun e => by have := (hG.own.lt _ e).1; exact absurd this (by show ¬ X.n ≤ X.d; omega)) _⟩, h.rd.only ho ?_, h.nums.onlyIf ho h.size ?_, Nat.le_trans h.size ho.size, h.at_⟩, DK.only ho hle ?_ ?_⟩
  · rintro (e | e)
    · exact hne e.symm
    · have := hv _ e; have := hX.rn; omega
  · rintro b u x hc hb (e | e)
    · subst e
      obtain ⟨a0, c0, rfl, _⟩ := h2.nums
      rw [h1.cell] at hc
      rcases u with _ | _ | _ | _ | _ | u <;> simp at hc
    · have := hv _ e; omega
  · rintro k (e | e)
    · subst e; exact hbd
    · have := hv _ e; omega
  · rintro k (e | e)
    · subst e; exact ⟨_, _, _, h1, .inr (.inl rfl)⟩
    · obtain ⟨hl, (⟨rfl, _⟩ | ⟨k', cap, cur, rfl, q1, q2, q3⟩)⟩ := h2
      · cases e
      · injection e with e
        subst e
        exact ⟨_, _, _, q2, .inr (.inr rfl)⟩
theorem Gone.undrawn {w w' : World} {base k : Nat} {v v' : Value} {l : List Nat} (h : Gone (w.drewN k) base v l v' w') : Gone w base v l v' w' := ⟨h.own, ⟨h.only.os, h.only.tape, h.only.output, h.only.size, h.only.block⟩, h.at_⟩
theorem run_lift {α : Type} (x : Except Nat α) : X.run (Inf.lift x) p = (match x with | .ok a => .ok (a, p) | .error e => .error e) := by cases x <;> rfl
theorem dput_any (hX : X.Ok) (h : Dec X F out p w) (c : Nat) :
    Calls Try.prog 90 #[.pointer (some ⟨X.d, 0, none⟩), .int .u8 (c : Int)] w (DPost X w (X.run (Inf.lift (Inf.putE X.most out c)) p) (fun _ => .tuple #[]) F id) := by
  obtain ⟨v, h1, h2⟩ := h.dec
  obtain ⟨i0, hi0, hz0, hz1, hz2⟩ := info_parts u8info
  obtain ⟨a, cc, rfl, _, _, _, _⟩ := h2.nums
  have c1 : w.cell? ⟨X.d, 1, none⟩ = some (.slice a out.length cc) := h1.cell 1
  have c2 : w.cell? ⟨X.d, 2, none⟩ = some (.int .i64 (X.most : Int)) := h1.cell 2
  have f1 := h1.frozen 1
  have hm := hX.most
  rw [run_lift]
  have H := Lib.hid h
  have HX := Lib.hid hX
  have H1 := Lib.hid h1
  have H2 := Lib.hid h2
  have Hle := Lib.hid (h.le hX)
  have Hsz := Lib.hid h.size
  unfold Inf.putE
  obtain ⟨L, hL⟩ : ∃ L, out.length = L := ⟨_, rfl⟩
  obtain ⟨M, hM⟩ : ∃ M, X.most = M := ⟨_, rfl⟩
  rw [hM] at hm c2
  rw [hL] at c1
  rw [hL, hM]
  have HL := Lib.hid hL
  by_cases hN : M ≤ L
  · rw [if_pos hN]
    have d1 : decide ((M : Int) ≤ (L : Int)) = true := decide_eq_true (by omega)
    have d2 : decide (M ≤ L) = true := decide_eq_true hN
    clear h h1 h2 hX hN hL hM hm
    go_enter Try.func90, Try.ntmps90
    go_wp2_with fail
    go_quiet (fail)
    go_wp2_with fail
    exact ⟨rfl, rfl, below_drawn ((Below.refl _ _)) _⟩
  · rw [if_neg hN]
    have d1 : decide ((M : Int) ≤ (L : Int)) = false := decide_eq_false (by omega)
    have d2 : decide (M ≤ L) = false := decide_eq_false hN
    have Hl1 : Hid (L + 1 ≤ maxLen) := by unfold Hid maxLen; omega
    have Hl2 : Hid ((L + 1) * 1 ≤ 140737488355328) := by unfold Hid; omega
    have Hown : Hid (∀ n, (w.drewN n).ownsRow X.n 5 1 (.slice a L cc) L (u8s out)) := fun n => by have h3 := h2; unfold Own8 at h3; rw [hL] at h3; exact h3
    clear h h1 h2 hX hN hL hM hm
    go_enter Try.func90, Try.ntmps90
    go_wp2_with fail
    go_quiet (fail)
    go_wp2_with (at_builtin; refine app_one rfl (.tmp 19) (.tmp 21) 22 rfl X.n 5 i0 _ 1 Try.underlying22 hi0 hz0 hz1 hz2 rfl _ _ _ rfl (Hown.out _) (.int .u8 (c : Int)) 1 rfl rfl Hl1.out Hl2.out Hsz.out ?_)
    intro v' w1 hown hg hat
    have hG : Gone w X.n (.slice a L cc) (out ++ [c]) v' w1 := (Gone.grown (w := w.drewN nq) hown (by simp [HL.out]) (by simp [u8s]) hg hat).undrawn
    obtain ⟨r, cap, rfl, _, _⟩ := hown.form (by omega)
    have h1 := H1.out
    have h2 := H2.out
    rw [HL.out] at h1 h2
    have hf := Lib.hid (H.out.put HX.out h1 h2 hG)
    have g1 : w1.frozen? ⟨X.d, 1, none⟩ = false := (h1.only hG.only (fun e => by have := (h2.lt _ e).1; have := HX.out.dn; omega)).frozen 1
    have g0 : w1.cell? ⟨X.d, 1, none⟩ = some (.slice a L cc) := (h1.only hG.only (fun e => by have := (h2.lt _ e).1; have := HX.out.dn; omega)).cell 1
    clear hown hg hat hG h1 h2
    go_wp2_with fail
    go_end0
    exact ⟨rfl, hf.out.1, hf.out.2⟩
theorem run_bits_lt {n : Nat} {q : Nat} {x : Nat × Nat} (h : X.run (Inf.bitsP n) q = .ok x) : x.1 < 2 ^ n := by
  unfold Cx.run Inf.bitsP at h
  split at h
  · injection h with h
    rw [← h]
    exact valB_lt _ _ _
  · cases h
theorem pow16 {n : Nat} (hn : n ≤ 16) : 2 ^ n ≤ 65536 := Nat.le_trans (Nat.pow_le_pow_right (by omega) hn) (by decide)
theorem dext_any (hX : X.Ok) (h : Dec X F out p w) (b n : Nat) (hb : b ≤ 1000000) (hn : n ≤ 16) :
    Calls Try.prog 92 #[.pointer (some ⟨X.d, 0, none⟩), .int .i64 (b : Int), .int .i64 (n : Int)] w (DPost X w (X.run (Inf.bitsP n) p) (fun v => .int .i64 ((b + v : Nat) : Int)) F (fun _ => out)) := by
  have Hb := dbits_any hX h n hn
  cases hR : X.run (Inf.bitsP n) p with
  | error E =>
    rw [hR] at Hb
    have HB := Lib.hid Hb
    clear h hX hR Hb
    go_enter Try.func92, Try.ntmps92
    go_wp2_with fail
    refine HB.out.mono ?_
    rintro e W ⟨rfl, hB⟩
    have HB := Lib.hid hB
    clear hB
    go_wp2_with fail
    exact ⟨rfl, rfl, HB.out⟩
  | ok x =>
    have hx := run_bits_lt hR
    have hp := pow16 hn
    rw [hR] at Hb
    have HB := Lib.hid Hb
    obtain ⟨V, q⟩ := x
    have w1 : wrap64 ((b : Int) + (V : Int)) = (b : Int) + (V : Int) := IntWalk.wrap64_in _ ⟨by omega, by omega⟩
    have w3 : Hid ((b : Int) + (V : Int) = ((b + V : Nat) : Int)) := by show _ = _; omega
    clear h hX hR Hb hx hp
    go_enter Try.func92, Try.ntmps92
    go_wp2_with fail
    refine HB.out.mono ?_
    rintro e W ⟨rfl, hD, hK⟩
    have HD := Lib.hid hD
    have HK := Lib.hid hK
    clear hD hK
    go_wp2_with fail
    go_ret
    exact ⟨ret_int (w1.trans w3.out), HD.out, HK.out⟩
end
end Go.Proofs.Ytngnhkghpnamoaa
