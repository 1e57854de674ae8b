/- Layer 4: what inflate reads, plainly: programs over bits. -/
import Derived.Test.YtfbfflgffibjbaaHuffScan
import Derived.Test.YtfbfflgffibjbaaDefMath
namespace Go.Proofs.Ytfbfflgffibjbaa
namespace Inf
open Huff
set_option linter.unusedVariables false

/-- A program over the bits bt, of which there are N, from a place on: what it makes, and the place behind. -/
abbrev Pg (α : Type) := (Nat → Nat) → Nat → Nat → Except Nat (α × Nat)
def ret {α : Type} (x : α) : Pg α := fun _ _ p => .ok (x, p)
def err {α : Type} (e : Nat) : Pg α := fun _ _ _ => .error e
def bnd {α β : Type} (f : Pg α) (g : α → Pg β) : Pg β := fun bt N p =>
  match f bt N p with
  | .ok a => g a.1 bt N a.2
  | .error e => .error e
def need (b : Bool) : Pg Unit := if b then ret () else err 3
def valB (bt : Nat → Nat) (p : Nat) : Nat → Nat
  | 0 => 0
  | k + 1 => valB bt p k + bt (p + k) * 2 ^ k
def bitsP (n : Nat) : Pg Nat := fun bt N p => if p + n ≤ N then .ok (valB bt p n, p + n) else .error 2
def symP (l : List Nat) : Pg Nat := fun bt N p => if (scan l bt N p 15 0 0).2.2 = 0 then .ok ((scan l bt N p 15 0 0).1, (scan l bt N p 15 0 0).2.1) else .error (scan l bt N p 15 0 0).2.2
def alignP : Pg Unit := fun _ _ p => .ok ((), (p + 7) / 8 * 8)
def lift {α : Type} (x : Except Nat α) : Pg α :=
  match x with
  | .ok a => ret a
  | .error e => err e
def putE (most : Nat) (out : List Nat) (c : Nat) : Except Nat (List Nat) := if most ≤ out.length then .error 5 else .ok (out ++ [c])
def copyP (most : Nat) : Nat → List Nat → Pg (List Nat)
  | 0, out => ret out
  | k + 1, out => bnd (bitsP 8) fun c => bnd (lift (putE most out c)) fun o => copyP most k o
def repE (most d : Nat) : Nat → List Nat → Except Nat (List Nat)
  | 0, out => .ok out
  | k + 1, out =>
    match putE most out (out.getD (out.length - d) 0) with
    | .ok o => repE most d k o
    | .error e => .error e
def storedP (most : Nat) (out : List Nat) : Pg (List Nat) :=
  bnd alignP fun _ => bnd (bitsP 16) fun n => bnd (bitsP 16) fun m => bnd (need (decide (m + n = 65535))) fun _ => copyP most n out
/-- What a symbol beyond 256 means. -/
def farP (fars : List Nat) (most : Nat) (out : List Nat) (s : Nat) : Pg (List Nat) :=
  bnd (need (decide (s ≤ 285))) fun _ => bnd (bitsP (lenX (s - 257))) fun k => bnd (symP fars) fun d => bnd (need (decide (d ≤ 29))) fun _ =>
    bnd (bitsP (farX d)) fun m => bnd (need (decide (farB d + m ≤ out.length))) fun _ => lift (repE most (farB d + m) (lenB (s - 257) + k) out)
def symsP (lits fars : List Nat) (most : Nat) : Nat → List Nat → Pg (List Nat)
  | 0, _ => err 77
  | f + 1, out => bnd (symP lits) fun s =>
    if s = 256 then ret out
    else if s < 256 then bnd (lift (putE most out s)) fun o => symsP lits fars most f o
    else bnd (farP fars most out s) fun o => symsP lits fars most f o
def order : List Nat := [16, 17, 18, 0, 8, 7, 9, 6, 10, 5, 11, 4, 12, 3, 13, 2, 14, 1, 15]
def clenP : List Nat → List Nat → Pg (List Nat)
  | [], lens => ret lens
  | s :: r, lens => bnd (bitsP 3) fun v => clenP r (lens.set s v)
/-- Whether the lengths make a code. -/
def codeB (l : List Nat) (short : Bool) : Bool := errOf (l.map fun n : Nat => (n : Int)) short == 0
def lengthCodeP : Pg (List Nat) := bnd (bitsP 4) fun n => bnd (clenP (order.take (n + 4)) (List.replicate 19 0)) fun l => bnd (need (codeB l false)) fun _ => ret l
def runP (c before : List Nat) : Pg (Nat × Nat) := bnd (symP c) fun s =>
  if s = 16 then bnd (need (decide (0 < before.length))) fun _ => bnd (bitsP 2) fun k => ret (before.getD (before.length - 1) 0, 3 + k)
  else if s = 17 then bnd (bitsP 3) fun k => ret (0, 3 + k)
  else if s = 18 then bnd (bitsP 7) fun k => ret (0, 11 + k)
  else ret (s, 1)
def lensP (c : List Nat) (n : Nat) : Nat → List Nat → Pg (List Nat)
  | 0, _ => err 77
  | f + 1, l => if n ≤ l.length then ret l else
    bnd (runP c l) fun r => bnd (need (decide (l.length + r.2 ≤ n))) fun _ => lensP c n f (l ++ List.replicate r.2 r.1)
def dynP : Pg (List Nat × List Nat) := bnd (bitsP 5) fun a => bnd (bitsP 5) fun b => bnd (need (decide (a + 257 ≤ 286) && decide (b + 1 ≤ 30))) fun _ =>
  bnd lengthCodeP fun c => bnd (lensP c (a + 257 + (b + 1)) 400 []) fun l => bnd (need (decide (0 < l.getD 256 0))) fun _ =>
    bnd (need (codeB (l.take (a + 257)) false)) fun _ => bnd (need (codeB (l.drop (a + 257)) true)) fun _ => ret (l.take (a + 257), l.drop (a + 257))
def fixLits : List Nat := (List.range 288).map fun n => if n < 144 then 8 else if n < 256 then 9 else if n < 280 then 7 else 8
def fixFars : List Nat := List.replicate 32 5
/-- No input has more bits than that. -/
def fuel : Nat := 40000
def kindP (most : Nat) (out : List Nat) (k : Nat) : Pg (List Nat) :=
  if k = 0 then storedP most out
  else if k = 1 then symsP fixLits fixFars most fuel out
  else if k = 2 then bnd dynP fun c => symsP c.1 c.2 most fuel out
  else err 3
def blockP (most : Nat) (out : List Nat) : Pg (Nat × List Nat) := bnd (bitsP 1) fun last => bnd (bitsP 2) fun k => bnd (kindP most out k) fun o => ret (last, o)
def loopP (most : Nat) : Nat → List Nat → Pg (List Nat)
  | 0, _ => err 77
  | f + 1, out => bnd (blockP most out) fun r => if r.1 = 1 then ret r.2 else loopP most f r.2
def doneM : Except Nat (List Nat × Nat) → List Nat × Nat × Nat
  | .ok a => (a.1, (a.2 + 7) / 8, 0)
  | .error e => ([], 0, e)

/-! What was read is read again wherever the same bits stand, and too few of them are too short. -/
def Stable {α : Type} (f : Pg α) : Prop := ∀ bt N p x q, p ≤ N → 8 ∣ N → f bt N p = .ok (x, q) → p ≤ q ∧ q ≤ N ∧
  ∀ bt' N', p ≤ N' → 8 ∣ N' → (∀ i, i < q → i < N' → bt' i = bt i) → (q ≤ N' → f bt' N' p = .ok (x, q)) ∧ (N' < q → f bt' N' p = .error 2)
theorem Stable.ret {α : Type} (x : α) : Stable (ret x) := by
  intro bt N p y q hp h8 h
  injection h with h
  injection h with h1 h2
  subst h1; subst h2
  exact ⟨Nat.le_refl _, hp, fun bt' N' hp' _ _ => ⟨fun _ => rfl, fun h => by omega⟩⟩
theorem Stable.err {α : Type} (e : Nat) : Stable (err e : Pg α) := by
  intro bt N p y q hp h8 h
  cases h
theorem Stable.bnd {α β : Type} {f : Pg α} {g : α → Pg β} (hf : Stable f) (hg : ∀ a, Stable (g a)) : Stable (bnd f g) := by
  intro bt N p y q hp h8 h
  cases hfe : f bt N p with
  | error e => simp only [Inf.bnd, hfe] at h; cases h
  | ok a =>
    obtain ⟨x, q1⟩ := a
    simp only [Inf.bnd, hfe] at h
    obtain ⟨h1, h2, h3⟩ := hf bt N p x q1 hp h8 hfe
    obtain ⟨h4, h5, h6⟩ := hg x bt N q1 y q h2 h8 h
    refine ⟨by omega, h5, fun bt' N' hp' h8' hb => ?_⟩
    obtain ⟨h7, h9⟩ := h3 bt' N' hp' h8' (fun i hi hi' => hb i (by omega) hi')
    by_cases hq : q1 ≤ N'
    · have h10 := h7 hq
      obtain ⟨h11, h12⟩ := h6 bt' N' hq h8' hb
      refine ⟨fun hh => ?_, fun hh => ?_⟩
      · simp only [Inf.bnd, h10]; exact h11 hh
      · simp only [Inf.bnd, h10]; exact h12 hh
    · refine ⟨fun hh => by omega, fun hh => ?_⟩
      simp only [Inf.bnd, h9 (by omega)]
theorem Stable.need (b : Bool) : Stable (need b) := by
  unfold Inf.need; split
  · exact Stable.ret _
  · exact Stable.err _
theorem Stable.lift {α : Type} (x : Except Nat α) : Stable (lift x) := by
  cases x
  · exact Stable.err _
  · exact Stable.ret _
theorem Stable.ite {α : Type} {c : Prop} [Decidable c] {f g : Pg α} (hf : Stable f) (hg : Stable g) : Stable (if c then f else g) := by
  split
  · exact hf
  · exact hg
theorem valB_congr {bt bt' : Nat → Nat} {p : Nat} : ∀ n, (∀ i, i < p + n → bt' i = bt i) → valB bt' p n = valB bt p n
  | 0, _ => rfl
  | n + 1, h => by
    show valB bt' p n + bt' (p + n) * 2 ^ n = _
    rw [valB_congr n (fun i hi => h i (by omega)), h (p + n) (by omega)]
    rfl
theorem Stable.bits (n : Nat) : Stable (bitsP n) := by
  intro bt N p y q hp h8 h
  unfold bitsP at h
  split at h
  · next hN =>
    injection h with h
    injection h with h1 h2
    subst h1; subst h2
    refine ⟨by omega, hN, fun bt' N' hp' _ hb => ⟨fun hq => ?_, fun hq => ?_⟩⟩
    · unfold bitsP
      rw [if_pos hq, valB_congr n (fun i hi => hb i hi (by omega))]
    · unfold bitsP
      rw [if_neg (by omega)]
  · cases h
theorem Stable.align : Stable alignP := by
  intro bt N p y q hp h8 h
  injection h with h
  injection h with h1 h2
  subst h2
  refine ⟨by omega, by omega, fun bt' N' hp' h8' hb => ⟨fun hq => rfl, fun hq => by omega⟩⟩
theorem scan_stable (l : List Nat) (bt : Nat → Nat) (N p : Nat) : ∀ f k v, p + k ≤ N → (scan l bt N p f k v).2.2 = 0 → ∀ bt' N', p + k ≤ N' → (∀ i, i < (scan l bt N p f k v).2.1 → i < N' → bt' i = bt i) →
    ((scan l bt N p f k v).2.1 ≤ N' → scan l bt' N' p f k v = scan l bt N p f k v) ∧ (N' < (scan l bt N p f k v).2.1 → (scan l bt' N' p f k v).2.2 = 2)
  | 0, k, v, _, h, _, _, _, _ => by cases h
  | f + 1, k, v, hk, h, bt', N', hk', hb => by
    by_cases hN : N ≤ p + k
    · rw [scan_short hN] at h; cases h
    · by_cases hN' : N' ≤ p + k
      · rw [scan_short hN']
        refine ⟨fun hq => ?_, fun _ => rfl⟩
        exfalso
        cases hh : hit l (k + 1) (2 * v + bt (p + k)) with
        | some s => rw [scan_hit hN hh] at hq; simp only at hq; omega
        | none =>
          rw [scan_miss hN hh] at hq
          have := (scan_at l bt N p f (k + 1) (2 * v + bt (p + k)) (by omega)).1
          omega
      · cases hh : hit l (k + 1) (2 * v + bt (p + k)) with
        | some s =>
          rw [scan_hit hN hh] at hb ⊢
          simp only at hb
          have e := hb (p + k) (by omega) (by omega)
          rw [scan_hit hN' (by rw [e]; exact hh)]
          exact ⟨fun _ => rfl, fun hq => by simp only at hq; omega⟩
        | none =>
          rw [scan_miss hN hh] at hb h ⊢
          have h1 := (scan_at l bt N p f (k + 1) (2 * v + bt (p + k)) (by omega)).1
          have e := hb (p + k) (by omega) (by omega)
          rw [scan_miss hN' (by rw [e]; exact hh), e]
          exact scan_stable l bt N p f (k + 1) _ (by omega) h bt' N' (by omega) hb
theorem Stable.sym (l : List Nat) : Stable (symP l) := by
  intro bt N p y q hp h8 h
  unfold symP at h
  split at h
  · next h0 =>
    injection h with h
    injection h with h1 h2
    have ha := scan_at l bt N p 15 0 0 hp
    have hs := scan_stable l bt N p 15 0 0 hp h0
    rw [h2] at ha hs
    refine ⟨ha.1, ha.2, fun bt' N' hp' _ hb => ?_⟩
    obtain ⟨h3, h4⟩ := hs bt' N' hp' hb
    refine ⟨fun hq => ?_, fun hq => ?_⟩
    · unfold symP
      rw [h3 hq, if_pos h0, h1, h2]
    · unfold symP
      rw [h4 hq, if_neg (by omega)]
  · cases h
theorem Stable.copy (most : Nat) : ∀ k out, Stable (copyP most k out)
  | 0, out => Stable.ret _
  | k + 1, out => (Stable.bits _).bnd fun c => (Stable.lift _).bnd fun o => Stable.copy most k o
theorem Stable.stored (most : Nat) (out : List Nat) : Stable (storedP most out) :=
  Stable.align.bnd fun _ => (Stable.bits _).bnd fun n => (Stable.bits _).bnd fun m => (Stable.need _).bnd fun _ => Stable.copy most n out
theorem Stable.far (fars : List Nat) (most : Nat) (out : List Nat) (s : Nat) : Stable (farP fars most out s) :=
  (Stable.need _).bnd fun _ => (Stable.bits _).bnd fun k => (Stable.sym _).bnd fun d => (Stable.need _).bnd fun _ => (Stable.bits _).bnd fun m => (Stable.need _).bnd fun _ => Stable.lift _
theorem Stable.syms (lits fars : List Nat) (most : Nat) : ∀ f out, Stable (symsP lits fars most f out)
  | 0, _ => Stable.err _
  | f + 1, out => (Stable.sym _).bnd fun s => Stable.ite (Stable.ret _) (Stable.ite ((Stable.lift _).bnd fun o => Stable.syms lits fars most f o) ((Stable.far _ _ _ _).bnd fun o => Stable.syms lits fars most f o))
theorem Stable.clen : ∀ r lens, Stable (clenP r lens)
  | [], lens => Stable.ret _
  | s :: r, lens => (Stable.bits _).bnd fun v => Stable.clen r _
theorem Stable.lengthCode : Stable lengthCodeP := (Stable.bits _).bnd fun n => (Stable.clen _ _).bnd fun l => (Stable.need _).bnd fun _ => Stable.ret _
theorem Stable.run (c before : List Nat) : Stable (runP c before) := (Stable.sym _).bnd fun s =>
  Stable.ite ((Stable.need _).bnd fun _ => (Stable.bits _).bnd fun k => Stable.ret _) (Stable.ite ((Stable.bits _).bnd fun k => Stable.ret _) (Stable.ite ((Stable.bits _).bnd fun k => Stable.ret _) (Stable.ret _)))
theorem Stable.lens (c : List Nat) (n : Nat) : ∀ f l, Stable (lensP c n f l)
  | 0, _ => Stable.err _
  | f + 1, l => Stable.ite (Stable.ret _) ((Stable.run _ _).bnd fun r => (Stable.need _).bnd fun _ => Stable.lens c n f _)
theorem Stable.dyn : Stable dynP := (Stable.bits _).bnd fun a => (Stable.bits _).bnd fun b => (Stable.need _).bnd fun _ => Stable.lengthCode.bnd fun c => (Stable.lens _ _ _ _).bnd fun l =>
  (Stable.need _).bnd fun _ => (Stable.need _).bnd fun _ => (Stable.need _).bnd fun _ => Stable.ret _
theorem Stable.kind (most : Nat) (out : List Nat) (k : Nat) : Stable (kindP most out k) :=
  Stable.ite (Stable.stored _ _) (Stable.ite (Stable.syms _ _ _ _ _) (Stable.ite (Stable.dyn.bnd fun c => Stable.syms _ _ _ _ _) (Stable.err _)))
theorem Stable.block (most : Nat) (out : List Nat) : Stable (blockP most out) := (Stable.bits _).bnd fun last => (Stable.bits _).bnd fun k => (Stable.kind _ _ _).bnd fun o => Stable.ret _
theorem Stable.loop (most : Nat) : ∀ f out, Stable (loopP most f out)
  | 0, _ => Stable.err _
  | f + 1, out => (Stable.block _ _).bnd fun r => Stable.ite (Stable.ret _) (Stable.loop most f r.2)
end Inf
end Go.Proofs.Ytfbfflgffibjbaa
