/- InfM -/
import Derived.Test.YtngnhkghpnamoaaInfC
namespace Go.Proofs.Ytngnhkghpnamoaa
open Go.RowKit Huff Bit
set_option linter.unusedVariables false
set_option maxRecDepth 100000

def inflM (bs : List Nat) (most : Nat) : List Nat × Nat × Nat := Inf.doneM (Inf.loopP most Inf.fuel [] (bitOf bs) (8 * bs.length) 0)
def dataZ (bs : List Nat) (m : Int) : List Nat × Nat × Nat := if m < 0 ∨ 1048576 < m then ([], 0, 1) else inflM bs m.toNat
theorem nil_post (w : World) (n : Nat) (e : Ending) (h : e = .returned (.tuple #[.slice none 0 0, .int .i64 0, .int .i64 (n : Int)])) : AllPost w ([], 0, n) e w := ⟨none, 0, h, fun h => absurd h (by simp), fun _ => ⟨rfl, rfl⟩, Nat.le_refl _, Nat.zero_le _, Below.refl _ _⟩
set_option maxHeartbeats 4000000 in
theorem infl_any (a : Option Addr) (c : Nat) (bs : List Nat) (m : Int) (w : World) (hN : Nums .u8 w w.heap.size a bs) (hz : a = none → c = 0 ∧ bs = []) (hlen : bs.length ≤ 4096) (hb : ∀ x ∈ bs, x < 256) :
    Calls Try.prog 27 #[.slice a bs.length c, .int .i64 m] w (AllPost w (dataZ bs m)) := by
  unfold dataZ
  by_cases h0 : m < 0
  · rw [if_pos (.inl h0)]
    have d1 : decide (m < 0) = true := decide_eq_true h0
    clear hN hz hlen hb
    go_enter Try.func27, Try.ntmps27
    go_wp2_with fail
    go_ret3
    exact nil_post _ 1 _ rfl
  · have d1 : decide (m < 0) = false := decide_eq_false h0
    by_cases h1 : 1048576 < m
    · rw [if_pos (.inr h1)]
      have d2 : decide (1048576 < m) = true := decide_eq_true h1
      clear hN hz hlen hb
      go_enter Try.func27, Try.ntmps27
      go_wp2_with fail
      go_ret3
      exact nil_post _ 1 _ rfl
    · rw [if_neg (by omega)]
      have d2 : decide (1048576 < m) = false := decide_eq_false h1
      obtain ⟨M, rfl⟩ : ∃ M : Nat, m = (M : Int) := ⟨m.toNat, by omega⟩
      rw [Int.toNat_natCast]
      have Hall := Lib.hid (all_any a c bs M w hN hz hlen hb (by omega))
      change Hid (Calls _ _ _ _ (AllPost w (inflM bs M))) at Hall
      obtain ⟨R, hR⟩ : ∃ R, inflM bs M = R := ⟨_, rfl⟩
      rw [hR] at Hall ⊢
      obtain ⟨L, hL⟩ : ∃ L, bs.length = L := ⟨_, rfl⟩
      rw [hL] at Hall hlen ⊢
      have d3 : decide ((4096 : Int) < (L : Int)) = false := decide_eq_false (by omega)
      have d4 : decide (4096 < L) = false := decide_eq_false (by omega)
      clear hN hz hb h0 h1 hR hL
      go_enter Try.func27, Try.ntmps27
      go_wp2_with fail
      go_loopw [7] (fun y W => y = .int .i64 4096 ∧ W = w) (fun _ _ => 0)
      case atStart => exact ⟨rfl, rfl⟩
      case round =>
        obtain ⟨rfl, rfl⟩ := hrel
        go_wp2_with fail
        refine Hall.out.mono ?_
        rintro e W2 ⟨a2, c2, rfl, h⟩
        have H := Lib.hid h
        clear h
        go_wp2_with fail
        go_ret3
        exact ⟨a2, c2, rfl, H.out⟩
end Go.Proofs.Ytngnhkghpnamoaa

namespace Go.Proofs.Ytngnhkghpnamoaa
open Huff Bit
set_option linter.unusedVariables false

namespace Inf
/-- No program fails with 0. -/
def NZ {α : Type} (f : Pg α) : Prop := ∀ bt N p, f bt N p ≠ .error 0
theorem NZ.ret {α : Type} (x : α) : NZ (ret x) := fun _ _ _ h => by cases h
theorem NZ.err {α : Type} {e : Nat} (h : e ≠ 0) : NZ (err e : Pg α) := fun _ _ _ k => by injection k with k; exact h k
theorem NZ.bnd {α β : Type} {f : Pg α} {g : α → Pg β} (hf : NZ f) (hg : ∀ a, NZ (g a)) : NZ (bnd f g) := by
  intro bt N p h
  unfold Inf.bnd at h
  cases hfe : f bt N p with
  | error e =>
    rw [hfe] at h
    injection h with h
    subst h
    exact hf _ _ _ hfe
  | ok a =>
    rw [hfe] at h
    exact hg _ _ _ _ h
theorem NZ.need (b : Bool) : NZ (need b) := by
  unfold Inf.need; split
  · exact NZ.ret _
  · exact NZ.err (by omega)
theorem NZ.lift {α : Type} {x : Except Nat α} (h : x ≠ .error 0) : NZ (lift x) := by
  cases x with
  | error e => exact NZ.err (fun e0 => h (by rw [e0]))
  | ok a => exact NZ.ret _
theorem NZ.ite {α : Type} {c : Prop} [Decidable c] {f g : Pg α} (hf : NZ f) (hg : NZ g) : NZ (if c then f else g) := by
  split
  · exact hf
  · exact hg
theorem NZ.bits (n : Nat) : NZ (bitsP n) := by
  intro bt N p h
  unfold bitsP at h
  split at h
  · cases h
  · injection h with h; omega
theorem NZ.sym (l : List Nat) : NZ (symP l) := by
  intro bt N p h
  unfold symP at h
  split at h
  · cases h
  · next h0 => injection h with h; exact h0 h
theorem NZ.align : NZ alignP := fun _ _ _ h => by cases h
theorem putE_nz {m c : Nat} {o : List Nat} : putE m o c ≠ .error 0 := by
  unfold putE
  split
  · intro h; injection h with h; omega
  · intro h; cases h
theorem repE_nz {m d : Nat} : ∀ {k : Nat} {o : List Nat}, repE m d k o ≠ .error 0
  | 0, _ => fun h => by cases h
  | k + 1, o => by
    intro h
    unfold repE at h
    cases hp : putE m o (o.getD (o.length - d) 0) with
    | error e => rw [hp] at h; injection h with h; subst h; exact putE_nz hp
    | ok x => rw [hp] at h; exact repE_nz h
theorem NZ.copy (most : Nat) : ∀ k out, NZ (copyP most k out)
  | 0, out => NZ.ret _
  | k + 1, out => (NZ.bits _).bnd fun c => (NZ.lift putE_nz).bnd fun o => NZ.copy most k o
theorem NZ.stored (most : Nat) (out : List Nat) : NZ (storedP most out) :=
  NZ.align.bnd fun _ => (NZ.bits _).bnd fun n => (NZ.bits _).bnd fun m => (NZ.need _).bnd fun _ => NZ.copy most n out
theorem NZ.far (fars : List Nat) (most : Nat) (out : List Nat) (s : Nat) : NZ (farP fars most out s) :=
  (NZ.need _).bnd fun _ => (NZ.bits _).bnd fun k => (NZ.sym _).bnd fun d => (NZ.need _).bnd fun _ => (NZ.bits _).bnd fun m => (NZ.need _).bnd fun _ => NZ.lift repE_nz
theorem NZ.syms (lits fars : List Nat) (most : Nat) : ∀ f out, NZ (symsP lits fars most f out)
  | 0, _ => NZ.err (by omega)
  | f + 1, out => (NZ.sym _).bnd fun s => NZ.ite (NZ.ret _) (NZ.ite ((NZ.lift putE_nz).bnd fun o => NZ.syms lits fars most f o) ((NZ.far _ _ _ _).bnd fun o => NZ.syms lits fars most f o))
theorem NZ.clen : ∀ r lens, NZ (clenP r lens)
  | [], lens => NZ.ret _
  | s :: r, lens => (NZ.bits _).bnd fun v => NZ.clen r _
theorem NZ.lengthCode : NZ lengthCodeP := (NZ.bits _).bnd fun n => (NZ.clen _ _).bnd fun l => (NZ.need _).bnd fun _ => NZ.ret _
theorem NZ.run (c before : List Nat) : NZ (runP c before) := (NZ.sym _).bnd fun s =>
  NZ.ite ((NZ.need _).bnd fun _ => (NZ.bits _).bnd fun k => NZ.ret _) (NZ.ite ((NZ.bits _).bnd fun k => NZ.ret _) (NZ.ite ((NZ.bits _).bnd fun k => NZ.ret _) (NZ.ret _)))
theorem NZ.lens (c : List Nat) (n : Nat) : ∀ f l, NZ (lensP c n f l)
  | 0, _ => NZ.err (by omega)
  | f + 1, l => NZ.ite (NZ.ret _) ((NZ.run _ _).bnd fun r => (NZ.need _).bnd fun _ => NZ.lens c n f _)
theorem NZ.dyn : NZ dynP := (NZ.bits _).bnd fun a => (NZ.bits _).bnd fun b => (NZ.need _).bnd fun _ => NZ.lengthCode.bnd fun c => (NZ.lens _ _ _ _).bnd fun l =>
  (NZ.need _).bnd fun _ => (NZ.need _).bnd fun _ => (NZ.need _).bnd fun _ => NZ.ret _
theorem NZ.kind (most : Nat) (out : List Nat) (k : Nat) : NZ (kindP most out k) :=
  NZ.ite (NZ.stored _ _) (NZ.ite (NZ.syms _ _ _ _ _) (NZ.ite (NZ.dyn.bnd fun c => NZ.syms _ _ _ _ _) (NZ.err (by omega))))
theorem NZ.loop (most : Nat) : ∀ f out, NZ (loopP most f out)
  | 0, _ => NZ.err (by omega)
  | f + 1, out => ((NZ.bits _).bnd fun last => (NZ.bits _).bnd fun k => (NZ.kind _ _ _).bnd fun o => NZ.ret _).bnd fun r => NZ.ite (NZ.ret _) (NZ.loop most f r.2)
/-- What f makes is so. -/
def Sat {α : Type} (f : Pg α) (φ : α → Prop) : Prop := ∀ bt N p x q, (∀ i, bt i < 2) → f bt N p = .ok (x, q) → φ x
theorem Sat.any {α : Type} (f : Pg α) : Sat f fun _ => True := fun _ _ _ _ _ _ _ => trivial
theorem Sat.ret {α : Type} {φ : α → Prop} {x : α} (h : φ x) : Sat (ret x) φ := fun _ _ _ _ _ _ k => by
  injection k with k
  injection k with k1 k2
  rw [← k1]; exact h
theorem Sat.err {α : Type} {φ : α → Prop} (e : Nat) : Sat (err e : Pg α) φ := fun _ _ _ _ _ _ k => by cases k
theorem Sat.bnd {α β : Type} {f : Pg α} {g : α → Pg β} {φ : α → Prop} {ψ : β → Prop} (hf : Sat f φ) (hg : ∀ a, φ a → Sat (g a) ψ) : Sat (bnd f g) ψ := by
  intro bt N p x q hb h
  unfold Inf.bnd at h
  cases hfe : f bt N p with
  | error e => rw [hfe] at h; cases h
  | ok a =>
    rw [hfe] at h
    exact hg a.1 (hf bt N p a.1 a.2 hb hfe) bt N a.2 x q hb h
theorem Sat.ite {α : Type} {c : Prop} [Decidable c] {f g : Pg α} {φ : α → Prop} (hf : c → Sat f φ) (hg : ¬ c → Sat g φ) : Sat (if c then f else g) φ := by
  split
  · next h => exact hf h
  · next h => exact hg h
theorem Sat.lift {α : Type} {x : Except Nat α} {φ : α → Prop} (h : ∀ a, x = .ok a → φ a) : Sat (lift x) φ := by
  cases x with
  | error e => exact Sat.err e
  | ok a => exact Sat.ret (h a rfl)
theorem valB_pow {bt : Nat → Nat} (hb : ∀ i, bt i < 2) (p : Nat) : ∀ n, valB bt p n < 2 ^ n
  | 0 => by show 0 < 1; omega
  | n + 1 => by
    have h1 := valB_pow hb p n
    have h2 : bt (p + n) * 2 ^ n ≤ 1 * 2 ^ n := Nat.mul_le_mul_right _ (by have := hb (p + n); omega)
    show valB bt p n + bt (p + n) * 2 ^ n < 2 ^ (n + 1)
    rw [Nat.pow_succ]
    omega
theorem Sat.bits (n : Nat) : Sat (bitsP n) fun v => v < 2 ^ n := by
  intro bt N p x q hb h
  unfold bitsP at h
  split at h
  · injection h with h
    injection h with h1 h2
    rw [← h1]
    exact valB_pow hb p n
  · cases h
def O256 (o : List Nat) : Prop := ∀ x ∈ o, x < 256
theorem put256 {m c : Nat} {o o' : List Nat} (h : O256 o) (hc : c < 256) (hp : putE m o c = .ok o') : O256 o' := by
  unfold putE at hp
  split at hp
  · cases hp
  · injection hp with hp
    subst hp
    intro x hx
    rcases List.mem_append.1 hx with hx | hx
    · exact h x hx
    · rw [List.mem_singleton] at hx; omega
theorem rep256 {m d : Nat} : ∀ {k : Nat} {o o' : List Nat}, O256 o → repE m d k o = .ok o' → O256 o'
  | 0, o, o', h, hr => by injection hr with hr; subst hr; exact h
  | k + 1, o, o', h, hr => by
    unfold repE at hr
    cases hp : putE m o (o.getD (o.length - d) 0) with
    | error e => rw [hp] at hr; cases hr
    | ok x =>
      rw [hp] at hr
      refine rep256 (put256 h ?_ hp) hr
      rw [List.getD_eq_getElem?_getD]
      cases hg : o[o.length - d]? with
      | none => show 0 < 256; omega
      | some y => exact h y (List.mem_of_getElem? hg)
theorem Sat.copy (most : Nat) : ∀ k out, O256 out → Sat (copyP most k out) O256
  | 0, out, h => Sat.ret h
  | k + 1, out, h => (Sat.bits 8).bnd fun c hc => (Sat.lift fun a ha => put256 h hc ha).bnd fun o ho => Sat.copy most k o ho
theorem Sat.stored (most : Nat) (out : List Nat) (h : O256 out) : Sat (storedP most out) O256 :=
  (Sat.any _).bnd fun _ _ => (Sat.any _).bnd fun n _ => (Sat.any _).bnd fun m _ => (Sat.any _).bnd fun _ _ => Sat.copy most n out h
theorem Sat.far (fars : List Nat) (most : Nat) (out : List Nat) (s : Nat) (h : O256 out) : Sat (farP fars most out s) O256 :=
  (Sat.any _).bnd fun _ _ => (Sat.any _).bnd fun k _ => (Sat.any _).bnd fun d _ => (Sat.any _).bnd fun _ _ => (Sat.any _).bnd fun m _ => (Sat.any _).bnd fun _ _ => Sat.lift fun a ha => rep256 h ha
theorem Sat.syms (lits fars : List Nat) (most : Nat) : ∀ f out, O256 out → Sat (symsP lits fars most f out) O256
  | 0, _, _ => Sat.err _
  | f + 1, out, h => (Sat.any _).bnd fun s _ => Sat.ite (fun _ => Sat.ret h) fun _ => Sat.ite (fun hs => (Sat.lift fun a ha => put256 h hs ha).bnd fun o ho => Sat.syms lits fars most f o ho)
      fun _ => (Sat.far _ _ _ _ h).bnd fun o ho => Sat.syms lits fars most f o ho
theorem Sat.kind (most : Nat) (out : List Nat) (k : Nat) (h : O256 out) : Sat (kindP most out k) O256 :=
  Sat.ite (fun _ => Sat.stored _ _ h) fun _ => Sat.ite (fun _ => Sat.syms _ _ _ _ _ h) fun _ => Sat.ite (fun _ => (Sat.any _).bnd fun c _ => Sat.syms _ _ _ _ _ h) fun _ => Sat.err _
theorem Sat.loop (most : Nat) : ∀ f out, O256 out → Sat (loopP most f out) O256
  | 0, _, _ => Sat.err _
  | f + 1, out, h => (show Sat (blockP most out) (fun r => O256 r.2) from (Sat.any _).bnd fun la _ => (Sat.any _).bnd fun k _ => (Sat.kind most out k h).bnd fun o ho => Sat.ret ho).bnd fun r hr => Sat.ite (fun _ => Sat.ret hr) fun _ => Sat.loop most f r.2 hr
end Inf
theorem infl_256 (bs : List Nat) (M : Nat) : ∀ x ∈ (inflM bs M).1, x < 256 := by
  unfold inflM
  cases hR : Inf.loopP M Inf.fuel [] (bitOf bs) (8 * bs.length) 0 with
  | error E => intro x hx; cases hx
  | ok y => exact Inf.Sat.loop M Inf.fuel [] (fun x hx => by cases hx) (bitOf bs) (8 * bs.length) 0 y.1 y.2 (bitOf_lt bs) hR

theorem bitOf_same {bs bs' : List Nat} {q : Nat} (h : bs'.getD (q / 8) 0 = bs.getD (q / 8) 0) : bitOf bs' q = bitOf bs q := by unfold bitOf; rw [h]
/-- What was unpacked, or why not. -/
theorem infl_cases (bs : List Nat) (M : Nat) : (∃ E, E ≠ 0 ∧ inflM bs M = ([], 0, E)) ∨ ∃ o u, inflM bs M = (o, u, 0) ∧ 1 ≤ u ∧ u ≤ bs.length ∧
    ∀ bs' : List Nat, (∀ i, i < u → i < bs'.length → bs'.getD i 0 = bs.getD i 0) → (u ≤ bs'.length → inflM bs' M = (o, u, 0)) ∧ (bs'.length < u → inflM bs' M = ([], 0, 2)) := by
  unfold inflM
  cases hR : Inf.loopP M Inf.fuel [] (bitOf bs) (8 * bs.length) 0 with
  | error E => exact .inl ⟨E, fun e => Inf.NZ.loop M Inf.fuel [] _ _ _ (by rw [hR, e]), rfl⟩
  | ok x =>
    obtain ⟨o, q⟩ := x
    refine .inr ⟨o, (q + 7) / 8, rfl, ?_⟩
    obtain ⟨h1, h2, h3⟩ := Inf.Stable.loop M Inf.fuel [] (bitOf bs) (8 * bs.length) 0 o q (Nat.zero_le _) ⟨_, rfl⟩ hR
    have hq : 1 ≤ q := by
      obtain ⟨X, hX⟩ : ∃ X : Cx, X = { B := 0, n := 0, d := 0, r := 0, a := none, c := 0, bs := bs, most := M } := ⟨_, rfl⟩
      have hR2 : X.run (Inf.loopP M Inf.fuel []) 0 = .ok (o, q) := by rw [hX]; exact hR
      have hR3 : X.run (Inf.loopP M (39999 + 1) []) 0 = .ok (o, q) := hR2
      unfold Inf.loopP at hR3
      cases hb : X.run (Inf.blockP M []) 0 with
      | error E => rw [run_err hb] at hR3; cases hR3
      | ok y =>
        obtain ⟨r, q1⟩ := y
        have h5 := run_block_at hb
        simp only at h5
        rw [run_ok hb] at hR3
        have h6 := (Inf.Stable.ite (c := r.1 = 1) (Inf.Stable.ret r.2) (Inf.Stable.loop M 39999 r.2)) (bitOf X.bs) (8 * X.bs.length) q1 o q (by omega) ⟨_, rfl⟩ hR3
        have := h6.1
        omega
    refine ⟨by omega, by omega, fun bs' hs => ?_⟩
    have hb : ∀ i, i < q → i < 8 * bs'.length → bitOf bs' i = bitOf bs i := fun i hi hi' => bitOf_same (hs (i / 8) (by omega) (by omega))
    obtain ⟨h5, h6⟩ := h3 (bitOf bs') (8 * bs'.length) (Nat.zero_le _) ⟨_, rfl⟩ hb
    refine ⟨fun hu => ?_, fun hu => ?_⟩
    · rw [h5 (by omega)]; rfl
    · rw [h6 (by omega)]; rfl
end Go.Proofs.Ytngnhkghpnamoaa
