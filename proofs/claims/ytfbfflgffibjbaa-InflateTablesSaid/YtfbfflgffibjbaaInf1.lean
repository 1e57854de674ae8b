/- Layer 4: the decoder under way; what its calls leave alone; a code's symbol is read. -/
import Derived.Test.YtfbfflgffibjbaaInf0
import Derived.Test.YtfbfflgffibjbaaHuffRd
namespace Go.Proofs.Ytfbfflgffibjbaa
open Go.RowKit Huff Bit
set_option linter.unusedVariables false
set_option maxRecDepth 100000

set_option maxHeartbeats 8000000 in
theorem read_gen (g gr p c : Nat) (a : Option Addr) (bs l : List Nat) (w : World) (hK : ∀ W, Only (fun b => b = gr) w W → CodeAt W (g + 1) g l) (hRd : Rd w gr a c bs p) (hbl : bs.length ≤ 1000000) (hbd : ∀ x ∈ bs, x < 256) (hl : l.length ≤ 288) (hp : p ≤ 8 * bs.length)
    (R : Nat × Nat × Nat) (hR : scan l (bitOf bs) (8 * bs.length) p 15 0 0 = R) :
    Calls Try.prog 42 #[.pointer (some ⟨g, 0, none⟩), .pointer (some ⟨gr, 0, none⟩)] w (ReadPost w gr a c bs R) := by
  have HK := Lib.hid hK
  have HR0 : Hid (Rd w gr a c bs (p + 0)) := hRd
  have Hs0 : Hid (scan l (bitOf bs) (8 * bs.length) p 15 0 0 = R) := hR
  have Hbits := Lib.hid fun W q (h : Rd W gr a c bs q) (hq : q + 1 ≤ 8 * bs.length) => bits_any gr a c bs q 1 W h hbl hbd (by omega) hq
  have Hsh := Lib.hid fun W q (h : Rd W gr a c bs q) (hq : q ≤ 8 * bs.length) (hs : 8 * bs.length - q < 1) => rbits_short gr a c bs q 1 W h hbl (by omega) hq hs
  have Hnx : Hid (∀ n, 1 ≤ n → n ≤ 15 → fst l n < 30000000 ∧ (syms l n).length ≤ 288) := fun n h1 h2 => by
    have := nxt_lt l hl (n - 1) (by omega)
    exact ⟨by unfold fst; omega, Nat.le_trans (syms_len l n) hl⟩
  have Hbt : Hid (∀ q, bitOf bs q < 2) := bitOf_lt bs
  obtain ⟨N, hN⟩ : ∃ N, N = 8 * bs.length := ⟨_, rfl⟩
  rw [← hN] at Hs0 Hbits Hsh hp
  have HpN : Hid (p ≤ N) := hp
  clear hK hRd hR hbl hbd hN hp
  go_enter Try.func42, Try.ntmps42
  go_wp2_with fail
  go_loopw [6, 7] (fun x y W => ∃ (k n v : Nat), n = k + 1 ∧ n ≤ 16 ∧ y = .int .i64 (n : Int) ∧ x = .int .u32 (v : Int) ∧ v < 2 ^ k ∧ Hid (Rd W gr a c bs (p + k)) ∧ Hid (Only (fun b => b = gr) w W) ∧ Hid (scan l (bitOf bs) N p (15 - k) k v = R) ∧ Hid (p + k ≤ N)) (fun _ y _ => 16 - (intOf y).toNat)
  case atStart => exact ⟨0, 1, 0, rfl, by omega, rfl, rfl, by decide, HR0, Only.refl _ _, Hs0, HpN⟩
  case round =>
    obtain ⟨k, n, v, hkn, hn16, rfl, rfl, hv, HR, HO, HS, HP⟩ := hrel
    have hk : k ≤ 15 := by omega
    have Hkn := Lib.hid hkn
    clear HR0 Hs0
    by_cases hlt : k < 15
    · have d1 : decide ((n : Int) ≤ 15) = true := decide_eq_true (by omega)
      have d2 : decide (n ≤ 15) = true := decide_eq_true (by omega)
      by_cases hN : N ≤ p + k
      · have hsc := HS.out
        obtain ⟨f, hf⟩ : ∃ f, 15 - k = f + 1 := ⟨14 - k, by omega⟩
        rw [hf, scan_short hN] at hsc
        subst hsc
        have Hq := Lib.hid (Hsh.out wr (p + k) HR.out HP.out (by omega))
        clear hN hf hlt hv hkn
        go_wp2_with fail
        refine Hq.out.mono ?_
        rintro e Y ⟨rfl, hB⟩
        have HR2 := Lib.hid (HR.out.below hB)
        have HO2 : Hid (Only (fun b => b = gr) w Y) := HO.out.trans (Only.of_below hB _) (fun _ _ h => h)
        clear hB
        go_wp2_with fail
        go_ret2
        exact ⟨rfl, HR2.out, HO2.out⟩
      · have Hq := Lib.hid (Hbits.out wr (p + k) HR.out (by omega))
        unfold BitsPost at Hq
        have hb2 := Hbt.out (p + k)
        have hsc := HS.out
        obtain ⟨f, hf⟩ : ∃ f, 15 - k = f + 1 := ⟨14 - k, by omega⟩
        rw [hf] at hsc
        have hval : valOf bs (p + k) 1 = bitOf bs (p + k) := by show 0 + bitOf bs (p + k + 0) * 2 ^ 0 = _; simp
        rw [hval] at Hq
        have hmiss := fun h => (scan_miss (l := l) (bt := bitOf bs) (f := f) (v := v) hN h).symm.trans hsc
        have hhit := fun s h => (scan_hit (s := s) (l := l) (bt := bitOf bs) (f := f) (v := v) hN h).symm.trans hsc
        generalize bitOf bs (p + k) = b at *
        have hpw : 2 ^ k ≤ 2 ^ 14 := Nat.pow_le_pow_right (by omega) (by omega)
        have hv2 : 2 * v + b < 2 ^ (k + 1) := by rw [Nat.pow_succ]; omega
        have w1 : IntKind.u32.wrap ((v : Int) * 2) = ((2 * v : Nat) : Int) := by rw [IntWalk.u32_in _ ⟨by omega, by omega⟩]; omega
        have w1' : (v : Int) * 2 = ((2 * v : Nat) : Int) := by omega
        have w2 : bits .or .u32 ((2 * v : Nat) : Int) (b : Int) = ((2 * v + b : Nat) : Int) := by rw [u32_or_nat _ _ (by omega) (by omega), or_bit v b hb2]
        obtain ⟨z, hz⟩ : ∃ z, 2 * v = z := ⟨_, rfl⟩
        obtain ⟨u, hu⟩ : ∃ u, 2 * v + b = u := ⟨_, rfl⟩
        rw [hu] at w2 hv2 hmiss hhit
        rw [hz] at w1 w1' w2
        have hul : u < 100000 := by omega
        have w3 : (z : Int) % 4294967296 = (z : Int) := by omega
        have Hmiss := Lib.hid hmiss
        have Hhit := Lib.hid hhit
        have Hf := Lib.hid hf
        have HNk : Hid (p + k + 1 ≤ N) := by show _ ≤ _; omega
        have Hv2 : Hid (u < 2 ^ (k + 1)) := hv2
        clear hsc hval hmiss hhit hz hu hf hN hv hv2 hpw hb2 hkn
        go_wp2_with fail
        refine Hq.out.mono ?_
        rintro e Y ⟨rfl, hR2, hO2⟩
        have HR2 := Lib.hid hR2
        have HO2 : Hid (Only (fun b => b = gr) w Y) := HO.out.trans hO2 (fun _ _ h => h)
        have HKY := HK.out Y HO2.out
        obtain ⟨ga, gcc, c0, c1, hNs⟩ := HKY.group (n := k + 1) (by omega) (by omega)
        obtain ⟨n1, n2⟩ := Hnx.out (k + 1) (by omega) (by omega)
        obtain ⟨H, hH⟩ : ∃ H, hit l (k + 1) u = H := ⟨_, rfl⟩
        have Hfd := Lib.hid (find_any (fst l (k + 1)) u gcc ga (syms l (k + 1)) Y hNs (by omega) (by omega) (by omega) H hH)
        unfold FindPost at Hfd
        generalize fst l (k + 1) = F at *
        obtain ⟨M, hM⟩ : ∃ M, (syms l (k + 1)).length = M := ⟨_, rfl⟩
        rw [hM] at c1 Hfd n2
        rw [← Hkn.out] at c0 c1
        have HHH := Lib.hid hH
        have hk0 : (0 : Int) ≤ (n : Int) := by omega
        have hk1 : (n : Int) < 16 := by have := Hkn.out; omega
        clear hR2 hO2 HKY hNs hM hH
        go_wp2_with fail
        refine Hfd.out.mono ?_
        rintro e Z ⟨rfl, hB⟩
        have HR3 := Lib.hid (HR2.out.below hB)
        have HO3 : Hid (Only (fun b => b = gr) w Z) := HO2.out.trans (Only.of_below hB _) (fun _ _ h => h)
        clear hB c0 c1 Hfd
        cases H with
        | some s =>
          have e9 := Hhit.out s HHH.out
          subst e9
          unfold optV
          clear Hmiss Hhit HHH
          go_wp2_with fail
          go_ret2
          exact ⟨rfl, HR3.out, HO3.out⟩
        | none =>
          have HS2 : Hid (scan l (bitOf bs) N p (15 - (k + 1)) (k + 1) u = R) := by
            have := Hmiss.out HHH.out
            show _ = _
            rw [show 15 - (k + 1) = f by have := Hf.out; omega]
            exact this
          unfold optV
          clear Hmiss Hhit HHH
          go_wp2_with fail
          go_roundw
          case rel => exact ⟨k + 1, n + 1, u, by have := Hkn.out; omega, by omega, by go_num, rfl, Hv2.out, HR3, HO3, HS2, HNk⟩
          case measure => simp [intOf]; omega
    · have hk15 : k = 15 := by omega
      have d1 : decide ((n : Int) ≤ 15) = false := decide_eq_false (by omega)
      have d2 : decide (n ≤ 15) = false := decide_eq_false (by omega)
      have hsc := HS.out
      rw [show 15 - k = 0 by omega] at hsc
      have e9 : (0, p + k, 3) = R := hsc
      subst e9
      clear hsc hk15 hlt hkn
      go_wp2_with fail
      go_ret2
      exact ⟨rfl, HR.out, HO.out⟩

theorem ralign_any (g : Nat) (a : Option Addr) (c : Nat) (l : List Nat) (p k : Nat) (w : World) (h : Rd w g a c l p) (hp : p ≤ 100000) (hk : k = (8 - p % 8) % 8) :
    Calls Try.prog 29 #[.pointer (some ⟨g, 0, none⟩)] w fun e w' => e = .returned (.int .i64 (k : Int)) ∧ Rd w' g a c l (p + k) ∧ Only (fun k => k = g) w w' := by
  have c1 : w.cell? ⟨g, 1, none⟩ = some (.int .i64 (p : Int)) := h.1.cell 1
  have f1 := h.1.frozen 1
  have hr : Hid (∀ W, Calls Try.prog 41 #[.int .i64 (p : Int)] W fun e w' => e = .returned (.int .i64 (k : Int)) ∧ W = w') := fun W => by
    have h : Hid (((8 : Int) - (p : Int) % 8) % 8 = (k : Int)) := by show _ = _; omega
    clear hk
    go_enter Try.func41, Try.ntmps41
    go_wp2_with fail
    go_ret
    exact ⟨ret_int h.out, rfl⟩
  have hk8 : k < 8 := by omega
  have H := Lib.hid h
  clear h hk
  go_enter Try.func29, Try.ntmps29
  go_wp2_with fail
  refine (hr.out _).mono ?_
  rintro e W ⟨rfl, rfl⟩
  go_wp2_with fail
  go_ret
  exact ⟨rfl, H.out.step (p + k) _ (by simp), (Only.refl (fun k => k = g) w).setCell (fun _ => rfl) _⟩

def pan (n : Nat) : List PanicEntry := [{ v := .iface 24 (.int .i64 (n : Int)), recovered := false }]
/-- What a call of the decoder's leaves alone. -/
structure DK (B : Nat) (W W' : World) : Prop where
  below : Below B W W'
  same : ∀ (k : Nat) (cs : Array Value) (e : TypeId) (fz : Nat × Nat), W.heap[k]? = some (Obj.cells cs e fz) → e ≠ 48 → e ≠ 44 → e ≠ 5 → W'.heap[k]? = W.heap[k]?
section
variable {B : Nat} {W W' W2 : World}
theorem DK.refl (B : Nat) (W : World) : DK B W W := ⟨Below.refl _ _, fun _ _ _ _ _ _ _ _ => rfl⟩
theorem DK.trans (h : DK B W W') (h' : DK B W' W2) : DK B W W2 :=
  ⟨h.below.trans h'.below, fun k cs e fz hk h1 h2 h3 => (h'.same k cs e fz ((h.same k cs e fz hk h1 h2 h3).trans hk) h1 h2 h3).trans (h.same k cs e fz hk h1 h2 h3)⟩
theorem DK.of_below (h : Below W.heap.size W W') (hn : B ≤ W.heap.size) : DK B W W' := ⟨h.mono hn, fun k cs e fz hk _ _ _ => h.block k (Array.getElem?_eq_some_iff.1 hk).1⟩
theorem DK.only {S : Nat → Prop} (ho : Only S W W') (hB : B ≤ W.heap.size) (hl : ∀ k, S k → B ≤ k) (ht : ∀ k, S k → ∃ cs e fz, W.heap[k]? = some (Obj.cells cs e fz) ∧ (e = 48 ∨ e = 44 ∨ e = 5)) : DK B W W' := by
  refine ⟨ho.below (fun b hb hs => by have := hl b hs; omega) hB, fun k cs e fz hk h1 h2 h3 => ho.block k (Array.getElem?_eq_some_iff.1 hk).1 fun hs => ?_⟩
  obtain ⟨cs', e', fz', hk', he⟩ := ht k hs
  rw [hk] at hk'
  injection hk' with hk'
  injection hk' with q1 q2
  subst q2
  rcases he with he | he | he
  · exact h1 he
  · exact h2 he
  · exact h3 he
theorem Whole.dk {g : Nat} {t : TypeId} {cs : Array Value} (h : Whole W g t cs) (hk : DK B W W') (h1 : t ≠ 48) (h2 : t ≠ 44) (h3 : t ≠ 5) : Whole W' g t cs := (hk.same g _ _ _ h h1 h2 h3).trans h
theorem Own64.dk {base : Nat} {v : Value} {l : List Nat} (h : Own64 W base v l) (hk : DK B W W') : Own64 W' base v l := by
  obtain ⟨hl, (h0 | ⟨k, cap, cur, rfl, h1, h2, h3⟩)⟩ := h
  · exact ⟨hl, .inl h0⟩
  · exact ⟨hl, .inr ⟨k, cap, cur, rfl, h1, (hk.same k _ _ _ h2 (by decide) (by decide) (by decide)).trans h2, h3⟩⟩
theorem CodeAt.dk {g : Nat} {l : List Nat} (h : CodeAt W (g + 1) g l) (hk : DK B W W') : CodeAt W' (g + 1) g l := by
  obtain ⟨gw, v, h1, h2, h3, h4⟩ := h
  exact ⟨gw, v, h1, h2.dk hk (by decide) (by decide) (by decide), h3.dk hk (by decide) (by decide) (by decide), ⟨fun j hj => (h4.own j hj).dk hk, h4.apart⟩⟩
end
/-- What a decoding is of: the blocks below B are the caller's; d, r: the decoder, its reader; the reader's bytes; how many at most. -/
structure Cx where
  B : Nat
  n : Nat
  d : Nat
  r : Nat
  a : Option Addr
  c : Nat
  bs : List Nat
  most : Nat
structure Cx.Ok (X : Cx) : Prop where
  bd : X.B ≤ X.d
  br : X.B ≤ X.r
  dn : X.d < X.n
  rn : X.r < X.n
  len : X.bs.length ≤ 4096
  byte : ∀ x ∈ X.bs, x < 256
  most : X.most ≤ 1048576
/-- The decoder at bit p, out behind it. -/
structure Dec (X : Cx) (F : Option Addr × Option Addr) (out : List Nat) (p : Nat) (W : World) : Prop where
  dec : ∃ v, Whole W X.d 44 #[.pointer (some ⟨X.r, 0, none⟩), v, .int .i64 (X.most : Int), .pointer F.1, .pointer F.2] ∧ Own8 W X.n v out
  rd : Whole W X.r 48 #[.slice X.a X.bs.length X.c, .int .i64 (p : Int)]
  nums : Nums .u8 W X.n X.a X.bs
  size : X.n ≤ W.heap.size
  at_ : p ≤ 8 * X.bs.length
section
variable {X : Cx} {F : Option Addr × Option Addr} {out : List Nat} {p : Nat} {W W' : World}
theorem Dec.ne (h : Dec X F out p W) : X.d ≠ X.r := by
  obtain ⟨v, h1, h2⟩ := h.dec
  intro e
  have h3 := h.rd
  unfold Whole at h1 h3
  rw [e, h3] at h1
  injection h1 with h1
  injection h1 with h1 h4
  exact absurd h4 (by decide)
theorem Dec.reader (h : Dec X F out p W) : Rd W X.r X.a X.c X.bs p := ⟨h.rd, fun hl => by
  obtain ⟨b, off, e, hb, hc⟩ := h.nums hl
  exact ⟨b, off, e, Nat.lt_of_lt_of_le hb h.size, hc⟩⟩
theorem Nums.onlyIf {S : Nat → Prop} {k : IntKind} {B : Nat} {a : Option Addr} {l : List Nat} (h : Nums k W B a l) (ho : Only S W W') (hB : B ≤ W.heap.size) (hS : ∀ b u v, W.cell? ⟨b, u, none⟩ = some (.int k v) → b < B → ¬ S b) : Nums k W' B a l := fun hl => by
  obtain ⟨b, off, rfl, hb, hc⟩ := h hl
  refine ⟨b, off, rfl, hb, fun j hj => ?_⟩
  rw [ho.cell (p := ⟨b, off + j, none⟩) (Nat.lt_of_lt_of_le hb hB) (hS b _ _ (hc j hj) hb)]
  exact hc j hj
theorem rd_cell {g : Nat} {t : TypeId} {a0 : Option Addr} {n0 c0 : Nat} {q : Int} {u : Nat} {x : Int} (h : Whole W g t #[.slice a0 n0 c0, .int .i64 q]) : W.cell? ⟨g, u, none⟩ ≠ some (.int .u8 x) := by
  rw [h.cell]
  rcases u with _ | _ | u <;> simp
/-- The reader has gone on. -/
theorem Dec.read (hX : X.Ok) (h : Dec X F out p W) {q : Nat} (hr : Rd W' X.r X.a X.c X.bs q) (ho : Only (fun k => k = X.r) W W') (hq : q ≤ 8 * X.bs.length) : Dec X F out q W' ∧ DK X.B W W' := by
  obtain ⟨v, h1, h2⟩ := h.dec
  refine ⟨⟨⟨v, h1.only ho h.ne, h2.only ho (fun b hb e => ?_)⟩, hr.1, h.nums.onlyIf ho h.size (fun b u x hc hb e => ?_), Nat.le_trans h.size ho.size, hq⟩, DK.only ho (by have := hX.br; have := h.rd.lt; omega) (fun k e => by subst e; exact hX.br) (fun k e => by subst e; exact ⟨_, _, _, h.rd, .inl rfl⟩)⟩
  · have := (h2.lt b hb).1
    have := hX.rn
    omega
  · subst e
    exact rd_cell h.rd hc
theorem Dec.below (hX : X.Ok) (h : Dec X F out p W) (hb : Below W.heap.size W W') : Dec X F out p W' := by
  obtain ⟨v, h1, h2⟩ := h.dec
  exact ⟨⟨v, h1.below hb h1.lt, h2.below hb⟩, h.rd.below hb h.rd.lt, h.nums.onlyIf (S := fun _ => False) (Only.of_below hb _) h.size (fun _ _ _ _ _ h => h), Nat.le_trans h.size hb.size, h.at_⟩
theorem Dec.le (hX : X.Ok) (h : Dec X F out p W) : X.B ≤ W.heap.size := by have := hX.br; have := h.rd.lt; omega
end
/-- What a call of the decoder's does whose result is R: it hands back a value, the decoder has gone on; or it panics with the error's number. -/
def DPost {α : Type} (X : Cx) (w : World) (R : Except Nat (α × Nat)) (rv : α → Value) (F : Option Addr × Option Addr) (o : α → List Nat) (e : Ending) (w' : World) : Prop :=
  match R with
  | .ok a => e = .returned (rv a.1) ∧ Dec X F (o a.1) a.2 w' ∧ DK X.B w w'
  | .error n => e = .panicked (pan n) ∧ Below X.B w w'
theorem valOf_valB (bs : List Nat) (p : Nat) : ∀ k, valOf bs p k = Inf.valB (bitOf bs) p k
  | 0 => rfl
  | k + 1 => by show valOf bs p k + _ = Inf.valB _ p k + _; rw [valOf_valB bs p k]
theorem valB_lt (bs : List Nat) (p k : Nat) : Inf.valB (bitOf bs) p k < 2 ^ k := by rw [← valOf_valB]; exact valOf_lt bs p k
/-- A program run over the decoder's bits. -/
def Cx.run (X : Cx) {α : Type} (f : Inf.Pg α) (p : Nat) : Except Nat (α × Nat) := f (bitOf X.bs) (8 * X.bs.length) p
end Go.Proofs.Ytfbfflgffibjbaa
