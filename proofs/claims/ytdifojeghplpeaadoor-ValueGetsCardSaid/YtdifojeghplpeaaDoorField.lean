/- Walks over layer 7: word, content, the reference's number. -/
import Derived.Test.YtdifojeghplpeaaDoorVarint
import Derived.Test.YtdifojeghplpeaaDoorU32
import Derived.Test.YtdifojeghplpeaaDoorPackMath
import Derived.Test.YtdifojeghplpeaaDoorGetMath
namespace Go.Proofs.YtdifojeghplpeaaDoor
open Go.RowKit Var
set_option linter.unusedVariables false
theorem refVarint_vat (a : Option Addr) (l : List Nat) (c p : Nat) (w : World) (h : Cells8 w a l) (hl : l.length ≤ 1000000000) (hp : p ≤ l.length) :
    Calls Tryd.prog 45 #[.slice a l.length c, .int .i64 (p : Int)] w (Three (vat l p).1 (vat l p).2.1 (vat l p).2.2 w) :=
  refVarint_at a l c p w h hl hp _ _ _ _ rfl (by show _ = _; rfl)

theorem varint_vat (a : Option Addr) (l : List Nat) (c p : Nat) (w : World) (h : Cells8 w a l) (hl : l.length ≤ 1000000000) (hp : p ≤ l.length) :
    Calls Tryd.prog 51 #[.slice a l.length c, .int .i64 (p : Int)] w (Three (vat l p).1 (vat l p).2.1 (vat l p).2.2 w) :=
  varint_at a l c p w h hl hp _ _ _ _ rfl (by show _ = _; rfl)
set_option maxRecDepth 100000

theorem or_byte (v x i : Nat) (hv : v < 256 ^ i) (hx : x < 256) (hi : i ≤ 7) :
    bits .or .u64 (v : Int) (IntKind.u64.wrap ((x : Int) * 2 ^ (8 * i))) = ((v + x * 256 ^ i : Nat) : Int) := by
  have h1 : 256 ^ (i + 1) ≤ 18446744073709551616 := by rw [← pow8]; exact Nat.pow_le_pow_right (by omega) (by omega)
  have h2 : x * 256 ^ i ≤ 255 * 256 ^ i := Nat.mul_le_mul_right _ (by omega)
  rw [Nat.pow_succ] at h1
  have e1 : (x : Int) * 2 ^ (8 * i) = ((x * 256 ^ i : Nat) : Int) := by
    rw [Int.natCast_mul, Int.natCast_pow, Int.pow_mul]; rfl
  rw [e1, IntWalk.u64_in _ ⟨by omega, by omega⟩, u64_or_nat v _ (by omega) (by omega)]
  congr 1
  have hp : (256 : Nat) ^ i = 2 ^ (8 * i) := by rw [Nat.pow_mul]
  rw [hp] at hv ⊢
  rw [← Nat.shiftLeft_eq, Nat.or_comm, ← Nat.shiftLeft_add_eq_or_of_lt hv, Nat.add_comm]

theorem word_short (a : Option Addr) (L c p n : Nat) (w : World) (hp : p ≤ L) (hL : L ≤ 1000000) (hn : n ≤ 8) (h : L - p < n) :
    Calls Tryd.prog 52 #[.slice a L c, .int .i64 (p : Int), .int .i64 (n : Int)] w (Three 0 0 2 w) := by
  have h1 : decide ((L : Int) - (p : Int) < (n : Int)) = true := decide_eq_true (by omega)
  go_enter Tryd.func52, Tryd.ntmps52
  go_wp2_with fail
  go_ret3
  exact ⟨rfl, rfl⟩
set_option maxHeartbeats 2000000 in
theorem word_ok (a : Option Addr) (l : List Nat) (c p n : Nat) (w : World) (hC : Cells8 w a l) (hd : ∀ x ∈ l, x < 256) (hp : p ≤ l.length) (hL : l.length ≤ 1000000) (hn : n ≤ 8) (h : ¬ l.length - p < n) :
    Calls Tryd.prog 52 #[.slice a l.length c, .int .i64 (p : Int), .int .i64 (n : Int)] w (Three (le (cut l p n)) (p + n) 0 w) := by
  obtain ⟨L, hLL⟩ : ∃ L, L = l.length := ⟨_, rfl⟩
  have H : Hid (∀ i, i < L → ∃ b off, a = some ⟨b, off, none⟩ ∧ w.cell? ⟨b, off + i, none⟩ = some (.int .u8 ((l.getD i 0 : Nat) : Int)) ∧ l.getD i 0 < 256) := by rw [hLL]; exact hC
  have Hs : Hid (∀ i, p + i < L → le (cut l p (i + 1)) = le (cut l p i) + l.getD (p + i) 0 * 256 ^ i) := fun i hi => le_step (by omega)
  have Hlt : Hid (∀ i, p + i ≤ L → le (cut l p i) < 256 ^ i) := fun i hi => by
    have := le_lt (cut l p i) (cut_lt p i hd)
    rwa [cut_length (by omega)] at this
  have H0 : Hid (le (cut l p 0) = 0) := by show _ = _; rw [cut_nought]; rfl
  rw [← hLL] at hp hL h ⊢
  clear hLL hC hd
  have h1 : decide ((L : Int) - (p : Int) < (n : Int)) = false := decide_eq_false (by omega)
  go_enter Tryd.func52, Tryd.ntmps52
  go_wp2_with fail
  clear h1
  go_loop [9, 18] (fun u t => ∃ k : Nat, t = .int .i64 (k : Int) ∧ k ≤ n ∧ u = .int .u64 ((le (cut l p k) : Nat) : Int)) (fun _ t => n - (intOf t).toNat)
  case atStart => exact ⟨0, rfl, by omega, by rw [H0.out]; rfl⟩
  case round =>
    obtain ⟨k, rfl, hk, rfl⟩ := hrel
    by_cases hlt : k < n
    · obtain ⟨b, off, rfl, hc, hx⟩ := H.out (p + k) (by omega)
      have hs := Hs.out k (by omega)
      have hl := Hlt.out k (by omega)
      generalize l.getD (p + k) 0 = x at *
      have Hor := Lib.hid (or_byte (le (cut l p k)) x k hl hx (by omega))
      have HS := Lib.hid hs
      have hpk : p + k < L := by omega
      clear hs hl
      go_wp2_with fail
      go_round
      case rel => exact ⟨k + 1, by go_num, by omega, by rw [HS.out, ← Hor.out]⟩
      case measure => simp [intOf]; omega
    · obtain rfl : k = n := by omega
      go_wp2_with fail
      go_ret3
      exact ⟨rfl, rfl⟩

/-- What content hands back. -/
def ContPost (w : World) (d : List Nat) (q E : Nat) (e : Ending) (w' : World) : Prop :=
  ∃ v, e = .returned (.tuple #[v, .int .i64 (q : Int), .int .i64 (E : Int)]) ∧ Own8 w' w.heap.size v d ∧ Below w.heap.size w w'
theorem nums_cut {w : World} {B : Nat} {b off : Nat} {l : List Nat} {p n : Nat} (h : ∀ i, i < l.length → w.cell? ⟨b, off + i, none⟩ = some (.int .u8 ((l.getD i 0 : Nat) : Int))) (hb : b < B) (hpn : p + n ≤ l.length) :
    Nums .u8 w B (some ⟨b, off + p, none⟩) (cut l p n) := fun hl => by
  refine ⟨b, off + p, rfl, hb, fun i hi => ?_⟩
  have hlen := cut_length hpn
  rw [Nat.add_assoc, h (p + i) (by omega), cut_get (by omega) hpn]

set_option maxHeartbeats 2000000 in
theorem content_err (a : Option Addr) (l : List Nat) (c p : Nat) (w : World) (hC : Cells8 w a l) (hp : p ≤ l.length) (hL : l.length ≤ 1000000) (h : (vat l p).2.2 ≠ 0) :
    Calls Tryd.prog 53 #[.slice a l.length c, .int .i64 (p : Int)] w (ContPost w [] 0 (vat l p).2.2) := by
  have hV := Lib.hid (varint_vat a l c p w hC (by omega) hp)
  generalize (vat l p).1 = x at *
  generalize (vat l p).2.1 = y at *
  generalize (vat l p).2.2 = z at *
  have hz : ((z : Int) != 0) = true := by simp; omega
  clear h hC
  go_enter Tryd.func53, Tryd.ntmps53
  go_wp2_with fail
  refine hV.out.mono ?_
  rintro e W ⟨rfl, rfl⟩
  go_wp2_with fail
  go_ret3
  exact ⟨_, rfl, Own8.nil_ _ _, Below.refl _ _⟩
set_option maxHeartbeats 2000000 in
theorem content_short (a : Option Addr) (l : List Nat) (c p : Nat) (w : World) (hC : Cells8 w a l) (hp : p ≤ l.length) (hL : l.length ≤ 1000000) (h : (vat l p).2.2 = 0) (h2 : l.length - (vat l p).2.1 < (vat l p).1) :
    Calls Tryd.prog 53 #[.slice a l.length c, .int .i64 (p : Int)] w (ContPost w [] 0 2) := by
  have hV := Lib.hid (varint_vat a l c p w hC (by omega) hp)
  have hs := vat_step hp h
  have hbd := vat_bound l p
  generalize (vat l p).1 = x at *
  generalize (vat l p).2.1 = y at *
  generalize (vat l p).2.2 = z at *
  subst h
  have hz : ((0 : Int) != 0) = false := by decide
  generalize l.length = L at *
  have hy := hs.2
  have hg : decide ((L : Int) - (y : Int) < (x : Int)) = true := decide_eq_true (by omega)
  clear hC hs h2
  go_enter Tryd.func53, Tryd.ntmps53
  go_wp2_with fail
  refine hV.out.mono ?_
  rintro e W ⟨rfl, rfl⟩
  go_wp2_with fail
  go_ret3
  exact ⟨_, rfl, Own8.nil_ _ _, Below.refl _ _⟩
set_option maxHeartbeats 2000000 in
theorem content_ok (a : Option Addr) (l : List Nat) (c p : Nat) (w : World) (hN : Nums .u8 w w.heap.size a l) (hd : ∀ x ∈ l, x < 256) (hc : l.length ≤ c) (hp : p < l.length) (hL : l.length ≤ 1000000) (h : (vat l p).2.2 = 0) (h2 : ¬ l.length - (vat l p).2.1 < (vat l p).1) :
    Calls Tryd.prog 53 #[.slice a l.length c, .int .i64 (p : Int)] w (ContPost w (cut l (vat l p).2.1 (vat l p).1) ((vat l p).2.1 + (vat l p).1) 0) := by
  have hC := cells8 hN hd
  have hV := Lib.hid (varint_vat a l c p w hC (by omega) (by omega))
  have hs := vat_step (Nat.le_of_lt hp) h
  have hbd := vat_bound l p
  generalize (vat l p).1 = x at *
  generalize (vat l p).2.1 = y at *
  generalize (vat l p).2.2 = z at *
  subst h
  have hz : ((0 : Int) != 0) = false := by decide
  obtain ⟨b, off, rfl, hb, hcell⟩ := hN (by omega)
  have hcl0 := clone_own (some ⟨b, off + y, none⟩) (c - y) (cut l y x) w (nums_cut hcell hb (by omega)) (by rw [cut_length (by omega)]; omega) (fun e => by cases e)
  rw [cut_length (by omega)] at hcl0
  have Hcl := Lib.hid hcl0
  generalize l.length = L at *
  have hy := hs.2
  have hxy : x + y ≤ L := by omega
  have hg : decide ((L : Int) - (y : Int) < (x : Int)) = false := decide_eq_false (by omega)
  have hyc : y ≤ c := by omega
  have hLc := hc
  clear hC hs h2 hcell hcl0 hN hd hc
  by_cases hyne : y = c
  · subst hyne
    obtain rfl : x = 0 := by omega
    have Hcl2 := Lib.hid (fun k => clone_own (some ⟨b, off, none⟩) k [] w Nums.nil_ (by simp) (fun e => by cases e))
    rw [cut_nought, Nat.add_zero]
    clear Hcl
    go_enter Tryd.func53, Tryd.ntmps53
    go_wp2_with fail
    refine hV.out.mono ?_
    rintro e W ⟨rfl, rfl⟩
    clear hV
    go_wp2_with fail
    refine (Hcl2.out _).mono ?_
    rintro e w1 ⟨v1, rfl, ho, hb1⟩
    go_wp2_with fail
    go_ret3
    exact ⟨_, rfl, ho, hb1⟩
  · go_enter Tryd.func53, Tryd.ntmps53
    go_wp2_with fail
    refine hV.out.mono ?_
    rintro e W ⟨rfl, rfl⟩
    clear hV
    go_wp2_with fail
    refine Hcl.out.mono ?_
    rintro e w1 ⟨v1, rfl, ho, hb1⟩
    go_wp2_with fail
    go_ret3
    exact ⟨_, rfl, ho, hb1⟩

/-- The reference's number: from the end. -/
theorem number_any (a : Option Addr) (l : List Nat) (c : Nat) (w : World) (hC : Cells8 w a l) (hd : ∀ x ∈ l, x < 256) (hl : l.length ≤ 8) :
    Calls Tryd.prog 46 #[.slice a l.length c] w fun e w' => e = .returned (.int .u64 ((le l : Nat) : Int)) ∧ w = w' := by
  obtain ⟨L, hLL⟩ : ∃ L, L = l.length := ⟨_, rfl⟩
  have H : Hid (∀ i, i < L → ∃ b off, a = some ⟨b, off, none⟩ ∧ w.cell? ⟨b, off + i, none⟩ = some (.int .u8 ((l.getD i 0 : Nat) : Int)) ∧ l.getD i 0 < 256) := by rw [hLL]; exact hC
  have Hs : Hid (∀ k, k < L → le (l.drop k) = 256 * le (l.drop (k + 1)) + l.getD k 0) := fun k hk => le_drop l k (by omega)
  have Hlt : Hid (∀ k, k ≤ L → le (l.drop k) < 18446744073709551616) := fun k hk => by
    have h1 := le_lt (l.drop k) (fun x hx => hd x (List.mem_of_mem_drop hx))
    have h2 : 256 ^ (l.drop k).length ≤ 256 ^ 8 := Nat.pow_le_pow_right (by omega) (by simp; omega)
    rw [pow8] at h2
    omega
  have He : Hid (le (l.drop L) = 0) := by show _ = _; rw [hLL]; simp [le]
  rw [← hLL] at hl ⊢
  clear hLL hC hd
  have hwr : IntKind.i64.wrap ((L : Int) - 1) = (L : Int) - 1 := IntWalk.i64_in _ ⟨by omega, by omega⟩
  go_enter Tryd.func46, Tryd.ntmps46
  go_wp2_with fail
  clear hwr
  go_loop [3, 4] (fun u t => ∃ k : Nat, t = .int .i64 ((k : Int) - 1) ∧ k ≤ L ∧ u = .int .u64 ((le (l.drop k) : Nat) : Int)) (fun _ t => (intOf t + 1).toNat)
  case atStart => exact ⟨L, rfl, by omega, by rw [He.out]; rfl⟩
  case round =>
    obtain ⟨k, rfl, hk, rfl⟩ := hrel
    by_cases hlt : 0 < k
    · obtain ⟨j, rfl⟩ : ∃ j, k = j + 1 := ⟨k - 1, by omega⟩
      have hj : ((j + 1 : Nat) : Int) - 1 = (j : Int) := by omega
      rw [hj]
      obtain ⟨b, off, rfl, hc, hx⟩ := H.out j (by omega)
      have hs := Hs.out j (by omega)
      have hl := Hlt.out j (by omega)
      have hl2 := Hlt.out (j + 1) hk
      generalize l.getD j 0 = x at *
      rw [hs] at hl
      have HS := Lib.hid hs
      generalize le (l.drop (j + 1)) = y at *
      have h256 : (256 : Int) * (y : Int) + (x : Int) = ((256 * y + x : Nat) : Int) := by omega
      have H256 := Lib.hid h256
      have hwj : IntKind.i64.wrap ((j : Int) - 1) = (j : Int) - 1 := IntWalk.i64_in _ ⟨by omega, by omega⟩
      have hw1 : IntKind.u64.wrap (256 * (y : Int)) = 256 * (y : Int) := IntWalk.u64_in _ ⟨by omega, by omega⟩
      have hw2 : IntKind.u64.wrap (256 * (y : Int) + (x : Int)) = 256 * (y : Int) + (x : Int) := IntWalk.u64_in _ ⟨by omega, by omega⟩
      have hj0 : ¬ ((j : Int) < 0) := by omega
      clear hs hj h256
      go_wp2_with fail
      go_round
      case rel => exact ⟨j, rfl, by omega, by rw [HS.out, ← H256.out]⟩
      case measure => simp [intOf] <;> omega
    · obtain rfl : k = 0 := by omega
      have e : ((0 : Nat) : Int) - 1 = -1 := by omega
      rw [e, List.drop_zero]
      clear e
      go_wp2_with fail
      go_ret
      exact ⟨rfl, rfl⟩
end Go.Proofs.YtdifojeghplpeaaDoor
