/- HPut -/
import Derived.Test.YtngnhkghpnamoaaGc02
import Derived.Test.YtngnhkghpnamoaaRows
import Derived.Test.YtngnhkghpnamoaaGc01
import Derived.Test.YtngnhkghpnamoaaBitMath
import Derived.WalkKit
import Derived.Handy
import Derived.Lib.Hide
import Derived.Deep.RegionHeld3
import Derived.Deep.DrawnRows
import Derived.WalkLawsBesides
import Derived.WalkSpells
import Derived.RegionTactic
import Derived.BigRegion
namespace Go.Proofs.Ytngnhkghpnamoaa
open Go.RowKit Bit
set_option linter.unusedVariables false


/-- Block g is a writer that has written the n bits of N; its bytes are v. -/
def Wr (w : World) (g : Nat) (v : Value) (N n : Nat) : Prop :=
  Whole w g 73 #[v, .int .i64 (n : Int)] ∧ w.ownsRow 0 5 1 v (bytesOf N n).length (u8s (bytesOf N n)) ∧ N < 2 ^ n ∧ v.ownBlock ≠ some g

/-- What a call on the writer may turn. -/
def touch (g : Nat) (v : Value) : Nat → Prop := fun k => k = g ∨ v.ownBlock = some k

theorem own_set {w : World} {base : Nat} {e : TypeId} {size n : Nat} {v : Value} {xs : List Value} (h : w.ownsRow base e size v n xs) {p : Addr} (hp : v.ownBlock ≠ some p.block) (u : Value) : (w.setCell p u).ownsRow base e size v n xs :=
  own_only h (Only.setCell (S := fun k => k = p.block) (Only.refl _ _) (fun _ => rfl) u) (fun b hb e => hp (by rw [hb, e]))

/-- The bit that is written, as the program reckons it. -/
theorem put_byte (x b r : Nat) (hr : r < 8) (hx : x < 2 ^ r) (hb : b < 4294967296) :
    bits .or .u8 (x : Int) (bits .and .u32 (b : Int) 1 % 256 * 2 ^ r % 256) = ((x + b % 2 * 2 ^ r : Nat) : Int) := by
  have h1 : bits .and .u32 (b : Int) 1 = ((b % 2 : Nat) : Int) := by
    rw [show (1 : Int) = ((1 : Nat) : Int) from rfl, u32_and_nat b 1 hb (by omega), Nat.and_one_is_mod]
  have h2 : 2 ^ r ≤ 128 := by
    have := Nat.pow_le_pow_right (n := 2) (by omega) (show r ≤ 7 by omega)
    simpa using this
  have h3 : b % 2 * 2 ^ r ≤ 1 * 2 ^ r := Nat.mul_le_mul_right _ (by omega)
  have h4 : ((b % 2 : Nat) : Int) % 256 = ((b % 2 : Nat) : Int) := by omega
  have h5 : (((b % 2 : Nat) : Int) * 2 ^ r) = ((b % 2 * 2 ^ r : Nat) : Int) := by rw [Int.natCast_mul, Int.natCast_pow]; rfl
  have ho := or_add x (b % 2) r hx
  rw [h1, h4, h5]
  generalize b % 2 * 2 ^ r = m at *
  rw [show (m : Int) % 256 = (m : Int) by omega, u8_or_nat x m (by omega) (by omega), ho]

set_option maxHeartbeats 2000000 in
theorem put_any (g N n b : Nat) (v : Value) (w : World) (h : Wr w g v N n) (hn : n < 1099511627776) (hb : b < 4294967296) :
    Calls Try.prog 65 #[.pointer (some ⟨g, 0, none⟩), .int .u32 (b : Int)] w
      fun e w' => e = .returned (.tuple #[]) ∧ ∃ v', Wr w' g v' (N + b % 2 * 2 ^ n) (n + 1) ∧ Only (touch g v) w w' ∧ (v'.ownBlock = v.ownBlock ∨ ∃ k, v'.ownBlock = some k ∧ w.heap.size ≤ k) := by
  obtain ⟨hW, hown, hN, hne⟩ := h
  obtain ⟨i0, hi0, hz0, hz1, hz2⟩ := info_parts u8info
  have HN := Lib.hid hN; clear hN
  by_cases h0 : n % 8 = 0
  · have c0 : w.cell? ⟨g, 0, none⟩ = some v := hW.cell 0
    have c1 : w.cell? ⟨g, 1, none⟩ = some (.int .i64 (n : Int)) := hW.cell 1
    have h8 : (n : Int) % 8 = 0 := by omega
    have hlen : (bytesOf N n).length = n / 8 := by rw [bytesOf, bytesTo_length]; omega
    have Hl1 : Hid ((bytesOf N n).length + 1 ≤ maxLen) := by unfold Hid maxLen; omega
    have Hl2 : Hid (((bytesOf N n).length + 1) * 1 ≤ 140737488355328) := by unfold Hid; omega
    have Hlen := Lib.hid hlen; clear hlen
    go_enter Try.func65, Try.ntmps65
    go_wp2_with (at_builtin; refine app_one rfl (.tmp 14) (.tmp 15) 22 rfl 0 5 i0 _ 1 Try.underlying22 hi0 hz0 hz1 hz2 rfl v _ _ rfl hown (.int .u8 0) 1 rfl rfl Hl1.out Hl2.out (Nat.zero_le _) ?_)
    intro v1 w1 hown1 hg1 hat
    have hgl : g < w.heap.size := hW.lt
    have hW1 : Whole w1 g 73 #[v, .int .i64 (n : Int)] := (hg1.block g hgl (fun e => hne e.symm)).trans hW
    have hv1g : v1.ownBlock ≠ some g := by
      rcases hat with e | ⟨k, e, hk⟩
      · rw [e]; exact hne
      · rw [e]; intro e'; injection e' with e'; omega
    have hO1 : Only (touch g v) w w1 := Only.of_grown hg1 (fun k hk => .inr hk)
    have d0 : w1.cell? ⟨g, 0, none⟩ = some v := hW1.cell 0
    have d1 : w1.cell? ⟨g, 1, none⟩ = some (.int .i64 (n : Int)) := hW1.cell 1
    have f0 := hW1.frozen 0
    have f1 := hW1.frozen 1
    clear c0 c1
    obtain ⟨r, cap, hr, _, _⟩ := hown1.form (by omega)
    subst hr
    go_wp2_with fail
    have hW2 := hW1.set 0 (.slice (some ⟨r, 0, none⟩) ((bytesOf N n).length + 1) cap)
    have hO2 : Only (touch g v) w (w1.setCell ⟨g, 0, none⟩ (.slice (some ⟨r, 0, none⟩) ((bytesOf N n).length + 1) cap)) := hO1.setCell (fun _ => .inl rfl) _
    have hown2 := own_set hown1 (p := ⟨g, 0, none⟩) hv1g (.slice (some ⟨r, 0, none⟩) ((bytesOf N n).length + 1) cap)
    have hL : (bytesOf N n).length + 1 = n / 8 + 1 := by rw [Hlen.out]
    have hE : u8s (bytesOf N n) ++ [Value.int .u8 0] = u8s (bytesTo N (n / 8 + 1)) := by rw [ext_zero N n HN.out h0]; simp [u8s]
    rw [hE, hL] at hown2
    rw [hL] at hW2 hO2 hv1g hat ⊢
    obtain ⟨w3, hw3⟩ : ∃ w3, w3 = w1.setCell ⟨g, 0, none⟩ (.slice (some ⟨r, 0, none⟩) (n / 8 + 1) cap) := ⟨_, rfl⟩
    rw [← hw3] at hW2 hO2 hown2 ⊢
    have hW3 : Whole w3 g 73 #[.slice (some ⟨r, 0, none⟩) (n / 8 + 1) cap, .int .i64 (n : Int)] := hW2
    have hown3 := hown2
    have hO3 := hO2
    have hv3g := hv1g
    have hrS : r < w.heap.size → touch g v r := by
      intro hlt
      rcases hat with e | ⟨k, e, hk⟩
      · exact .inr (by rw [← e]; rfl)
      · simp [Value.ownBlock] at e; omega
    clear hw3 hW2 hO2 hown2 hW1 hO1 hown1 d0 d1 f0 f1 hg1 hE hL Hl1 Hl2 Hlen hv1g h8
    obtain ⟨q, hq⟩ : ∃ q, q = n / 8 := ⟨_, rfl⟩
    obtain ⟨r8, hr8⟩ : ∃ r8, r8 = n % 8 := ⟨_, rfl⟩
    have hqi : (n : Int) / 8 = (q : Int) := by omega
    have hri : (n : Int) % 8 = (r8 : Int) := by omega
    have hq0 : (0 : Int) ≤ (q : Int) := by omega
    have hq1 : (q : Int) < ((q + 1 : Nat) : Int) := by omega
    have hr9 : r8 < 8 := by omega
    rw [← hq] at hown3 hW3 hat hv3g ⊢
    have hx := top_lt N n HN.out
    have hx256 : N / 256 ^ (n / 8) % 256 = N / 256 ^ (n / 8) := Nat.mod_eq_of_lt (by have := pow_r n; omega)
    have hput := Lib.hid (put_bytes N n (b % 2) HN.out (by omega))
    have hplt := Lib.hid (put_lt N n (b % 2) HN.out (by omega))
    rw [hx256, ← hq, ← hr8] at hput
    rw [← hq, ← hr8] at hx
    have hcell : w3.cell? ⟨r, q, none⟩ = some (.int .u8 ((N / 256 ^ q : Nat) : Int)) := by
      rw [hown3.cellAt q (by omega)]
      simp only [u8s, List.getElem?_map, bytesTo_get N (q + 1) q (by omega), Option.map_some]
      rw [hq, hx256]
    have hbyte := Lib.hid (put_byte (N / 256 ^ q) b r8 hr9 hx hb)
    generalize N / 256 ^ q = x at *
    have e0 : w3.cell? ⟨g, 0, none⟩ = some (.slice (some ⟨r, 0, none⟩) (q + 1) cap) := hW3.cell 0
    have e1 : w3.cell? ⟨g, 1, none⟩ = some (.int .i64 (n : Int)) := hW3.cell 1
    have fr := hown3.frozenAt q
    have fg := hW3.frozen 1
    have hrg : r ≠ g := fun e => hv3g (by rw [e]; rfl)
    have hgr : g ≠ r := fun e => hrg e.symm
    have Hq := Lib.hid hq; have Hr8 := Lib.hid hr8; have Hx256 := Lib.hid hx256
    clear hq hr8 hx256
    go_region
    rw [hbyte.out]
    have hWf := (((hW3.far (p := ⟨r, q, none⟩) hgr (.int .u8 ((x + b % 2 * 2 ^ r8 : Nat) : Int))).drew).set 1 (.int .i64 ((n : Int) + 1)))
    have hownf := own_set ((hown3.stored q (.int .u8 ((x + b % 2 * 2 ^ r8 : Nat) : Int))).1) (p := ⟨g, 1, none⟩) (by simpa [Value.ownBlock] using hrg) (.int .i64 ((n : Int) + 1))
    have e0' : (w3.setCell ⟨r, q, none⟩ (.int .u8 ((x + b % 2 * 2 ^ r8 : Nat) : Int))).drew.cell? ⟨g, 1, none⟩ = some (.int .i64 (n : Int)) := (hW3.far (p := ⟨r, q, none⟩) hgr _).cell 1
    have fg' : (w3.setCell ⟨r, q, none⟩ (.int .u8 ((x + b % 2 * 2 ^ r8 : Nat) : Int))).drew.frozen? ⟨g, 1, none⟩ = false := (hW3.far (p := ⟨r, q, none⟩) hgr _).frozen 1
    generalize x + b % 2 * 2 ^ r8 = X at *
    go_wp2
    go_end0
    have hset : u8s (bytesOf (N + b % 2 * 2 ^ n) (n + 1)) = (u8s (bytesTo N (q + 1))).set q (.int .u8 ((X : Nat) : Int)) := by rw [hput.out]; simp [u8s, List.map_set]
    have hlenf : (bytesOf (N + b % 2 * 2 ^ n) (n + 1)).length = q + 1 := by rw [hput.out, List.length_set, bytesTo_length]
    have hq2 := Hq.out
    subst hq2
    refine ⟨rfl, .slice (some ⟨r, 0, none⟩) (n / 8 + 1) cap, ⟨hWf, ?_, hplt.out, hv3g⟩, ((hO3.setCell (p := ⟨r, n / 8, none⟩) hrS _).drew).setCell (fun _ => .inl rfl) _, hat⟩
    rw [hset, hlenf]
    exact hownf
  · have hlen : (bytesOf N n).length = n / 8 + 1 := by rw [bytesOf, bytesTo_length]; omega
    rw [← ext_same N n h0] at hown hlen
    rw [hlen] at hown
    obtain ⟨r, cap, hr, _, _⟩ := hown.form (by omega)
    subst hr
    have hO3 : Only (touch g (.slice (some ⟨r, 0, none⟩) (n / 8 + 1) cap)) w w := Only.refl _ _
    have hrS : r < w.heap.size → touch g (.slice (some ⟨r, 0, none⟩) (n / 8 + 1) cap) r := fun _ => .inr rfl
    have h8 : ((n : Int) % 8 == 0) = false := by simp; omega
    clear hlen
    have hown3 := hown; have hW3 := hW; have hv3g := hne
    clear hown hW hne
    have c1 : w.cell? ⟨g, 1, none⟩ = some (.int .i64 (n : Int)) := hW3.cell 1
    obtain ⟨w3, hw3⟩ : ∃ w3, w3 = w := ⟨_, rfl⟩
    go_enter Try.func65, Try.ntmps65
    go_wp2_with fail
    clear c1 h8 hw3
    clear w3
    obtain ⟨w3, hw3⟩ : ∃ w3, w3 = w := ⟨_, rfl⟩
    rw [← hw3] at hW3 hown3 ⊢
    rw [show Only (touch g (.slice (some ⟨r, 0, none⟩) (n / 8 + 1) cap)) w w = Only (touch g (.slice (some ⟨r, 0, none⟩) (n / 8 + 1) cap)) w w3 by rw [hw3]] at hO3
    clear hw3
    obtain ⟨q, hq⟩ : ∃ q, q = n / 8 := ⟨_, rfl⟩
    obtain ⟨r8, hr8⟩ : ∃ r8, r8 = n % 8 := ⟨_, rfl⟩
    have hqi : (n : Int) / 8 = (q : Int) := by omega
    have hri : (n : Int) % 8 = (r8 : Int) := by omega
    have hq0 : (0 : Int) ≤ (q : Int) := by omega
    have hq1 : (q : Int) < ((q + 1 : Nat) : Int) := by omega
    have hr9 : r8 < 8 := by omega
    rw [← hq] at hown3 hW3 hv3g
    have hx := top_lt N n HN.out
    have hx256 : N / 256 ^ (n / 8) % 256 = N / 256 ^ (n / 8) := Nat.mod_eq_of_lt (by have := pow_r n; omega)
    have hput := Lib.hid (put_bytes N n (b % 2) HN.out (by omega))
    have hplt := Lib.hid (put_lt N n (b % 2) HN.out (by omega))
    rw [hx256, ← hq, ← hr8] at hput
    rw [← hq, ← hr8] at hx
    have hcell : w3.cell? ⟨r, q, none⟩ = some (.int .u8 ((N / 256 ^ q : Nat) : Int)) := by
      rw [hown3.cellAt q (by omega)]
      simp only [u8s, List.getElem?_map, bytesTo_get N (q + 1) q (by omega), Option.map_some]
      rw [hq, hx256]
    have hbyte := Lib.hid (put_byte (N / 256 ^ q) b r8 hr9 hx hb)
    generalize N / 256 ^ q = x at *
    have e0 : w3.cell? ⟨g, 0, none⟩ = some (.slice (some ⟨r, 0, none⟩) (q + 1) cap) := hW3.cell 0
    have e1 : w3.cell? ⟨g, 1, none⟩ = some (.int .i64 (n : Int)) := hW3.cell 1
    have fr := hown3.frozenAt q
    have fg := hW3.frozen 1
    have hrg : r ≠ g := fun e => hv3g (by rw [e]; rfl)
    have hgr : g ≠ r := fun e => hrg e.symm
    have Hq := Lib.hid hq; have Hr8 := Lib.hid hr8; have Hx256 := Lib.hid hx256
    clear hq hr8 hx256
    go_region
    rw [hbyte.out]
    have hWf := (((hW3.far (p := ⟨r, q, none⟩) hgr (.int .u8 ((x + b % 2 * 2 ^ r8 : Nat) : Int))).drew).set 1 (.int .i64 ((n : Int) + 1)))
    have hownf := own_set ((hown3.stored q (.int .u8 ((x + b % 2 * 2 ^ r8 : Nat) : Int))).1) (p := ⟨g, 1, none⟩) (by simpa [Value.ownBlock] using hrg) (.int .i64 ((n : Int) + 1))
    have e0' : (w3.setCell ⟨r, q, none⟩ (.int .u8 ((x + b % 2 * 2 ^ r8 : Nat) : Int))).drew.cell? ⟨g, 1, none⟩ = some (.int .i64 (n : Int)) := (hW3.far (p := ⟨r, q, none⟩) hgr _).cell 1
    have fg' : (w3.setCell ⟨r, q, none⟩ (.int .u8 ((x + b % 2 * 2 ^ r8 : Nat) : Int))).drew.frozen? ⟨g, 1, none⟩ = false := (hW3.far (p := ⟨r, q, none⟩) hgr _).frozen 1
    generalize x + b % 2 * 2 ^ r8 = X at *
    go_wp2
    go_end0
    have hset : u8s (bytesOf (N + b % 2 * 2 ^ n) (n + 1)) = (u8s (bytesTo N (q + 1))).set q (.int .u8 ((X : Nat) : Int)) := by rw [hput.out]; simp [u8s, List.map_set]
    have hlenf : (bytesOf (N + b % 2 * 2 ^ n) (n + 1)).length = q + 1 := by rw [hput.out, List.length_set, bytesTo_length]
    have hq2 := Hq.out
    subst hq2
    refine ⟨rfl, .slice (some ⟨r, 0, none⟩) (n / 8 + 1) cap, ⟨hWf, ?_, hplt.out, hv3g⟩, ((hO3.setCell (p := ⟨r, n / 8, none⟩) hrS _).drew).setCell (fun _ => .inl rfl) _, .inl rfl⟩
    rw [hset, hlenf]
    exact hownf
end Go.Proofs.Ytngnhkghpnamoaa
