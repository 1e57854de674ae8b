/- Layer 34: SameTexts, live. -/
import Derived.Test.YthbgijpakjfjkaaLru8
namespace Go.Proofs.Ythbgijpakjfjkaa
open Go.RowKit
set_option linter.unusedVariables false
set_option maxRecDepth 100000

def txt (l : List ByteArray) : List Value := l.map Value.string
theorem Vals.txt_at {w : World} {B n : Nat} {a : Option Addr} {l : List ByteArray} (h : Vals w B 1 a n (txt l)) (i : Nat) (hi : i < l.length) : ∃ b off, a = some ⟨b, off, none⟩ ∧ w.cell? ⟨b, off + i, none⟩ = some (.string (l[i]'hi)) := by
  obtain ⟨b, off, e, _, hc⟩ := h.2 (by unfold txt; simp; omega)
  refine ⟨b, off, e, ?_⟩
  have := hc i (by unfold txt; simpa using hi)
  rw [this]
  simp [txt, hi]
set_option maxHeartbeats 4000000 in
theorem same_texts (l : List ByteArray) (a b : Option Addr) (c d B : Nat) (w : World) (h1 : Vals w B 1 a l.length (txt l)) (h2 : Vals w B 1 b l.length (txt l)) (hl : l.length ≤ 1000000000) :
    Calls Try.prog 16 #[.slice a l.length c, .slice b l.length d] w fun e w' => e = .returned (.bool true) ∧ Below w.heap.size w w' := by
  have H1 := Lib.hid h1
  have H2 := Lib.hid h2
  clear h1 h2
  go_enter Try.func16, Try.ntmps16
  go_wp2_with fail
  go_loopw [5] (fun i W => ∃ k : Nat, i = .int .i64 (k : Int) ∧ k ≤ l.length ∧ ∃ j, W = w.drewN j) (fun i _ => l.length - (intOf i).toNat)
  case atStart => exact ⟨0, rfl, Nat.zero_le _, 0, rfl⟩
  case round =>
    obtain ⟨k, rfl, hk, j, rfl⟩ := hrel
    by_cases hlt : k < l.length
    · obtain ⟨b1, o1, rfl, hc1⟩ := H1.out.txt_at k hlt
      obtain ⟨b2, o2, rfl, hc2⟩ := H2.out.txt_at k hlt
      obtain ⟨s, hs⟩ : ∃ s, s = l[k] := ⟨_, rfl⟩
      rw [← hs] at hc1 hc2
      clear hs
      go_wp2_with fail
      go_quiet (fail)
      go_wp2_with fail
      go_roundw
      case rel => exact ⟨k + 1, by go_num, hlt, _, rfl⟩
      case measure => simp [intOf] <;> omega
    · obtain rfl : k = l.length := by omega
      go_wp2_with fail
      go_ret
      exact ⟨rfl, ⟨rfl, rfl, rfl, Nat.le_refl _, fun _ _ => rfl⟩⟩
def kA : ByteArray := ⟨#[97]⟩
def kB : ByteArray := ⟨#[98]⟩
def kC : ByteArray := ⟨#[99]⟩
theorem sz1 {x : En} {k : ByteArray} (h : x.key = k) (hb : x.bs = []) (hk : k.size = 1) : x.size = 1 := by unfold En.size; rw [h, hb, hk]; rfl
theorem fnd_skip {x : En} {es : List En} {k k2 : ByteArray} (h : x.key = k) (hk : kb k ≠ kb k2) : fnd (x :: es) k2 = fnd es k2 := by rw [fnd_cons, if_neg (by rw [h]; exact hk)]
theorem live1 (x1 : En) (h1 : x1.key = kA) (b1 : x1.bs = []) : evict 2 100 ((wo [] kA).length + 1) (x1 :: wo [] kA) = [x1] := by
  have s1 := sz1 h1 b1 rfl
  rw [wo_none (show fnd [] kA = none from rfl)]
  exact evict_stop (by simp) (by simp [tot, s1])
theorem live2 (x1 x2 : En) (h1 : x1.key = kA) (b1 : x1.bs = []) (h2 : x2.key = kB) (b2 : x2.bs = []) : evict 2 100 ((wo [x1] kB).length + 1) (x2 :: wo [x1] kB) = [x2, x1] := by
  have s1 := sz1 h1 b1 rfl
  have s2 := sz1 h2 b2 rfl
  rw [wo_none (show fnd [x1] kB = none from by rw [fnd_skip h1 (by decide)]; rfl)]
  exact evict_stop (by simp) (by simp [tot, s1, s2])
theorem live3 (x1 x2 : En) (h1 : x1.key = kA) (h2 : x2.key = kB) : fnd ([x2] ++ x1 :: []) kA = some x1 := by
  show fnd [x2, x1] kA = some x1
  rw [fnd_skip h2 (by decide), fnd_cons, if_pos (by rw [h1])]
theorem live4 (x1 x2 x3 : En) (h1 : x1.key = kA) (b1 : x1.bs = []) (h2 : x2.key = kB) (b2 : x2.bs = []) (h3 : x3.key = kC) (b3 : x3.bs = []) : evict 2 100 ((wo (x1 :: ([x2] ++ [])) kC).length + 1) (x3 :: wo (x1 :: ([x2] ++ [])) kC) = [x3, x1] := by
  have s1 := sz1 h1 b1 rfl
  have s2 := sz1 h2 b2 rfl
  have s3 := sz1 h3 b3 rfl
  rw [wo_none (show fnd (x1 :: ([x2] ++ [])) kC = none from by rw [fnd_skip h1 (by decide)]; show fnd [x2] kC = none; rw [fnd_skip h2 (by decide)]; rfl)]
  show evict 2 100 (2 + 1) [x3, x1, x2] = [x3, x1]
  rw [evict_go (.inl (by simp))]
  exact evict_stop (by simp) (by simp [tot, s1, s3])
def Live34 (w : World) (e : Ending) (w' : World) : Prop := e = .returned (.bool true) ∧ Below w.heap.size w w'
set_option maxHeartbeats 8000000 in
theorem live34_any (w : World) : Calls Try.prog 7 #[] w (Live34 w) := by
  have Hnew := Lib.hid (new_any 2 100 2 100 w (.inr ⟨rfl, by omega⟩) (.inr ⟨rfl, by omega⟩))
  go_enter Try.func7, Try.ntmps7
  go_wp2_with fail
  refine Hnew.out.mono ?_
  rintro e X0 ⟨g, rfl, hL0, hB0⟩
  have P1 := Lib.hid (put_yes g w.heap.size 2 100 0 0 0 none [] [] kA X0 hL0 (by decide) (by decide) (by decide) (by decide) (by decide) Nums.nil_ (fun _ => ⟨rfl, rfl⟩) (by simp) (by decide) (by decide))
  have HB0 := Lib.hid hB0
  clear Hnew hL0 hB0
  go_wp2_with fail
  refine P1.out.mono ?_
  rintro e X1 ⟨rfl, x1, k1, b1, hL1, hO1⟩
  rw [live1 x1 k1 b1] at hL1
  have P2 := Lib.hid (put_yes g w.heap.size 2 100 0 0 0 none [] [x1] kB X1 hL1 (by decide) (by decide) (by decide) (by decide) (by decide) Nums.nil_ (fun _ => ⟨rfl, rfl⟩) (by simp) (by simp [tot, sz1 k1 b1 rfl]) (by simp))
  have HB1 := Lib.hid (HB0.out.trans (hO1.low HB0.out.size))
  clear P1 hL1 hO1 HB0
  go_wp2_with fail
  refine P2.out.mono ?_
  rintro e X2 ⟨rfl, x2, k2, b2, hL2, hO2⟩
  rw [live2 x1 x2 k1 b1 k2 b2] at hL2
  have G := Lib.hid (get_yes g w.heap.size 2 100 0 0 [x2] [] x1 kA X2 hL2 (live3 x1 x2 k1 k2) (by decide) (by decide) (by rw [b1]; simp))
  have HB2 := Lib.hid (HB1.out.trans (hO2.low HB1.out.size))
  clear P2 hL2 hO2 HB1
  go_wp2_with fail
  refine G.out.mono ?_
  rintro e X3 ⟨v, rfl, _, hL3, hO3⟩
  have P3 := Lib.hid (put_yes g w.heap.size 2 100 1 0 0 none [] (x1 :: ([x2] ++ [])) kC X3 hL3 (by decide) (by decide) (by decide) (by decide) (by decide) Nums.nil_ (fun _ => ⟨rfl, rfl⟩) (by simp) (by simp [tot, sz1 k1 b1 rfl, sz1 k2 b2 rfl]) (by simp))
  have HB3 := Lib.hid (HB2.out.trans (hO3.low HB2.out.size))
  clear G hL3 hO3 HB2
  go_wp2_with fail
  refine P3.out.mono ?_
  rintro e X4 ⟨rfl, x3, k3, b3, hL4, hO4⟩
  rw [live4 x1 x2 x3 k1 b1 k2 b2 k3 b3] at hL4
  have K := Lib.hid (keys_any g w.heap.size 2 100 1 0 [x3, x1] X4 hL4 (by simp))
  have HB4 := Lib.hid (HB3.out.trans (hO4.low HB3.out.size))
  clear P3 hL4 hO4 HB3
  go_wp2_with fail
  refine K.out.mono ?_
  rintro e X5 ⟨v5, rfl, hown, hB5⟩
  have e5 : strs [x3, x1] = txt [kC, kA] := by simp [strs, txt, k3, k1]
  rw [e5] at hown
  obtain ⟨a, c, rfl, _, _, hV⟩ := Vals.of_own hown
  have hB6 := HB4.out.trans (hB5.mono HB4.out.size)
  have ST := Lib.hid (same_texts [kC, kA] a (some ⟨X5.heap.size, 0, none⟩) c 2 (X5.heap.size + 1) (X5.alloc (.cells #[.string kC, .string kA] 9)) ((hV.below ((Below.refl _ _).alloc (Nat.le_refl _) _)).more (by omega)) (by
    have := Vals.of_block (w := X5.alloc (.cells #[.string kC, .string kA] 9)) (xs := [.string kC, .string kA]) (n := 2) (size := 1) (heap_alloc_new X5 _) rfl
    simpa [txt] using this) (by simp))
  have HB6 := Lib.hid (hB6.alloc hB6.size (.cells #[.string kC, .string kA] 9))
  clear K hown hV hB5 hB6 HB4 e5
  go_wp2_with fail
  refine ST.out.mono ?_
  rintro e X6 ⟨rfl, hB7⟩
  have HB7 := Lib.hid (HB6.out.trans (hB7.mono HB6.out.size))
  clear ST hB7 HB6
  go_wp2_with fail
  go_ret
  exact ⟨rfl, HB7.out⟩
end Go.Proofs.Ythbgijpakjfjkaa
