/- Walks over layer 15: the law of Unquote. -/
import Derived.Test.YtdaipnlgloafdaaRefUnqOut
import Derived.Test.YtdaipnlgloafdaaUtfQuotesW
namespace Go.Proofs.Ytdaipnlgloafdaa
open Go.RowKit Utf
set_option linter.unusedVariables false
set_option maxRecDepth 100000

theorem both_any (b : ByteArray) (a : Int) (hs : b.size ≤ 10000) : ∃ (T : ByteArray) (n r : Int), ∀ W,
    (Calls Try.prog 13 #[.string b, .int .i64 a] W fun e w' => e = .returned (.tuple #[.string T, .int .i64 n, .int .i64 r]) ∧ Below W.heap.size W w') ∧
    (Calls Try.prog 15 #[.string b, .int .i64 a] W fun e w' => e = .returned (.tuple #[.string T, .int .i64 n, .int .i64 r]) ∧ Below W.heap.size W w') := by
  have out : ∀ (r : Int) (W : World), (∀ e w', OutPost W r e w' → e = .returned (.tuple #[.string ⟨#[]⟩, .int .i64 0, .int .i64 r]) ∧ Below W.heap.size W w') := fun r W e w' ⟨h1, h2⟩ => ⟨h1, h2 ▸ Below.refl _ _⟩
  by_cases h1 : a < 0
  · exact ⟨_, _, _, fun W => ⟨(unquote_neg b a W h1).mono (out _ W), (refUnquote_neg b a W h1).mono (out _ W)⟩⟩
  · by_cases h2 : (b.size : Int) < a
    · exact ⟨_, _, _, fun W => ⟨(unquote_far b a W (by omega) h2).mono (out _ W), (refUnquote_far b a W (by omega) h2).mono (out _ W)⟩⟩
    · obtain ⟨A, rfl⟩ : ∃ A : Nat, a = (A : Int) := ⟨a.toNat, by omega⟩
      by_cases h3 : A = b.size
      · subst h3
        exact ⟨_, _, _, fun W => ⟨(unquote_at_end b W).mono (out _ W), (refUnquote_at_end b W).mono (out _ W)⟩⟩
      · by_cases h4 : (bs b).getD A 0 = 34
        · exact ⟨_, _, _, fun W => ⟨unquote_in b A W hs (by omega) h4 _ rfl, refUnquote_in b A W hs (by omega) h4 _ rfl⟩⟩
        · exact ⟨_, _, _, fun W => ⟨(unquote_none b A _ W (by omega) rfl h4).mono (out _ W), (refUnquote_none b A _ W (by omega) rfl h4).mono (out _ W)⟩⟩

set_option maxHeartbeats 4000000 in
theorem utfUnquotes_walk (b : ByteArray) (a : Int) (w : World) (hs : b.size ≤ maxLen) (ha : -9223372036854775808 ≤ a ∧ a < 9223372036854775808) :
    Calls Try.prog 5 #[.string b, .int .i64 a] w fun e w' => e = .returned (.bool true) ∧ Below w.heap.size w w' := by
  have Hl := Lib.hid live_any
  by_cases h1 : 1000 < b.size
  · have hq : decide ((1000 : Int) < (b.size : Int)) = true := decide_eq_true (by omega)
    have hq2 : decide (1000 < b.size) = true := decide_eq_true (by omega)
    go_enter Try.func5, Try.ntmps5
    go_wp2_with fail
    refine (Hl.out _).mono ?_
    rintro e W ⟨rfl, hb⟩
    have HB := Lib.hid hb
    clear hb
    go_wp2_with fail
    go_ret
    exact ⟨rfl, HB.out⟩
  · have hq : decide ((1000 : Int) < (b.size : Int)) = false := decide_eq_false (by omega)
    have hq2 : decide (1000 < b.size) = false := decide_eq_false (by omega)
    obtain ⟨T, n, r, H⟩ := both_any b a (by omega)
    have H1 := Lib.hid fun W => (H W).1
    have H2 := Lib.hid fun W => (H W).2
    have Hc := Lib.hid code_any
    clear H h1
    go_enter Try.func5, Try.ntmps5
    go_wp2_with fail
    refine (H1.out _).mono ?_
    rintro e W1 ⟨rfl, hb1⟩
    have B1 := Lib.hid hb1
    clear hb1
    go_wp2_with fail
    refine (H2.out _).mono ?_
    rintro e W2 ⟨rfl, hb2⟩
    have B2 := Lib.hid (keepBelow hb2 B1.out)
    clear hb2
    go_wp2_with fail
    refine (Hc.out _ _).mono ?_
    rintro e W3 ⟨rfl, rfl⟩
    go_wp2_with fail
    refine (Hl.out _).mono ?_
    rintro e W4 ⟨rfl, hb4⟩
    have B4 := Lib.hid (keepBelow hb4 B2.out)
    clear hb4
    go_wp2_with fail
    go_ret
    exact ⟨rfl, B4.out⟩
end Go.Proofs.Ytdaipnlgloafdaa
