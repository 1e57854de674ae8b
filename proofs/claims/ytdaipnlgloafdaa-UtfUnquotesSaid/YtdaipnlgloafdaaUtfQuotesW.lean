/- Walks over layer 15: the law of Quote. -/
import Derived.Test.YtdaipnlgloafdaaUnqRun
import Derived.Test.YtdaipnlgloafdaaRefQuote
namespace Go.Proofs.Ytdaipnlgloafdaa
open Go.RowKit Utf
set_option linter.unusedVariables false
set_option maxRecDepth 100000

theorem mid_get (A M B : List Nat) (j : Nat) (h : j < M.length) : (A ++ M ++ B).getD (A.length + j) 0 = M.getD j 0 := by
  rw [List.getD_eq_getElem?_getD, List.append_assoc, List.getElem?_append_right (by omega), Nat.add_sub_cancel_left, List.getElem?_append_left h, ← List.getD_eq_getElem?_getD]

set_option maxHeartbeats 4000000 in
theorem utfQuotes_walk (s a t : ByteArray) (w : World) (hs : s.size ≤ reachBytes) (ha : a.size ≤ reachBytes) (ht : t.size ≤ reachBytes) :
    Calls Try.prog 4 #[.string s, .string a, .string t] w fun e w' => e = .returned (.bool true) ∧ Below w.heap.size w w' := by
  have Hl := Lib.hid live_any
  unfold reachBytes at hs ha ht
  have hw : IntKind.i64.wrap ((s.size : Int) + (a.size : Int)) = (s.size : Int) + (a.size : Int) := IntWalk.i64_in _ ⟨by omega, by omega⟩
  by_cases h1 : 1000 < s.size + a.size
  · have hq : decide ((1000 : Int) < (s.size : Int) + (a.size : Int)) = true := decide_eq_true (by omega)
    go_enter Try.func4, Try.ntmps4
    go_wp2_with fail
    refine (Hl.out _).mono ?_
    rintro e W ⟨rfl, hb⟩
    have HB := Lib.hid hb
    clear hb
    go_wp2_with fail
    go_ret
    exact ⟨rfl, HB.out⟩
  · have hq : decide ((1000 : Int) < (s.size : Int) + (a.size : Int)) = false := decide_eq_false (by omega)
    by_cases h2 : 1000 < t.size
    · have hq2 : decide ((1000 : Int) < (t.size : Int)) = true := decide_eq_true (by omega)
      go_enter Try.func4, Try.ntmps4
      go_wp2_with fail
      refine (Hl.out _).mono ?_
      rintro e W ⟨rfl, hb⟩
      have HB := Lib.hid hb
      clear hb
      go_wp2_with fail
      go_ret
      exact ⟨rfl, HB.out⟩
    · have hq2 : decide ((1000 : Int) < (t.size : Int)) = false := decide_eq_false (by omega)
      cases hv : val (bs s) (s.size + 1) 0
      · have H1 := Lib.hid fun W => quote_no s W (by omega) (s.size + 1) (by omega) hv
        have H2 := Lib.hid fun W => refQuote_no s W (by omega) (s.size + 1) (by omega) hv
        have H3 := Lib.hid fun W => refValid_any s W (by omega) false (s.size + 1) (by omega) hv
        clear hv
        go_enter Try.func4, Try.ntmps4
        go_wp2_with fail
        refine (H1.out _).mono ?_
        rintro e W1 ⟨rfl, hb1⟩
        have B1 := Lib.hid hb1
        clear hb1
        go_wp2_with fail
        refine (H2.out _).mono ?_
        rintro e W2 ⟨rfl, hb2⟩
        have B2 := Lib.hid (keepBelow hb2 B1.out)
        clear hb2
        go_wp2_with fail
        refine (H3.out _).mono ?_
        rintro e W3 ⟨rfl, rfl⟩
        go_wp2_with fail
        refine (Hl.out _).mono ?_
        rintro e W4 ⟨rfl, hb4⟩
        have B4 := Lib.hid (keepBelow hb4 B2.out)
        clear hb4
        go_wp2_with fail
        go_ret
        exact ⟨rfl, B4.out⟩
      · have H1 := Lib.hid fun W => quote_yes s W (by omega) (s.size + 1) (by omega) hv
        have H2 := Lib.hid fun W => refQuote_yes s W (by omega) (s.size + 1) (by omega) hv
        have H3 := Lib.hid fun W => refValid_any s W (by omega) true (s.size + 1) (by omega) hv
        have hlen := bs_length s
        have hqs := qt_len (bs s)
        have hqd := qtd_len (bs s)
        have hqz := strOf_size (qtd (bs s))
        have hsz : (a ++ strOf (qtd (bs s)) ++ t).size = a.size + (qtd (bs s)).length + t.size := by rw [ByteArray.size_append, ByteArray.size_append, hqz]
        have H4 : Hid (∀ W, Calls Try.prog 13 #[.string (a ++ strOf (qtd (bs s)) ++ t), .int .i64 (a.size : Int)] W fun e w' => e = .returned (.tuple #[.string s, .int .i64 ((a.size : Int) + ((strOf (qtd (bs s))).size : Int)), .int .i64 0]) ∧ Below W.heap.size W w') := fun W => by
          have := unquote_qtd (a ++ strOf (qtd (bs s)) ++ t) a.size (bs s) W (by omega) (bs_lt s) (by omega) (fun j hj => by
            rw [bs_app, bs_app, bs_strOf _ (qtd_lt _ (bs_lt s)), ← bs_length a]
            exact mid_get _ _ _ _ hj) (by omega) (s.size + 1) (by omega) hv
          rw [strOf_bs] at this
          rw [hqz]
          simpa using this
        have Hc := Lib.hid code_any
        have k1 := add_run a (strOf (qtd (bs s))) (by omega) (by omega)
        have k2 := add_run (a ++ strOf (qtd (bs s))) t (by rw [ByteArray.size_append]; omega) (by omega)
        have hw2 : IntKind.i64.wrap ((a.size : Int) + ((strOf (qtd (bs s))).size : Int)) = (a.size : Int) + ((strOf (qtd (bs s))).size : Int) := IntWalk.i64_in _ ⟨by omega, by omega⟩
        clear hv hlen hqs hqd hqz hsz
        generalize strOf (qtd (bs s)) = Q at *
        go_enter Try.func4, Try.ntmps4
        go_wp2_with fail
        refine (H1.out _).mono ?_
        rintro e W1 ⟨rfl, hb1⟩
        have B1 := Lib.hid hb1
        clear hb1
        go_wp2_with fail
        refine (H2.out _).mono ?_
        rintro e W2 ⟨rfl, hb2⟩
        have B2 := Lib.hid (keepBelow hb2 B1.out)
        clear hb2
        go_wp2_with fail
        refine (H3.out _).mono ?_
        rintro e W3 ⟨rfl, rfl⟩
        go_wp2_with fail
        refine (H4.out _).mono ?_
        rintro e W4 ⟨rfl, hb4⟩
        have B4 := Lib.hid (keepBelow hb4 B2.out)
        clear hb4
        go_wp2_with fail
        refine (Hc.out _ _).mono ?_
        rintro e W5 ⟨rfl, rfl⟩
        go_wp2_with fail
        refine (Hl.out _).mono ?_
        rintro e W6 ⟨rfl, hb6⟩
        have B6 := Lib.hid (keepBelow hb6 B4.out)
        clear hb6
        go_wp2_with fail
        go_ret
        exact ⟨rfl, B6.out⟩
end Go.Proofs.Ytdaipnlgloafdaa
