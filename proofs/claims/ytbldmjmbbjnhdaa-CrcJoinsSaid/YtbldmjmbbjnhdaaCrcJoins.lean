/- The walk over the statement CrcJoins. -/
import Derived.Test.YtbldmjmbbjnhdaaCrcJoin
import Derived.Test.YtbldmjmbbjnhdaaOwn
import Derived.Deep.RegionHeld3
import Derived.Deep.DrawnRows
namespace Go.Proofs.Ytbldmjmbbjnhdaa
open Go.RowKit Crc
attribute [local go_sem ↓] Go.wp_at_zero Go.wp_at_succ

theorem u8info : (Try.prog.info? 5).map (fun i => (i.zero, i.size, i.bytes)) = some (some (.int .u8 0), 1, 1) := by kernel_rfl

theorem keepB {w W w' : World} (hj : Below W.heap.size W w') (h : Below w.heap.size w W) : Below w.heap.size w w' := h.trans (hj.mono h.size)

theorem join_neg (a b : Nat) (n : Int) (w : World) (ha : a < 4294967296) (hb : b < 4294967296) (hn : -9223372036854775808 ≤ n ∧ n < 9223372036854775808) (h : n < 0) :
    Calls Try.prog 12 #[.int .u32 (a : Int), .int .u32 (b : Int), .int .i64 n] w fun e w' => e = .returned (.int .u32 (a ^^^ b : Nat)) ∧ Below w.heap.size w w' := by
  have hc : cnt n = 0 := by unfold cnt; split <;> omega
  have := join_any a b n w ha hb hn.1 hn.2
  rw [hc] at this
  exact this
theorem join_big (a b : Nat) (n : Int) (w : World) (ha : a < 4294967296) (hb : b < 4294967296) (hn : -9223372036854775808 ≤ n ∧ n < 9223372036854775808) (h : 1048576 ≤ n) :
    Calls Try.prog 12 #[.int .u32 (a : Int), .int .u32 (b : Int), .int .i64 n] w fun e w' => e = .returned (.int .u32 (jn a (cnt 1048576) ^^^ b : Nat)) ∧ Below w.heap.size w w' := by
  have hc : cnt n = cnt 1048576 := by unfold cnt; split <;> omega
  have := join_any a b n w ha hb hn.1 hn.2
  rw [hc] at this
  exact this
theorem join_len (la lb : List Nat) (w : World) (hla : ∀ x ∈ la, x < 256) (hlb : ∀ x ∈ lb, x < 256) (h : lb.length ≤ 500) :
    Calls Try.prog 12 #[.int .u32 (crcOf la : Nat), .int .u32 (crcOf lb : Nat), .int .i64 (lb.length : Nat)] w fun e w' => e = .returned (.int .u32 (crcOf (la ++ lb) : Nat)) ∧ Below w.heap.size w w' := by
  have hc : cnt (lb.length : Nat) = lb.length := by unfold cnt; split <;> omega
  have := join_any (crcOf la) (crcOf lb) (lb.length : Nat) w (crcOf_lt _) (crcOf_lt _) (by omega) (by omega)
  rw [hc, join_eq la lb hla hlb] at this
  exact this

set_option maxRecDepth 100000 in
set_option maxHeartbeats 1600000 in
theorem joins_walk (la : List Nat) (sa : Option Addr) (ca : Nat) (lb : List Nat) (sb : Option Addr) (cb : Nat) (n : Int) (w : World)
    (hla : ∀ x ∈ la, x < 256) (hac : la.length ≤ ca) (hacm : ca ≤ maxLen) (hra : Nums .u8 w w.heap.size sa la)
    (hlb : ∀ x ∈ lb, x < 256) (hbc : lb.length ≤ cb) (hbcm : cb ≤ maxLen) (hrb : Nums .u8 w w.heap.size sb lb) (hn : -9223372036854775808 ≤ n ∧ n < 9223372036854775808) :
    Calls Try.prog 4 #[.slice sa la.length ca, .slice sb lb.length cb, .int .i64 n] w fun e w' => e = .returned (.bool true) ∧ Below w.heap.size w w' := by
  have Hla := Lib.hid hla; clear hla
  have Hlb := Lib.hid hlb; clear hlb
  have Hlena := Lib.hid (Nat.le_trans hac hacm); clear hac hacm
  have Hlenb := Lib.hid (Nat.le_trans hbc hbcm); clear hbc hbcm
  have Hn := Lib.hid hn; clear hn
  by_cases hbig : 500 < la.length
  · have hbi : (500 : Int) < (la.length : Int) := by omega
    go_enter Try.func4, Try.ntmps4
    go_wp2_with (go_at_call 5; refine (live_any _).mono ?_; rintro e w1 ⟨rfl, hb1⟩)
    go_ret
    exact ⟨rfl, hb1⟩
  by_cases hbig2 : 500 < lb.length
  · have hbi : (la.length : Int) ≤ 500 := by omega
    have hbi2 : (500 : Int) < (lb.length : Int) := by omega
    go_enter Try.func4, Try.ntmps4
    go_wp2_with (go_at_call 5; refine (live_any _).mono ?_; rintro e w1 ⟨rfl, hb1⟩)
    go_ret
    exact ⟨rfl, hb1⟩
  have hbi : (la.length : Int) ≤ 500 := by omega
  have hbi2 : (lb.length : Int) ≤ 500 := by omega
  obtain ⟨i0, hi0, hz0, hz1, hz2⟩ := info_parts u8info
  have hown0 := World.ownsRow_lit (base := w.heap.size) (e := 5) (size := 1) w #[] 0 (Nat.le_refl _) (by unfold maxLen; omega) rfl
  go_enter Try.func4, Try.ntmps4
  go_wp2_with (at_builtin; refine app_vals rfl (.tmp 19) (.tmp 20) 22 rfl w.heap.size 5 i0 _ 1 1 Try.underlying22 hi0 hz0 hz1 hz2 rfl (by omega) _ 0 [] rfl hown0 w.heap.size sa la.length ca _ rfl (Vals.of_nums (hra.below ((Below.refl _ _).alloc (Nat.le_refl _) _))) (by simp [Value.oneCell']) (by unfold maxLen; omega) (by omega) (by simp) ?_)
  intro v1 w1 hown1 hg1 _
  have hb1 : Below w.heap.size w w1 := below_of_grown ((Below.refl _ _).alloc (Nat.le_refl _) _) hown0 hg1 (by simp)
  clear hg1
  go_wp2_with (at_builtin; refine app_vals rfl (.tmp 21) (.tmp 22) 22 rfl w.heap.size 5 i0 _ 1 1 Try.underlying22 hi0 hz0 hz1 hz2 rfl (by omega) _ la.length _ rfl hown1 w.heap.size sb lb.length cb _ rfl (Vals.of_nums (hrb.below hb1)) (by simp [Value.oneCell']) (by unfold maxLen; omega) (by omega) hb1.size ?_)
  intro v2 w2 hown2 hg2 _
  have hb2 := below_of_grown hb1 hown1 hg2 hb1.size
  rw [← List.map_append, ← List.length_append] at hown2
  obtain ⟨ac, cc, rfl, hnc, hncm, hvc⟩ := Vals.of_own hown2
  have hrc := hvc.to_nums
  have Hlc := Lib.hid (show ∀ x ∈ la ++ lb, x < 256 from fun x hx => by rcases List.mem_append.1 hx with h | h; exact Hla.out x h; exact Hlb.out x h)
  have Hlenc := Lib.hid (Nat.le_trans hnc hncm)
  have Hblen := Lib.hid (show lb.length ≤ 500 by omega)
  have Hjl := fun W => Lib.hid (join_len la lb W Hla.out Hlb.out Hblen.out)
  clear hown0 hg2 hown1 hown2 hnc hncm hvc hb1 hi0 hz0 hz1 hz2
  have hA := crcOf_lt la
  have hB := crcOf_lt lb
  have hx := u32_xor_nat (crcOf la) (crcOf lb) hA hB
  have hao := fun (W : World) (h : Below w.heap.size w W) => Lib.hid (rof_any la sa ca W Hla.out Hlena.out ((hra.below h).more h.size))
  have hbo := fun (W : World) (h : Below w.heap.size w W) => Lib.hid (rof_any lb sb cb W Hlb.out Hlenb.out ((hrb.below h).more h.size))
  have hco := fun (W : World) (h : Below w2.heap.size w2 W) => Lib.hid (rof_any (la ++ lb) ac cc W Hlc.out Hlenc.out ((hrc.below h).more h.size))
  generalize hlc : la ++ lb = lc at *
  clear hlc
  generalize crcOf la = A at *
  generalize crcOf lb = B at *
  generalize crcOf lc = C at *
  have Hao := Lib.hid hao; have Hbo := Lib.hid hbo; have Hco := Lib.hid hco; have HJ := Lib.hid Hjl
  clear hao hbo hco Hjl
  have hself := Below.refl w2.heap.size w2
  have h3 : n < 0 ∨ (0 ≤ n ∧ n ≤ 1048576) ∨ 1048576 < n := by omega
  have HN1 : n < 0 → Hid (∀ W, Hid (Calls Try.prog 12 #[.int .u32 (A : Int), .int .u32 (B : Int), .int .i64 n] W fun e w' => e = .returned (.int .u32 (A ^^^ B : Nat)) ∧ Below W.heap.size W w')) := fun h => Lib.hid fun W => Lib.hid (join_neg A B n W hA hB Hn.out h)
  have HN2 : 1048576 < n → Hid (∀ W, Hid (Calls Try.prog 12 #[.int .u32 (A : Int), .int .u32 (B : Int), .int .i64 n] W fun e w' => e = .returned (.int .u32 (jn A (cnt 1048576) ^^^ B : Nat)) ∧ Below W.heap.size W w')) := fun h => Lib.hid fun W => Lib.hid (join_big A B n W hA hB Hn.out (by omega))
  have HN3 : Hid (∀ W, Hid (Calls Try.prog 12 #[.int .u32 (A : Int), .int .u32 (B : Int), .int .i64 1048576] W fun e w' => e = .returned (.int .u32 (jn A (cnt 1048576) ^^^ B : Nat)) ∧ Below W.heap.size W w')) := Lib.hid fun W => Lib.hid (join_big A B 1048576 W hA hB (by omega) (by omega))
  generalize jn A (cnt 1048576) ^^^ B = J at *
  have hlive := Lib.hid live_any
  rcases h3 with h3 | ⟨h3, h4⟩ | h3
  · have HN := HN1 h3
    have hlt : ¬ (0 ≤ n) := by omega
    have hle : n ≤ 1048576 := by omega
    clear HN1 HN2 HN3 hA hB
    go_wp2_with (first
      | (go_at_call 8; (with_reducible refine ((Hao.out _ ?_).out).mono ?_); (· assumption); rintro e w' ⟨rfl, rfl⟩)
      | (go_at_call 8; (with_reducible refine ((Hbo.out _ ?_).out).mono ?_); (· assumption); rintro e w' ⟨rfl, rfl⟩)
      | (go_at_call 8; (with_reducible refine ((Hco.out _ ?_).out).mono ?_); (· assumption); rintro e w' ⟨rfl, rfl⟩)
      | (go_at_call 12; (with_reducible refine ((HN.out _).out).mono ?_); rintro e w' ⟨rfl, hj⟩; have hk := keepB hj (by assumption : Below w.heap.size w _); have hk2 := keepB hj (by assumption : Below w2.heap.size w2 _))
      | (go_at_call 12; (with_reducible refine ((HJ.out _).out).mono ?_); rintro e w' ⟨rfl, hj⟩; have hk := keepB hj (by assumption : Below w.heap.size w _); have hk2 := keepB hj (by assumption : Below w2.heap.size w2 _))
      | (go_at_call 5; (with_reducible refine (hlive.out _).mono ?_); rintro e w' ⟨rfl, hj⟩; have hk := keepB hj (by assumption : Below w.heap.size w _)))
    go_ret
    exact ⟨rfl, by assumption⟩
  · clear HN1 HN2 HN3 hA hB
    go_wp2_with (first
      | (go_at_call 8; (with_reducible refine ((Hao.out _ ?_).out).mono ?_); (· assumption); rintro e w' ⟨rfl, rfl⟩)
      | (go_at_call 8; (with_reducible refine ((Hbo.out _ ?_).out).mono ?_); (· assumption); rintro e w' ⟨rfl, rfl⟩)
      | (go_at_call 8; (with_reducible refine ((Hco.out _ ?_).out).mono ?_); (· assumption); rintro e w' ⟨rfl, rfl⟩)
      | (go_at_call 12; (with_reducible refine ((HJ.out _).out).mono ?_); rintro e w' ⟨rfl, hj⟩; have hk := keepB hj (by assumption : Below w.heap.size w _); have hk2 := keepB hj (by assumption : Below w2.heap.size w2 _))
      | (go_at_call 5; (with_reducible refine (hlive.out _).mono ?_); rintro e w' ⟨rfl, hj⟩; have hk := keepB hj (by assumption : Below w.heap.size w _)))
    go_ret
    exact ⟨rfl, by assumption⟩
  · have HN := HN2 h3
    have hlt : 0 ≤ n := by omega
    have hle : ¬ n ≤ 1048576 := by omega
    clear HN1 HN2 hA hB
    go_wp2_with (first
      | (go_at_call 8; (with_reducible refine ((Hao.out _ ?_).out).mono ?_); (· assumption); rintro e w' ⟨rfl, rfl⟩)
      | (go_at_call 8; (with_reducible refine ((Hbo.out _ ?_).out).mono ?_); (· assumption); rintro e w' ⟨rfl, rfl⟩)
      | (go_at_call 8; (with_reducible refine ((Hco.out _ ?_).out).mono ?_); (· assumption); rintro e w' ⟨rfl, rfl⟩)
      | (go_at_call 12; (with_reducible refine ((HN.out _).out).mono ?_); rintro e w' ⟨rfl, hj⟩; have hk := keepB hj (by assumption : Below w.heap.size w _); have hk2 := keepB hj (by assumption : Below w2.heap.size w2 _))
      | (go_at_call 12; (with_reducible refine ((HN3.out _).out).mono ?_); rintro e w' ⟨rfl, hj⟩; have hk := keepB hj (by assumption : Below w.heap.size w _); have hk2 := keepB hj (by assumption : Below w2.heap.size w2 _))
      | (go_at_call 12; (with_reducible refine ((HJ.out _).out).mono ?_); rintro e w' ⟨rfl, hj⟩; have hk := keepB hj (by assumption : Below w.heap.size w _); have hk2 := keepB hj (by assumption : Below w2.heap.size w2 _))
      | (go_at_call 5; (with_reducible refine (hlive.out _).mono ?_); rintro e w' ⟨rfl, hj⟩; have hk := keepB hj (by assumption : Below w.heap.size w _)))
    go_ret
    exact ⟨rfl, by assumption⟩
end Go.Proofs.Ytbldmjmbbjnhdaa
