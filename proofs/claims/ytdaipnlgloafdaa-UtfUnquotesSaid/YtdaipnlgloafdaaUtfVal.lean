/- Walks over layer 15: Valid; the reference's tail, one, Valid. -/
import Derived.Test.YtdaipnlgloafdaaUtfValid
namespace Go.Proofs.Ytdaipnlgloafdaa
open Go.RowKit Utf
set_option linter.unusedVariables false
set_option maxRecDepth 100000

theorem bs_extract (t : ByteArray) (n : Nat) (h : n ≤ t.size) : bs (t.extract n t.size) = (bs t).drop n := by
  have e : (t.extract n t.size).data.toList = t.data.toList.drop n := by
    rw [ByteArray.data_extract, Array.toList_extract]
    show (t.data.toList.drop n).take (t.size - n) = _
    have hs : t.data.toList.length = t.size := rfl
    exact List.take_of_length_le (by rw [List.length_drop, hs]; exact Nat.le_refl _)
  unfold bs
  rw [e, List.map_drop]

set_option maxHeartbeats 4000000 in
theorem valid_any (s : ByteArray) (w : World) (hm : s.size ≤ 100000) (R : Bool) (f0 : Nat) (hf0 : s.size < f0) (hR : val (bs s) f0 0 = R) : Calls Try.prog 7 #[.string s] w fun e w' => e = .returned (.bool R) ∧ w = w' := by
  have hl := bs_length s
  obtain ⟨L, hL⟩ : ∃ L, L = s.size := ⟨_, rfl⟩
  have HL : Hid ((bs s).length = L) := by show _ = _; rw [hL]; exact hl
  have HR := Lib.hid hR
  have Hf : Hid (L < f0) := by rw [hL]; exact hf0
  have hL1 : L ≤ 100000 := by omega
  have H0 : Hid (bs s = (bs s).drop 0) := by show _ = _; simp
  have Hs : Hid (s.size = L) := hL.symm
  clear hl hL hR hf0 hm
  go_enter Try.func7, Try.ntmps7
  go_wp2_with fail
  go_loop [0] (fun u => ∃ (t : ByteArray) (i f : Nat), u = .string t ∧ i ≤ L ∧ Hid (t.size = L - i) ∧ Hid (bs t = (bs s).drop i) ∧ Hid (L - i < f) ∧ Hid (val (bs s) f i = R)) (fun u => match u with | .string t => t.size | _ => 0)
  case atStart => exact ⟨s, 0, f0, rfl, Nat.zero_le _, by have := Hs.out; show s.size = L - 0; omega, H0, by have := Hf.out; show L - 0 < f0; omega, HR⟩
  case round =>
    obtain ⟨t, i, f, rfl, hi, ht, hbt, hf, hv⟩ := hrel
    obtain ⟨f, rfl⟩ : ∃ g, f = g + 1 := ⟨f - 1, by have := hf.out; omega⟩
    by_cases hlt : i < L
    · have hts : 0 < t.size := by have := ht.out; omega
      have ht1 : t.size ≤ 100000 := by have := ht.out; omega
      have hq := seq_any t w hts ht1
      rw [hbt.out, one_drop] at hq
      have Hq := Lib.hid hq
      have hlL := HL.out
      have hle := one_le (l := bs s) (i := i) (by omega)
      have Hbad := Lib.hid fun h => val_bad (l := bs s) (f := f) (i := i) (by omega) h
      have Hmore := Lib.hid fun h => val_more (l := bs s) (f := f) (i := i) (by omega) h
      have Hgl := Lib.hid (fun n h => bs_extract t n h)
      generalize one (bs s) i = n at *
      by_cases hn : n = 0
      · subst hn
        have hR : false = R := (Hbad.out rfl).symm.trans hv.out
        subst hR
        clear hq hlL hle
        go_wp2_with fail
        refine Hq.out.mono ?_
        rintro e W ⟨rfl, rfl⟩
        go_wp2_with fail
        go_ret
        exact ⟨rfl, rfl⟩
      · have HV : Hid (val (bs s) f (i + n) = R) := (Hmore.out hn).symm.trans hv.out
        have hnt : n ≤ t.size := by have := ht.out; omega
        have hbe : Hid (bs (t.extract n t.size) = (bs s).drop (i + n)) := by show _ = _; rw [Hgl.out n hnt, hbt.out, List.drop_drop]
        have hsz : (t.extract n t.size).size = t.size - n := by
          have h1 := bs_length (t.extract n t.size)
          rw [Hgl.out n hnt, List.length_drop, bs_length] at h1
          omega
        have Hsz := Lib.hid hsz
        have HF : Hid (L - (i + n) < f) := by have := hf.out; show L - (i + n) < f; omega
        have hn0 : ((n : Int) == 0) = false := by simp; omega
        have hnl : i + n ≤ L := by omega
        have hnpos : 0 < n := by omega
        clear hq hlL hle hsz hn
        go_wp2_with fail
        refine Hq.out.mono ?_
        rintro e W ⟨rfl, rfl⟩
        go_wp2_with fail
        go_round
        case rel => exact ⟨t.extract n t.size, i + n, f, rfl, hnl, by have := ht.out; show _ = _; rw [Hsz.out]; omega, hbe, HF, HV⟩
        case measure => (show (t.extract n t.size).size < t.size); rw [Hsz.out]; omega
    · have hR : true = R := (val_end (l := bs s) (f := f) (i := i) (by rw [HL.out]; exact hlt)).symm.trans hv.out
      subst hR
      have ht0 : t.size = 0 := by have := ht.out; omega
      clear hlt
      go_wp2_with fail
      go_ret
      exact ⟨rfl, rfl⟩

/-! The reference's. -/
theorem tail_any (s : ByteArray) (i lo hi : Nat) (w : World) (hm : s.size ≤ 100000) : Calls Try.prog 23 #[.string s, .int .i64 (i : Int), .int .i64 (lo : Int), .int .i64 (hi : Int)] w fun e w' => e = .returned (.bool (tl (bs s) i lo hi)) ∧ w = w' := by
  have hl := bs_length s
  have e : Hid (tl (bs s) i lo hi = (decide (i < s.size) && (decide (lo ≤ (bs s).getD i 0) && decide ((bs s).getD i 0 ≤ hi)))) := by show _ = _; unfold tl; rw [hl]
  by_cases hlt : i < s.size
  · have hg := bs_get s i hlt
    have hc := get_lt s i
    generalize (bs s).getD i 0 = c at *
    by_cases h1 : lo ≤ c
    · by_cases h2 : c ≤ hi
      · have he : tl (bs s) i lo hi = true := by rw [e.out]; simp [hlt, h1, h2]
        rw [he]
        clear he hl
        go_enter Try.func23, Try.ntmps23
        go_wp2_with fail
        go_ret
        exact ⟨rfl, rfl⟩
      · have he : tl (bs s) i lo hi = false := by rw [e.out]; simp [h2]
        rw [he]
        have g2 : decide (c ≤ hi) = false := decide_eq_false h2
        clear he hl
        go_enter Try.func23, Try.ntmps23
        go_wp2_with fail
        go_ret
        exact ⟨by first | rfl | exact ret_bool (by first | exact g2 | (simp; omega)), rfl⟩
    · have he : tl (bs s) i lo hi = false := by rw [e.out]; simp [h1]
      rw [he]
      have g1 : decide (lo ≤ c) = false := decide_eq_false h1
      clear he hl
      go_enter Try.func23, Try.ntmps23
      go_wp2_with fail
      go_ret
      exact ⟨rfl, rfl⟩
  · have he : tl (bs s) i lo hi = false := by rw [e.out]; simp [hlt]
    rw [he]
    have g1 : decide (i < s.size) = false := decide_eq_false hlt
    clear he hl
    go_enter Try.func23, Try.ntmps23
    go_wp2_with fail
    go_ret
    exact ⟨rfl, rfl⟩
end Go.Proofs.Ytdaipnlgloafdaa
