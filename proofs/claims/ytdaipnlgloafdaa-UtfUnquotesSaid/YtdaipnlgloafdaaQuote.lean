/- Walks over layer 15: Quote. -/
import Derived.Test.YtdaipnlgloafdaaQuoted
import Derived.Test.YtdaipnlgloafdaaUtfLive
namespace Go.Proofs.Ytdaipnlgloafdaa
open Go.RowKit Utf
set_option linter.unusedVariables false
set_option maxRecDepth 100000

theorem quoted_any (base : Nat) (v : Value) (l : List Nat) (c : Nat) (w : World) (hc : c < 256) (h : Own8 w base v l) (hl : l.length ≤ 1000000000000) (hB : base ≤ w.heap.size) :
    Calls Try.prog 18 #[v, .int .u8 (c : Int)] w (AddPost w base v (l ++ esc c)) := by
  rcases (show c = 8 ∨ c = 9 ∨ c = 10 ∨ c = 12 ∨ c = 13 ∨ c = 34 ∨ c = 92 ∨ (c < 32 ∧ c ≠ 8 ∧ c ≠ 9 ∧ c ≠ 10 ∧ c ≠ 12 ∧ c ≠ 13) ∨ (32 ≤ c ∧ c ≠ 34 ∧ c ≠ 92) by omega) with rfl | rfl | rfl | rfl | rfl | rfl | rfl | h1 | h1
  · exact quoted_8 base v l w h hl hB
  · exact quoted_9 base v l w h hl hB
  · exact quoted_10 base v l w h hl hB
  · exact quoted_12 base v l w h hl hB
  · exact quoted_13 base v l w h hl hB
  · exact quoted_34 base v l w h hl hB
  · exact quoted_92 base v l w h hl hB
  · exact quoted_ctl base v l c w h hl hB h1
  · exact quoted_plain base v l c w h hl hB h1

theorem own_new (w : World) (base : Nat) (hb : base ≤ w.heap.size) : Own8 (w.alloc (.cells #[.int .u8 34] 5)) base (.slice (some ⟨w.heap.size, 0, none⟩) 1 1) [34] :=
  ⟨rfl, .inr ⟨w.heap.size, 1, #[.int .u8 34], rfl, hb, heap_alloc_new _ _, Nat.le_refl _, by unfold maxLen; omega, rfl, rfl⟩⟩

/-- A text between its marks. -/
def qtd (l : List Nat) : List Nat := 34 :: (qt l ++ [34])
theorem qtd_lt (l : List Nat) (h : ∀ x ∈ l, x < 256) : ∀ x ∈ qtd l, x < 256 := by
  intro x hx
  simp only [qtd, List.mem_cons, List.mem_append, List.not_mem_nil, or_false] at hx
  rcases hx with rfl | hx | rfl
  · omega
  · exact qt_lt l h x hx
  · omega
theorem qt_take (l : List Nat) (i : Nat) (h : i < l.length) : qt (l.take (i + 1)) = qt (l.take i) ++ esc (l.getD i 0) := by
  rw [List.take_add_one, List.getElem?_eq_getElem h, qt_app, List.getD_eq_getElem?_getD, List.getElem?_eq_getElem h]
  simp [qt]

set_option maxHeartbeats 2000000 in
theorem quote_yes (s : ByteArray) (w : World) (hs : s.size ≤ 100000) (f0 : Nat) (hf0 : s.size < f0) (hv : val (bs s) f0 0 = true) :
    Calls Try.prog 11 #[.string s] w fun e w' => e = .returned (.string (strOf (qtd (bs s)))) ∧ Below w.heap.size w w' := by
  obtain ⟨i0, hi0, hz0, hz1, hz2⟩ := info_parts u8info
  have Hv := Lib.hid fun W => valid_any s W hs true f0 hf0 hv
  have hlen := bs_length s
  have Ha := Lib.hid fun (W : World) (v : Value) (i : Nat) (hi : i ≤ s.size) (h : Own8 W w.heap.size v (34 :: qt ((bs s).take i))) (hB : w.heap.size ≤ W.heap.size) => quoted_any w.heap.size v _ ((bs s).getD i 0) W (get_lt s i) h (by
    have h1 := qt_len ((bs s).take i)
    have h2 : ((bs s).take i).length ≤ s.size := by rw [List.length_take]; omega
    simp only [List.length_cons]; omega) hB
  have Hql : Hid ((qt (bs s)).length ≤ 6 * 100000) := by show _ ≤ _; have := qt_len (bs s); omega
  have Hlen := Lib.hid hlen
  have Hs := Lib.hid hs
  clear hv hf0 hs hlen
  go_enter Try.func11, Try.ntmps11
  go_wp2_with fail
  refine (Hv.out _).mono ?_
  rintro e W ⟨rfl, rfl⟩
  have h0 := Lib.hid (own_new w w.heap.size (Nat.le_refl _))
  go_wp2_with fail
  go_loopw [3, 11] (fun b u X => ∃ i : Nat, i ≤ s.size ∧ u = .int .i64 (i : Int) ∧ Own8 X w.heap.size b (34 :: qt ((bs s).take i)) ∧ Below w.heap.size w X) (fun _ u _ => s.size - (intOf u).toNat)
  case atStart => exact ⟨0, by omega, rfl, by simpa [qt] using h0.out, (Below.refl _ _).alloc (Nat.le_refl _) _⟩
  case round =>
    obtain ⟨i, hi, rfl, hO, hb⟩ := hrel
    by_cases hlt : i < s.size
    · have hg := bs_get s i hlt
      have hq := Lib.hid (Ha.out wr u3 i hi hO hb.size)
      have hO' := Lib.hid hO
      have hB := Lib.hid hb
      have Ht := Lib.hid (qt_take (bs s) i (by have := Hlen.out; omega))
      have hsz : (s.size : Int) ≤ 100000 := by have := Hs.out; omega
      generalize (bs s).getD i 0 = c at *
      clear hO hb Ha
      go_wp2_with fail
      refine hq.out.mono ?_
      rintro e X ⟨v1, rfl, hG⟩
      have HG := Lib.hid hG
      clear hG hq
      go_wp2_with fail
      go_roundw
      case rel => exact ⟨i + 1, hlt, by go_num, by rw [Ht.out]; have := HG.out.own; simpa using this, hB.out.trans (HG.out.below hO'.out hB.out.size)⟩
      case measure => simp [intOf] <;> omega
    · obtain rfl : i = s.size := by omega
      rw [List.take_of_length_le (by have := Hlen.out; omega)] at hO
      have hown : wr.ownsRow w.heap.size 5 1 u3 (34 :: qt (bs s)).length (u8s (34 :: qt (bs s))) := hO
      have Hl1 : Hid ((34 :: qt (bs s)).length + 1 ≤ maxLen) := by unfold Hid maxLen; have := Hql.out; simp only [List.length_cons]; omega
      have Hl2 : Hid (((34 :: qt (bs s)).length + 1) * 1 ≤ 140737488355328) := by unfold Hid; have := Hql.out; simp only [List.length_cons]; omega
      have hsz : w.heap.size ≤ wr.heap.size := hb.size
      have hO' := Lib.hid hO
      have hB := Lib.hid hb
      clear hO hb Ha
      go_wp2_with (at_builtin; refine app_one rfl (.tmp 20) (.tmp 21) 37 rfl w.heap.size 5 i0 _ 1 Try.underlying37 hi0 hz0 hz1 hz2 rfl u3 _ _ rfl hown (.int .u8 34) 1 rfl rfl Hl1.out Hl2.out hsz ?_)
      intro v3 w3 h2 h3 h5
      have hg : Gone wr w.heap.size u3 (qtd (bs s)) v3 w3 := Gone.grown h2 (by simp [qtd]) (by simp [qtd, u8s]) h3 h5
      have hst := str_own hg.own (qtd_lt _ (bs_lt s))
      have HB2 := Lib.hid (hB.out.trans (hg.below hO'.out hsz))
      clear h2 h3 h5 hg hown
      generalize hQ : qtd (bs s) = Q at *
      have HQ := Lib.hid hQ
      clear hQ
      go_wp2_with fail
      go_ret
      exact ⟨by rw [HQ.out]; rfl, HB2.out⟩

set_option maxHeartbeats 2000000 in
theorem quote_no (s : ByteArray) (w : World) (hs : s.size ≤ 100000) (f0 : Nat) (hf0 : s.size < f0) (hv : val (bs s) f0 0 = false) :
    Calls Try.prog 11 #[.string s] w fun e w' => e = .returned (.string ⟨#[]⟩) ∧ Below w.heap.size w w' := by
  have Hv := Lib.hid fun W => valid_any s W hs false f0 hf0 hv
  clear hs hf0 hv
  go_enter Try.func11, Try.ntmps11
  go_wp2_with fail
  refine (Hv.out _).mono ?_
  rintro e W ⟨rfl, rfl⟩
  go_wp2_with fail
  go_ret
  exact ⟨rfl, Below.refl _ _⟩
end Go.Proofs.Ytdaipnlgloafdaa
