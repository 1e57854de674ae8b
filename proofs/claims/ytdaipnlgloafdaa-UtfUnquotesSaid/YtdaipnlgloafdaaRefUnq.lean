/- Walks over layer 15: the reference's Unquote. -/
import Derived.Test.YtdaipnlgloafdaaUnqAll
import Derived.Test.YtdaipnlgloafdaaRefCode
import Derived.Test.YtdaipnlgloafdaaRunes
namespace Go.Proofs.Ytdaipnlgloafdaa
open Go.RowKit Utf
set_option linter.unusedVariables false
set_option maxRecDepth 100000

theorem stpE_out (l : List Nat) (k : Nat) (h : ¬ k < l.length) : stpE l k = (false, [], 0, 2) := by unfold stpE; rw [if_neg h]
theorem stpE_mark (l : List Nat) (k : Nat) (h : k < l.length) (h1 : l.getD k 0 = 34) : stpE l k = (true, [], k + 1, 0) := by unfold stpE; rw [if_pos h, if_pos h1]
theorem stpE_esc (l : List Nat) (k : Nat) (h : k < l.length) (h1 : l.getD k 0 = 92) : stpE l k = (false, escE l (k + 1)) := by unfold stpE; rw [if_pos h, if_neg (by omega), if_pos h1]
theorem stpE_low (l : List Nat) (k : Nat) (h : k < l.length) (h1 : l.getD k 0 < 32) : stpE l k = (false, [], 0, 3) := by unfold stpE; rw [if_pos h, if_neg (by omega), if_neg (by omega), if_pos h1]
theorem stpE_plain (l : List Nat) (k c : Nat) (h : k < l.length) (h1 : l.getD k 0 = c) (h2 : 32 ≤ c ∧ c ≠ 34 ∧ c ≠ 92) : stpE l k = (false, [c], k + 1, 0) := by unfold stpE; rw [if_pos h, if_neg (by omega), if_neg (by omega), if_neg (by omega), h1]
theorem escE_out (l : List Nat) (k : Nat) (h : ¬ k < l.length) : escE l k = ([], 0, 2) := by unfold escE; rw [if_neg h]
theorem escE_u (l : List Nat) (k : Nat) (h : k < l.length) (h1 : l.getD k 0 = 117) : escE l k = (runeB (pointE l (k + 1)).1.toNat, (pointE l (k + 1)).2.1, (pointE l (k + 1)).2.2) := by unfold escE; rw [if_pos h, if_pos h1]
theorem escE_chr (l : List Nat) (k c n : Nat) (h : k < l.length) (h1 : l.getD k 0 = c) (h2 : c ≠ 117) (h3 : chrE c = n) (h4 : n < 256) : escE l k = ([n], k + 1, 0) := by unfold escE; rw [if_pos h, if_neg (by omega), h1, h3, if_pos h4]
theorem escE_bad (l : List Nat) (k c : Nat) (h : k < l.length) (h1 : l.getD k 0 = c) (h2 : c ≠ 117) (h3 : chrE c = 256) : escE l k = ([], 0, 3) := by unfold escE; rw [if_pos h, if_neg (by omega), h1, h3, if_neg (by omega)]

theorem pointE_nat (l : List Nat) (k : Nat) (h : (pointE l k).2.2 = 0) : 0 ≤ (pointE l k).1 ∧ (pointE l k).1 ≤ 1114111 := by
  have hF := fourE_lt l 4 k 0 1 (by omega) (by omega)
  have hL := lowE_lt l (k + 4)
  unfold pointE at h ⊢
  generalize fourE l 4 k 0 = F at *
  generalize lowE l (k + 4) = L at *
  by_cases a1 : F.2 = 0
  · rw [if_pos a1] at h ⊢
    have h1 := hF a1
    have h3 : F.1 < 65536 := by simpa using h1.2
    by_cases a2 : 56320 ≤ F.1 ∧ F.1 ≤ 57343
    · rw [if_pos a2] at h; cases h
    · rw [if_neg a2] at h ⊢
      by_cases a3 : 55296 ≤ F.1 ∧ F.1 < 56320
      · rw [if_pos a3] at h ⊢
        by_cases a4 : L.2 = 0
        · rw [if_pos a4]
          have h4 := hL a4
          exact ⟨by show 0 ≤ 65536 + 1024 * (F.1 - 55296) + (L.1 - 56320); omega, by show 65536 + 1024 * (F.1 - 55296) + (L.1 - 56320) ≤ 1114111; omega⟩
        · rw [if_neg a4] at h; exact absurd h a4
      · rw [if_neg a3]; exact ⟨h1.1, by show F.1 ≤ 1114111; omega⟩
  · rw [if_neg a1] at h; exact absurd h a1

/-- What the loop holds: the place, the row, what it reads as. -/
def RAt (w : World) (b : ByteArray) (R : List Nat × Nat × Int) (X : World) (d e : Value) : Prop :=
  ∃ (v : Value) (k f : Nat) (m : List Nat), d = .int .i64 (k : Int) ∧ v = e ∧ Own8 X w.heap.size v m ∧ Below w.heap.size w X ∧ k ≤ b.size ∧ (∀ x ∈ m, x < 256) ∧ m.length ≤ 4 * k ∧ unqE (bs b) f k m = R ∧ b.size - k < f
theorem rat_more {w X Y : World} {b : ByteArray} {R : List Nat × Nat × Int} {k k' f : Nat} {m m' : List Nat} {v v' : Value} (hb : Below w.heap.size w X) (hf : b.size - k < f + 1) (hk : k < k') (hk' : k' ≤ b.size)
    (hm : ∀ x ∈ m, x < 256) (hm' : ∀ x ∈ m', x < 256) (hl : m.length ≤ 4 * k) (hl' : m'.length ≤ 4) (hR : unqE (bs b) f k' (m ++ m') = R) (ho : Own8 X w.heap.size v m) (hg : Gone X w.heap.size v (m ++ m') v' Y) : RAt w b R Y (.int .i64 (k' : Int)) v' := by
  refine ⟨v', k', f, m ++ m', rfl, rfl, hg.own, hb.trans (hg.below ho hb.size), hk', ?_, by rw [List.length_append]; omega, hR, by omega⟩
  intro x hx
  rcases List.mem_append.1 hx with h | h
  · exact hm x h
  · exact hm' x h

theorem fr0 : ((⟨#[34, 92, 47, 98, 102, 110, 114, 116]⟩ : ByteArray)[0]'(by decide)).toNat = 34 := rfl
theorem fr1 : ((⟨#[34, 92, 47, 98, 102, 110, 114, 116]⟩ : ByteArray)[1]'(by decide)).toNat = 92 := rfl
theorem fr2 : ((⟨#[34, 92, 47, 98, 102, 110, 114, 116]⟩ : ByteArray)[2]'(by decide)).toNat = 47 := rfl
theorem fr3 : ((⟨#[34, 92, 47, 98, 102, 110, 114, 116]⟩ : ByteArray)[3]'(by decide)).toNat = 98 := rfl
theorem fr4 : ((⟨#[34, 92, 47, 98, 102, 110, 114, 116]⟩ : ByteArray)[4]'(by decide)).toNat = 102 := rfl
theorem fr5 : ((⟨#[34, 92, 47, 98, 102, 110, 114, 116]⟩ : ByteArray)[5]'(by decide)).toNat = 110 := rfl
theorem fr6 : ((⟨#[34, 92, 47, 98, 102, 110, 114, 116]⟩ : ByteArray)[6]'(by decide)).toNat = 114 := rfl
theorem fr7 : ((⟨#[34, 92, 47, 98, 102, 110, 114, 116]⟩ : ByteArray)[7]'(by decide)).toNat = 116 := rfl
theorem to0 : ((⟨#[34, 92, 47, 8, 12, 10, 13, 9]⟩ : ByteArray)[0]'(by decide)).toNat = 34 := rfl
theorem to1 : ((⟨#[34, 92, 47, 8, 12, 10, 13, 9]⟩ : ByteArray)[1]'(by decide)).toNat = 92 := rfl
theorem to2 : ((⟨#[34, 92, 47, 8, 12, 10, 13, 9]⟩ : ByteArray)[2]'(by decide)).toNat = 47 := rfl
theorem to3 : ((⟨#[34, 92, 47, 8, 12, 10, 13, 9]⟩ : ByteArray)[3]'(by decide)).toNat = 8 := rfl
theorem to4 : ((⟨#[34, 92, 47, 8, 12, 10, 13, 9]⟩ : ByteArray)[4]'(by decide)).toNat = 12 := rfl
theorem to5 : ((⟨#[34, 92, 47, 8, 12, 10, 13, 9]⟩ : ByteArray)[5]'(by decide)).toNat = 10 := rfl
theorem to6 : ((⟨#[34, 92, 47, 8, 12, 10, 13, 9]⟩ : ByteArray)[6]'(by decide)).toNat = 13 := rfl
theorem to7 : ((⟨#[34, 92, 47, 8, 12, 10, 13, 9]⟩ : ByteArray)[7]'(by decide)).toNat = 9 := rfl
theorem frs : (⟨#[34, 92, 47, 98, 102, 110, 114, 116]⟩ : ByteArray).size = 8 := rfl
theorem tos : (⟨#[34, 92, 47, 8, 12, 10, 13, 9]⟩ : ByteArray).size = 8 := rfl

set_option maxHeartbeats 8000000 in
theorem refUnquote_in (b : ByteArray) (A : Nat) (w : World) (hs : b.size ≤ 10000) (hA : A < b.size) (hq : (bs b).getD A 0 = 34) (R : List Nat × Nat × Int) (hR : unqE (bs b) (b.size + 1) (A + 1) [] = R) :
    Calls Try.prog 15 #[.string b, .int .i64 (A : Int)] w fun e w' => e = .returned (.tuple #[.string (strOf R.1), .int .i64 (R.2.1 : Int), .int .i64 R.2.2]) ∧ Below w.heap.size w w' := by
  obtain ⟨i0, hi0, hz0, hz1, hz2⟩ := info_parts u8info
  have hb0 : (b[A]'hA).toNat = 34 := by rw [bs_get]; exact hq
  have n1 : decide ((A : Int) < 0) = false := decide_eq_false (by omega)
  have n2 : decide (b.size < A) = false := decide_eq_false (by omega)
  have n3 : ((A : Int) == (b.size : Int)) = false := beq_eq_false_iff_ne.mpr (by omega)
  have n4 : IntKind.i64.wrap ((A : Int) + 1) = ((A + 1 : Nat) : Int) := by rw [IntWalk.i64_in _ ⟨by omega, by omega⟩]; omega
  have Hv : Hid (∀ (W : World) (m : List Nat), (∀ x ∈ m, x < 256) → m.length ≤ 40000 → Calls Try.prog 8 #[.string (strOf m)] W fun e w' => e = .returned (.bool (val m (m.length + 1) 0)) ∧ W = w') := fun W m hm hl => refValid_any (strOf m) W (by rw [strOf_size]; omega) _ (m.length + 1) (by rw [strOf_size]; omega) (by rw [bs_strOf m hm])
  have Hc : Hid (∀ (W : World) (k : Nat), k ≤ b.size → Calls Try.prog 20 #[.string b, .int .i64 (k : Int)] W fun e w' => e = .returned (.tuple #[.int .i64 (pointE (bs b) k).1, .int .i64 ((pointE (bs b) k).2.1 : Int), .int .i64 (pointE (bs b) k).2.2]) ∧ Below W.heap.size W w') := fun W k hk => refCode_any b k W hk (by omega) _ rfl
  have Hlen := Lib.hid (bs_length b)
  have HRr := Lib.hid hR
  have HA := Lib.hid hA
  have Hs := Lib.hid hs

  have fr0 := fr0
  have to0 := to0
  have fr1 := fr1
  have to1 := to1
  have fr2 := fr2
  have to2 := to2
  have fr3 := fr3
  have to3 := to3
  have fr4 := fr4
  have to4 := to4
  have fr5 := fr5
  have to5 := to5
  have fr6 := fr6
  have to6 := to6
  have fr7 := fr7
  have to7 := to7
  have frs := frs
  have tos := tos
  clear hq hR hs
  go_enter Try.func15, Try.ntmps15
  go_wp2_with fail
  go_loopw [1, 7] (fun d e X => RAt w b R X d e) (fun d _ _ => b.size - (intOf d).toNat)
  case atStart => exact ⟨_, A + 1, b.size + 1, [], rfl, rfl, Own8.nil_ _ _, Below.refl _ _, HA.out, by simp, by simp, HRr.out, by omega⟩
  case round =>
    obtain ⟨v, k, f, m, rfl, rfl, ho, hbl, hk, hm, hl, hun, hf⟩ := hrel
    have HB := Lib.hid hbl
    obtain ⟨f, rfl⟩ : ∃ f', f = f' + 1 := ⟨f - 1, by omega⟩
    rw [unqE_step] at hun
    have Hl1 : Hid (m.length + 4 ≤ maxLen) := by have := Hs.out; unfold Hid maxLen; omega
    have Hl2 : Hid ((m.length + 4) * 1 ≤ 140737488355328) := by have := Hs.out; unfold Hid; omega
    obtain ⟨j, hj⟩ : ∃ j : Nat, j = k + 1 := ⟨_, rfl⟩
    have w1 : IntKind.i64.wrap ((k : Int) + 1) = (j : Int) := by have := Hs.out; rw [IntWalk.i64_in _ ⟨by omega, by omega⟩]; omega
    by_cases hk1 : k < b.size
    · have n5 : decide ((b.size : Int) ≤ (k : Int)) = false := decide_eq_false (by omega)
      have hg := bs_get b k hk1
      have hc8 := get_lt b k
      have HO := Lib.hid ho
      have Hm := Lib.hid hm
      have Hl := Lib.hid hl
      have Hf := Lib.hid hf
      have Hj := Lib.hid hj
      have S1 := Lib.hid fun h => stpE_mark (bs b) k (by have := Hlen.out; omega) h
      have S2 := Lib.hid fun h => stpE_esc (bs b) k (by have := Hlen.out; omega) h
      have S3 := Lib.hid fun h => stpE_low (bs b) k (by have := Hlen.out; omega) h
      have S4 := Lib.hid fun c h h2 => stpE_plain (bs b) k c (by have := Hlen.out; omega) h h2
      rw [← hj] at S1 S2 S4
      obtain ⟨c, hcc⟩ : ∃ c, (bs b).getD k 0 = c := ⟨_, rfl⟩
      have HC := Lib.hid hcc
      rw [hcc] at hg hc8
      clear hm hl hf hbl hk hcc hj
      rcases (show c = 34 ∨ c = 92 ∨ c < 32 ∨ (32 ≤ c ∧ c ≠ 34 ∧ c ≠ 92) by omega) with e | e | e | e
      · subst e
        rw [S1.out HC.out] at hun
        have hsh : shut (m ++ []) j = R := by simpa using hun
        rw [List.append_nil] at hsh
        have hst := fun n => str_own (w := wr.drewN n) HO.out Hm.out
        have hst0 : (convert 37 9 v).run Try.prog wr = .ok (.string (strOf m)) wr := str_own HO.out Hm.out
        have hv1 := Lib.hid (Hv.out wr m Hm.out (by have := Hs.out; have := Hl.out; omega))
        have Hsh := Lib.hid hsh
        clear hun hsh S1 S2 S3 S4 Hv Hc ho
        unfold shut at Hsh
        cases hval : val m (m.length + 1) 0
        · have e : (([], 0, 3) : List Nat × Nat × Int) = R := by have := Hsh.out; rwa [hval, if_neg (by decide)] at this
          subst e
          have Hval := Lib.hid hval
          clear hval Hsh
          go_wp2_with fail
          refine hv1.out.mono ?_
          rintro e W3 ⟨rfl, rfl⟩
          rw [Hval.out]
          go_wp2_with fail
          go_ret3
          exact ⟨rfl, HB.out⟩
        · have e : ((m, j, 0) : List Nat × Nat × Int) = R := by have := Hsh.out; rwa [hval, if_pos rfl] at this
          subst e
          have Hval := Lib.hid hval
          clear hval Hsh
          go_wp2_with fail
          refine hv1.out.mono ?_
          rintro e W3 ⟨rfl, rfl⟩
          rw [Hval.out]
          go_wp2_with fail
          go_ret3
          exact ⟨rfl, HB.out⟩
      · subst e
        rw [S2.out HC.out] at hun
        obtain ⟨i, hi⟩ : ∃ i : Nat, i = j + 1 := ⟨_, rfl⟩
        have w2 : IntKind.i64.wrap ((j : Int) + 1) = (i : Int) := by have := Hs.out; have := Hj.out; rw [IntWalk.i64_in _ ⟨by omega, by omega⟩]; omega
        by_cases hj1 : j < b.size
        · have n6 : decide ((b.size : Int) ≤ (j : Int)) = false := decide_eq_false (by omega)
          have hg2 := bs_get b j hj1
          have hd8 := get_lt b j
          have Hi := Lib.hid hi
          have T1 := Lib.hid fun h => escE_u (bs b) j (by have := Hlen.out; omega) h
          have T2 := Lib.hid fun d n h h2 h3 h4 => escE_chr (bs b) j d n (by have := Hlen.out; omega) h h2 h3 h4
          have T3 := Lib.hid fun d h h2 h3 => escE_bad (bs b) j d (by have := Hlen.out; omega) h h2 h3
          rw [← hi] at T1 T2
          obtain ⟨d, hdd⟩ : ∃ d, (bs b).getD j 0 = d := ⟨_, rfl⟩
          have HD := Lib.hid hdd
          rw [hdd] at hg2 hd8
          clear S1 S2 S3 S4 hi hdd
          by_cases e : d = 117
          · subst e
            rw [T1.out HD.out] at hun
            have hp := Hc.out wr i (by have := Hi.out; omega)
            have hpe := pointE_end (bs b) i (by have := Hi.out; have := Hlen.out; omega)
            have hpp := pointE_pos (bs b) i
            have hp0 := pointE_nat (bs b) i
            generalize pointE (bs b) i = P at *
            obtain ⟨n, j2, r⟩ := P
            simp only at hp hun hpe hpp hp0
            have Hp := Lib.hid hp
            have Hun := Lib.hid hun
            have Hpe := Lib.hid hpe
            have Hpp := Lib.hid hpp
            have Hp0 := Lib.hid hp0
            clear hp hun hpe hpp hp0 T1 T2 T3 Hv Hc ho
            go_wp2_with fail
            refine Hp.out.mono ?_
            rintro e Y ⟨rfl, hbY⟩
            have HY := Lib.hid hbY
            clear hbY Hp
            by_cases hr : r = 0
            · subst hr
              have hun := Hun.out
              rw [if_pos rfl, if_neg (by decide)] at hun
              obtain ⟨p1, p2⟩ := Hp0.out rfl
              obtain ⟨N, rfl⟩ : ∃ N : Nat, n = (N : Int) := ⟨n.toNat, by omega⟩
              have Hby := Lib.hid fun W => bytes_any N W (by omega)
              obtain ⟨p3, p4⟩ := Hpp.out rfl
              obtain ⟨p5, p6⟩ := Hpe.out rfl
              rw [show ((N : Int)).toNat = N from rfl] at hun p4 p6
              obtain ⟨D, hD⟩ : ∃ D, runeB N = D := ⟨_, rfl⟩
              rw [hD] at hun p4 p6 Hby
              have Hun2 := Lib.hid (show unqE (bs b) f j2 (m ++ D) = R from hun)
              have P3 := Lib.hid p3
              have P4 := Lib.hid p4
              have P5 := Lib.hid p5
              have P6 := Lib.hid p6
              have HoY := Lib.hid (HO.out.below HY.out)
              clear hun p1 p2 p3 p4 p5 p6 hD Hun Hp0 Hpp Hpe
              go_wp2_with fail
              refine (Hby.out _).mono ?_
              rintro e Z ⟨u, rfl, hu, hbZ⟩
              have HoZ := Lib.hid (HoY.out.below hbZ)
              have HbZ := Lib.hid (HB.out.trans ((HY.out.trans (hbZ.mono HY.out.size)).mono HB.out.size))
              obtain ⟨a1, c1, rfl, _, _, hV⟩ := Vals.of_own hu
              have Hone := Lib.hid (u8s_one D)
              have hown : Z.ownsRow w.heap.size 5 1 v m.length (u8s m) := HoZ.out
              obtain ⟨L, hL⟩ : ∃ L, Hid (D.length = L) := ⟨_, Lib.hid rfl⟩
              rw [hL.out] at hV ⊢
              clear hu hbZ
              go_wp2_with (at_builtin; refine app_vals rfl (.tmp 82) (.tmp 84) 37 rfl w.heap.size 5 i0 _ 1 1 Try.underlying37 hi0 hz0 hz1 hz2 rfl (by omega) v _ _ rfl hown _ _ _ _ _ rfl hV Hone.out (by have := Hl1.out; have := P4.out; have := hL.out; omega) (by have := Hl2.out; have := P4.out; have := hL.out; omega) HbZ.out.size ?_)
              intro v3 w3 h2 h3 h5
              have hG : Gone Z w.heap.size v (m ++ D) v3 w3 := Gone.grown h2 (by simp [← hL.out]) (by rw [u8s_append]) h3 (by
                rcases h5 with h5 | h5
                · exact .inl h5
                · exact .inr ⟨_, h5, by omega⟩)
              have HG := Lib.hid hG
              clear h2 h3 h5 hG hown
              go_wp2_with fail
              go_roundw
              case rel => exact rat_more HbZ.out Hf.out (by have := Hj.out; have := Hi.out; have := P3.out; omega) (by have := P5.out; have := Hlen.out; omega) Hm.out P6.out Hl.out P4.out Hun2.out HoZ.out HG.out
              case measure => have := Hj.out; have := Hi.out; have := P3.out; have := P5.out; have := Hlen.out; simp [intOf] <;> omega
            · have q1 : (r == 0) = false := beq_eq_false_iff_ne.mpr hr
              have e : (([], 0, r) : List Nat × Nat × Int) = R := by have := Hun.out; rwa [if_neg hr] at this
              subst e
              clear hr Hun
              go_wp2_with fail
              go_ret3
              exact ⟨rfl, HB.out.trans (HY.out.mono HB.out.size)⟩
          · clear HC
            rcases (show d = 34 ∨ d = 92 ∨ d = 47 ∨ d = 98 ∨ d = 102 ∨ d = 110 ∨ d = 114 ∨ d = 116 ∨ (d ≠ 34 ∧ d ≠ 92 ∧ d ≠ 47 ∧ d ≠ 98 ∧ d ≠ 102 ∧ d ≠ 110 ∧ d ≠ 114 ∧ d ≠ 116) by omega) with q | q | q | q | q | q | q | q | q
            · subst q
              rw [T2.out 34 34 HD.out (by decide) (by rfl) (by decide)] at hun
              have Hun := Lib.hid (show unqE (bs b) f i (m ++ [34]) = R from hun)
              have hown : wr.ownsRow w.heap.size 5 1 v m.length (u8s m) := ho
              clear hun T1 T2 T3 Hv Hc ho e HD hd8
              go_wp2_with fail
              refine wp_loop_rounds 9 ?_
              rw [rounds_succ]
              go_wp2_with fail
              rw [rounds_succ]
              go_wp2_with fail
              rw [rounds_succ]
              go_wp2_with fail
              rw [rounds_succ]
              go_wp2_with fail
              rw [rounds_succ]
              go_wp2_with fail
              rw [rounds_succ]
              go_wp2_with fail
              rw [rounds_succ]
              go_wp2_with fail
              rw [rounds_succ]
              go_wp2_with fail
              rw [rounds_succ]
              go_wp2_with (at_builtin; refine app_one rfl (.tmp 101) (.tmp 105) 37 rfl w.heap.size 5 i0 _ 1 Try.underlying37 hi0 hz0 hz1 hz2 rfl v _ _ rfl hown (.int .u8 34) 1 rfl rfl (by have := Hl1.out; omega) (by have := Hl2.out; omega) HB.out.size ?_)
              intro v3 w3 h2 h3 h5
              have hG : Gone wr w.heap.size v (m ++ [34]) v3 w3 := Gone.grown h2 (by simp) (by simp [u8s]) h3 h5
              have HG := Lib.hid hG
              clear h2 h3 h5 hG hown
              go_wp2_with fail
              go_roundw
              case rel => exact rat_more HB.out Hf.out (by have := Hj.out; have := Hi.out; omega) (by have := Hj.out; have := Hi.out; omega) Hm.out (by decide) Hl.out (by decide) Hun.out HO.out HG.out
              case measure => have := Hj.out; have := Hi.out; simp [intOf] <;> omega
            · subst q
              rw [T2.out 92 92 HD.out (by decide) (by rfl) (by decide)] at hun
              have Hun := Lib.hid (show unqE (bs b) f i (m ++ [92]) = R from hun)
              have hown : wr.ownsRow w.heap.size 5 1 v m.length (u8s m) := ho
              clear hun T1 T2 T3 Hv Hc ho e HD hd8
              go_wp2_with fail
              refine wp_loop_rounds 9 ?_
              rw [rounds_succ]
              go_wp2_with fail
              rw [rounds_succ]
              go_wp2_with fail
              rw [rounds_succ]
              go_wp2_with fail
              rw [rounds_succ]
              go_wp2_with fail
              rw [rounds_succ]
              go_wp2_with fail
              rw [rounds_succ]
              go_wp2_with fail
              rw [rounds_succ]
              go_wp2_with fail
              rw [rounds_succ]
              go_wp2_with fail
              rw [rounds_succ]
              go_wp2_with (at_builtin; refine app_one rfl (.tmp 101) (.tmp 105) 37 rfl w.heap.size 5 i0 _ 1 Try.underlying37 hi0 hz0 hz1 hz2 rfl v _ _ rfl hown (.int .u8 92) 1 rfl rfl (by have := Hl1.out; omega) (by have := Hl2.out; omega) HB.out.size ?_)
              intro v3 w3 h2 h3 h5
              have hG : Gone wr w.heap.size v (m ++ [92]) v3 w3 := Gone.grown h2 (by simp) (by simp [u8s]) h3 h5
              have HG := Lib.hid hG
              clear h2 h3 h5 hG hown
              go_wp2_with fail
              go_roundw
              case rel => exact rat_more HB.out Hf.out (by have := Hj.out; have := Hi.out; omega) (by have := Hj.out; have := Hi.out; omega) Hm.out (by decide) Hl.out (by decide) Hun.out HO.out HG.out
              case measure => have := Hj.out; have := Hi.out; simp [intOf] <;> omega
            · subst q
              rw [T2.out 47 47 HD.out (by decide) (by rfl) (by decide)] at hun
              have Hun := Lib.hid (show unqE (bs b) f i (m ++ [47]) = R from hun)
              have hown : wr.ownsRow w.heap.size 5 1 v m.length (u8s m) := ho
              clear hun T1 T2 T3 Hv Hc ho e HD hd8
              go_wp2_with fail
              refine wp_loop_rounds 9 ?_
              rw [rounds_succ]
              go_wp2_with fail
              rw [rounds_succ]
              go_wp2_with fail
              rw [rounds_succ]
              go_wp2_with fail
              rw [rounds_succ]
              go_wp2_with fail
              rw [rounds_succ]
              go_wp2_with fail
              rw [rounds_succ]
              go_wp2_with fail
              rw [rounds_succ]
              go_wp2_with fail
              rw [rounds_succ]
              go_wp2_with fail
              rw [rounds_succ]
              go_wp2_with (at_builtin; refine app_one rfl (.tmp 101) (.tmp 105) 37 rfl w.heap.size 5 i0 _ 1 Try.underlying37 hi0 hz0 hz1 hz2 rfl v _ _ rfl hown (.int .u8 47) 1 rfl rfl (by have := Hl1.out; omega) (by have := Hl2.out; omega) HB.out.size ?_)
              intro v3 w3 h2 h3 h5
              have hG : Gone wr w.heap.size v (m ++ [47]) v3 w3 := Gone.grown h2 (by simp) (by simp [u8s]) h3 h5
              have HG := Lib.hid hG
              clear h2 h3 h5 hG hown
              go_wp2_with fail
              go_roundw
              case rel => exact rat_more HB.out Hf.out (by have := Hj.out; have := Hi.out; omega) (by have := Hj.out; have := Hi.out; omega) Hm.out (by decide) Hl.out (by decide) Hun.out HO.out HG.out
              case measure => have := Hj.out; have := Hi.out; simp [intOf] <;> omega
            · subst q
              rw [T2.out 98 8 HD.out (by decide) (by rfl) (by decide)] at hun
              have Hun := Lib.hid (show unqE (bs b) f i (m ++ [8]) = R from hun)
              have hown : wr.ownsRow w.heap.size 5 1 v m.length (u8s m) := ho
              clear hun T1 T2 T3 Hv Hc ho e HD hd8
              go_wp2_with fail
              refine wp_loop_rounds 9 ?_
              rw [rounds_succ]
              go_wp2_with fail
              rw [rounds_succ]
              go_wp2_with fail
              rw [rounds_succ]
              go_wp2_with fail
              rw [rounds_succ]
              go_wp2_with fail
              rw [rounds_succ]
              go_wp2_with fail
              rw [rounds_succ]
              go_wp2_with fail
              rw [rounds_succ]
              go_wp2_with fail
              rw [rounds_succ]
              go_wp2_with fail
              rw [rounds_succ]
              go_wp2_with (at_builtin; refine app_one rfl (.tmp 101) (.tmp 105) 37 rfl w.heap.size 5 i0 _ 1 Try.underlying37 hi0 hz0 hz1 hz2 rfl v _ _ rfl hown (.int .u8 8) 1 rfl rfl (by have := Hl1.out; omega) (by have := Hl2.out; omega) HB.out.size ?_)
              intro v3 w3 h2 h3 h5
              have hG : Gone wr w.heap.size v (m ++ [8]) v3 w3 := Gone.grown h2 (by simp) (by simp [u8s]) h3 h5
              have HG := Lib.hid hG
              clear h2 h3 h5 hG hown
              go_wp2_with fail
              go_roundw
              case rel => exact rat_more HB.out Hf.out (by have := Hj.out; have := Hi.out; omega) (by have := Hj.out; have := Hi.out; omega) Hm.out (by decide) Hl.out (by decide) Hun.out HO.out HG.out
              case measure => have := Hj.out; have := Hi.out; simp [intOf] <;> omega
            · subst q
              rw [T2.out 102 12 HD.out (by decide) (by rfl) (by decide)] at hun
              have Hun := Lib.hid (show unqE (bs b) f i (m ++ [12]) = R from hun)
              have hown : wr.ownsRow w.heap.size 5 1 v m.length (u8s m) := ho
              clear hun T1 T2 T3 Hv Hc ho e HD hd8
              go_wp2_with fail
              refine wp_loop_rounds 9 ?_
              rw [rounds_succ]
              go_wp2_with fail
              rw [rounds_succ]
              go_wp2_with fail
              rw [rounds_succ]
              go_wp2_with fail
              rw [rounds_succ]
              go_wp2_with fail
              rw [rounds_succ]
              go_wp2_with fail
              rw [rounds_succ]
              go_wp2_with fail
              rw [rounds_succ]
              go_wp2_with fail
              rw [rounds_succ]
              go_wp2_with fail
              rw [rounds_succ]
              go_wp2_with (at_builtin; refine app_one rfl (.tmp 101) (.tmp 105) 37 rfl w.heap.size 5 i0 _ 1 Try.underlying37 hi0 hz0 hz1 hz2 rfl v _ _ rfl hown (.int .u8 12) 1 rfl rfl (by have := Hl1.out; omega) (by have := Hl2.out; omega) HB.out.size ?_)
              intro v3 w3 h2 h3 h5
              have hG : Gone wr w.heap.size v (m ++ [12]) v3 w3 := Gone.grown h2 (by simp) (by simp [u8s]) h3 h5
              have HG := Lib.hid hG
              clear h2 h3 h5 hG hown
              go_wp2_with fail
              go_roundw
              case rel => exact rat_more HB.out Hf.out (by have := Hj.out; have := Hi.out; omega) (by have := Hj.out; have := Hi.out; omega) Hm.out (by decide) Hl.out (by decide) Hun.out HO.out HG.out
              case measure => have := Hj.out; have := Hi.out; simp [intOf] <;> omega
            · subst q
              rw [T2.out 110 10 HD.out (by decide) (by rfl) (by decide)] at hun
              have Hun := Lib.hid (show unqE (bs b) f i (m ++ [10]) = R from hun)
              have hown : wr.ownsRow w.heap.size 5 1 v m.length (u8s m) := ho
              clear hun T1 T2 T3 Hv Hc ho e HD hd8
              go_wp2_with fail
              refine wp_loop_rounds 9 ?_
              rw [rounds_succ]
              go_wp2_with fail
              rw [rounds_succ]
              go_wp2_with fail
              rw [rounds_succ]
              go_wp2_with fail
              rw [rounds_succ]
              go_wp2_with fail
              rw [rounds_succ]
              go_wp2_with fail
              rw [rounds_succ]
              go_wp2_with fail
              rw [rounds_succ]
              go_wp2_with fail
              rw [rounds_succ]
              go_wp2_with fail
              rw [rounds_succ]
              go_wp2_with (at_builtin; refine app_one rfl (.tmp 101) (.tmp 105) 37 rfl w.heap.size 5 i0 _ 1 Try.underlying37 hi0 hz0 hz1 hz2 rfl v _ _ rfl hown (.int .u8 10) 1 rfl rfl (by have := Hl1.out; omega) (by have := Hl2.out; omega) HB.out.size ?_)
              intro v3 w3 h2 h3 h5
              have hG : Gone wr w.heap.size v (m ++ [10]) v3 w3 := Gone.grown h2 (by simp) (by simp [u8s]) h3 h5
              have HG := Lib.hid hG
              clear h2 h3 h5 hG hown
              go_wp2_with fail
              go_roundw
              case rel => exact rat_more HB.out Hf.out (by have := Hj.out; have := Hi.out; omega) (by have := Hj.out; have := Hi.out; omega) Hm.out (by decide) Hl.out (by decide) Hun.out HO.out HG.out
              case measure => have := Hj.out; have := Hi.out; simp [intOf] <;> omega
            · subst q
              rw [T2.out 114 13 HD.out (by decide) (by rfl) (by decide)] at hun
              have Hun := Lib.hid (show unqE (bs b) f i (m ++ [13]) = R from hun)
              have hown : wr.ownsRow w.heap.size 5 1 v m.length (u8s m) := ho
              clear hun T1 T2 T3 Hv Hc ho e HD hd8
              go_wp2_with fail
              refine wp_loop_rounds 9 ?_
              rw [rounds_succ]
              go_wp2_with fail
              rw [rounds_succ]
              go_wp2_with fail
              rw [rounds_succ]
              go_wp2_with fail
              rw [rounds_succ]
              go_wp2_with fail
              rw [rounds_succ]
              go_wp2_with fail
              rw [rounds_succ]
              go_wp2_with fail
              rw [rounds_succ]
              go_wp2_with fail
              rw [rounds_succ]
              go_wp2_with fail
              rw [rounds_succ]
              go_wp2_with (at_builtin; refine app_one rfl (.tmp 101) (.tmp 105) 37 rfl w.heap.size 5 i0 _ 1 Try.underlying37 hi0 hz0 hz1 hz2 rfl v _ _ rfl hown (.int .u8 13) 1 rfl rfl (by have := Hl1.out; omega) (by have := Hl2.out; omega) HB.out.size ?_)
              intro v3 w3 h2 h3 h5
              have hG : Gone wr w.heap.size v (m ++ [13]) v3 w3 := Gone.grown h2 (by simp) (by simp [u8s]) h3 h5
              have HG := Lib.hid hG
              clear h2 h3 h5 hG hown
              go_wp2_with fail
              go_roundw
              case rel => exact rat_more HB.out Hf.out (by have := Hj.out; have := Hi.out; omega) (by have := Hj.out; have := Hi.out; omega) Hm.out (by decide) Hl.out (by decide) Hun.out HO.out HG.out
              case measure => have := Hj.out; have := Hi.out; simp [intOf] <;> omega
            · subst q
              rw [T2.out 116 9 HD.out (by decide) (by rfl) (by decide)] at hun
              have Hun := Lib.hid (show unqE (bs b) f i (m ++ [9]) = R from hun)
              have hown : wr.ownsRow w.heap.size 5 1 v m.length (u8s m) := ho
              clear hun T1 T2 T3 Hv Hc ho e HD hd8
              go_wp2_with fail
              refine wp_loop_rounds 9 ?_
              rw [rounds_succ]
              go_wp2_with fail
              rw [rounds_succ]
              go_wp2_with fail
              rw [rounds_succ]
              go_wp2_with fail
              rw [rounds_succ]
              go_wp2_with fail
              rw [rounds_succ]
              go_wp2_with fail
              rw [rounds_succ]
              go_wp2_with fail
              rw [rounds_succ]
              go_wp2_with fail
              rw [rounds_succ]
              go_wp2_with fail
              rw [rounds_succ]
              go_wp2_with (at_builtin; refine app_one rfl (.tmp 101) (.tmp 105) 37 rfl w.heap.size 5 i0 _ 1 Try.underlying37 hi0 hz0 hz1 hz2 rfl v _ _ rfl hown (.int .u8 9) 1 rfl rfl (by have := Hl1.out; omega) (by have := Hl2.out; omega) HB.out.size ?_)
              intro v3 w3 h2 h3 h5
              have hG : Gone wr w.heap.size v (m ++ [9]) v3 w3 := Gone.grown h2 (by simp) (by simp [u8s]) h3 h5
              have HG := Lib.hid hG
              clear h2 h3 h5 hG hown
              go_wp2_with fail
              go_roundw
              case rel => exact rat_more HB.out Hf.out (by have := Hj.out; have := Hi.out; omega) (by have := Hj.out; have := Hi.out; omega) Hm.out (by decide) Hl.out (by decide) Hun.out HO.out HG.out
              case measure => have := Hj.out; have := Hi.out; simp [intOf] <;> omega
            · rw [T3.out d HD.out e (by unfold chrE; repeat (first | rw [if_neg (by omega)]))] at hun
              have e0 : (([], 0, 3) : List Nat × Nat × Int) = R := hun
              subst e0
              obtain ⟨z0, z1, z2, z3, z4, z5, z6, z7⟩ := q
              have y0 : ((34 : Int) == (d : Int)) = false := beq_eq_false_iff_ne.mpr (by omega)
              have y1 : ((92 : Int) == (d : Int)) = false := beq_eq_false_iff_ne.mpr (by omega)
              have y2 : ((47 : Int) == (d : Int)) = false := beq_eq_false_iff_ne.mpr (by omega)
              have y3 : ((98 : Int) == (d : Int)) = false := beq_eq_false_iff_ne.mpr (by omega)
              have y4 : ((102 : Int) == (d : Int)) = false := beq_eq_false_iff_ne.mpr (by omega)
              have y5 : ((110 : Int) == (d : Int)) = false := beq_eq_false_iff_ne.mpr (by omega)
              have y6 : ((114 : Int) == (d : Int)) = false := beq_eq_false_iff_ne.mpr (by omega)
              have y7 : ((116 : Int) == (d : Int)) = false := beq_eq_false_iff_ne.mpr (by omega)
              have y8 : ((d : Int) == 117) = false := beq_eq_false_iff_ne.mpr (by omega)
              clear hun T1 T2 T3 Hv Hc ho e HD hd8 z0 z1 z2 z3 z4 z5 z6 z7
              go_wp2_with fail
              refine wp_loop_rounds 9 ?_
              rw [rounds_succ]
              go_wp2_with fail
              rw [rounds_succ]
              go_wp2_with fail
              rw [rounds_succ]
              go_wp2_with fail
              rw [rounds_succ]
              go_wp2_with fail
              rw [rounds_succ]
              go_wp2_with fail
              rw [rounds_succ]
              go_wp2_with fail
              rw [rounds_succ]
              go_wp2_with fail
              rw [rounds_succ]
              go_wp2_with fail
              rw [rounds_succ]
              go_wp2_with fail
              go_ret3
              exact ⟨rfl, HB.out⟩
        · have e : (([], 0, 2) : List Nat × Nat × Int) = R := by rw [escE_out _ _ (by have := Hlen.out; omega)] at hun; exact hun
          subst e
          have n6 : decide ((b.size : Int) ≤ (j : Int)) = true := decide_eq_true (by omega)
          have n7 : decide (b.size ≤ j) = true := decide_eq_true (by omega)
          have n8 : b.size ≤ j := by omega
          clear hun S1 S2 S3 S4 Hv Hc ho hj1 hi
          go_wp2_with fail
          go_ret3
          exact ⟨rfl, HB.out⟩
      · rw [S3.out (by have := HC.out; omega)] at hun
        have e0 : (([], 0, 3) : List Nat × Nat × Int) = R := hun
        subst e0
        have q1 : ((c : Int) == 34) = false := beq_eq_false_iff_ne.mpr (by omega)
        have q2 : decide ((c : Int) < 32) = true := decide_eq_true (by omega)
        clear hun S1 S2 S3 S4 Hv Hc ho e
        go_wp2_with fail
        go_ret3
        exact ⟨rfl, HB.out⟩
      · rw [S4.out c HC.out e] at hun
        have Hun := Lib.hid (show unqE (bs b) f j (m ++ [c]) = R from hun)
        have q1 : ((c : Int) == 34) = false := beq_eq_false_iff_ne.mpr (by omega)
        have q2 : decide ((c : Int) < 32) = false := decide_eq_false (by omega)
        have q3 : ((c : Int) == 92) = false := beq_eq_false_iff_ne.mpr (by omega)
        have Hc8 := Lib.hid hc8
        have hown : wr.ownsRow w.heap.size 5 1 v m.length (u8s m) := ho
        clear hun S1 S2 S3 S4 Hv Hc ho e hc8
        go_wp2_with (at_builtin; refine app_one rfl (.tmp 57) (.tmp 59) 37 rfl w.heap.size 5 i0 _ 1 Try.underlying37 hi0 hz0 hz1 hz2 rfl v _ _ rfl hown (.int .u8 (c : Int)) 1 rfl rfl (by have := Hl1.out; omega) (by have := Hl2.out; omega) HB.out.size ?_)
        intro v3 w3 h2 h3 h5
        have hG : Gone wr w.heap.size v (m ++ [c]) v3 w3 := Gone.grown h2 (by simp) (by simp [u8s]) h3 h5
        have HG := Lib.hid hG
        clear h2 h3 h5 hG hown
        go_wp2_with fail
        go_roundw
        case rel => exact rat_more HB.out Hf.out (by have := Hj.out; omega) (by have := Hj.out; omega) Hm.out (by intro x hx; rw [List.mem_singleton.1 hx]; exact Hc8.out) Hl.out (by simp) Hun.out HO.out HG.out
        case measure => have := Hj.out; simp [intOf] <;> omega
    · have e : (([], 0, 2) : List Nat × Nat × Int) = R := by rw [stpE_out _ _ (by have := Hlen.out; omega)] at hun; exact hun
      subst e
      have n5 : decide ((b.size : Int) ≤ (k : Int)) = true := decide_eq_true (by omega)
      have n7 : decide (b.size ≤ k) = true := decide_eq_true (by omega)
      have n8 : b.size ≤ k := by omega
      have Hhid := Lib.hid hj
      clear hun Hv Hc ho hm hl hf hbl hk1 hj hk
      go_wp2_with fail
      go_ret3
      exact ⟨rfl, HB.out⟩
end Go.Proofs.Ytdaipnlgloafdaa
