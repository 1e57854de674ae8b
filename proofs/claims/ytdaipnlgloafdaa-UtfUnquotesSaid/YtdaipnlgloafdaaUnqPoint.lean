/- Walks over layer 15: point, whatever stands there. -/
import Derived.Test.YtdaipnlgloafdaaUnqLow
namespace Go.Proofs.Ytdaipnlgloafdaa
open Go.RowKit Utf
set_option linter.unusedVariables false
set_option maxRecDepth 100000

theorem fourE_lt (l : List Nat) : ∀ (f k : Nat) (m B : Int), 0 ≤ m → m < B → (fourE l f k m).2 = 0 → 0 ≤ (fourE l f k m).1 ∧ (fourE l f k m).1 < 16 ^ f * B
  | 0, k, m, B, h0, h1, _ => ⟨h0, by simpa [fourE] using h1⟩
  | f + 1, k, m, B, h0, h1, he => by
    simp only [fourE] at he ⊢
    split at he
    · split at he
      · cases he
      · next a1 a2 =>
        rw [if_pos a1, if_neg a2]
        have hd := hexN_lt (l.getD k 0)
        have := fourE_lt l f (k + 1) (16 * m + hexN (l.getD k 0)) (16 * B) (by omega) (by omega) he
        refine ⟨this.1, ?_⟩
        rw [Int.pow_succ, Int.mul_assoc]
        exact this.2
    · cases he

/-- The rune, the place behind it, the error: behind a backslash and u. -/
def pointE (l : List Nat) (k : Nat) : Int × Nat × Int :=
  if (fourE l 4 k 0).2 = 0 then
    (if 56320 ≤ (fourE l 4 k 0).1 ∧ (fourE l 4 k 0).1 ≤ 57343 then (0, 0, 3)
     else if 55296 ≤ (fourE l 4 k 0).1 ∧ (fourE l 4 k 0).1 < 56320 then
       (if (lowE l (k + 4)).2 = 0 then (65536 + 1024 * ((fourE l 4 k 0).1 - 55296) + ((lowE l (k + 4)).1 - 56320), k + 10, 0) else (0, 0, (lowE l (k + 4)).2))
     else ((fourE l 4 k 0).1, k + 4, 0))
  else (0, 0, (fourE l 4 k 0).2)

/-- What a call that decodes leaves: the error; where there is none, the reader behind what it read. -/
def DecPost (w : World) (g : Nat) (b : ByteArray) (v : Value) (k : Nat) (m : List Nat) (r : Int) (e : Ending) (w' : World) : Prop :=
  e = .returned (.int .i64 r) ∧ Only (touch g v) w w' ∧ (r = 0 → ∃ v', Rdr w' g b k v' m ∧ (v'.ownBlock = v.ownBlock ∨ ∃ x, v'.ownBlock = some x ∧ w.heap.size ≤ x))

theorem StepPost.dec {w : World} {g k : Nat} {b : ByteArray} {v : Value} {m : List Nat} {e : Ending} {W : World} (h : StepPost w g b k v m (.int .i64 0) e W) : DecPost w g b v k m 0 e W := by
  obtain ⟨h0, v', h1, h2, h3⟩ := h
  exact ⟨h0, h2, fun _ => ⟨v', h1, h3⟩⟩
theorem lowE_lt (l : List Nat) (k : Nat) (h : (lowE l k).2 = 0) : 56320 ≤ (lowE l k).1 ∧ (lowE l k).1 ≤ 57343 := by
  unfold lowE at h ⊢
  by_cases a1 : k < l.length
  · rw [if_pos a1] at h ⊢
    by_cases a2 : l.getD k 0 = 92
    · rw [if_pos a2] at h ⊢
      by_cases a3 : k + 1 < l.length
      · rw [if_pos a3] at h ⊢
        by_cases a4 : l.getD (k + 1) 0 = 117
        · rw [if_pos a4] at h ⊢
          generalize fourE l 4 (k + 2) 0 = F at *
          unfold lowD at h ⊢
          by_cases b1 : F.2 = 0
          · rw [if_pos b1] at h ⊢
            by_cases b2 : F.1 < 56320 ∨ 57343 < F.1
            · rw [if_pos b2] at h; cases h
            · rw [if_neg b2]; exact ⟨by show 56320 ≤ F.1; omega, by show F.1 ≤ 57343; omega⟩
          · rw [if_neg b1] at h; exact absurd h b1
        · rw [if_neg a4] at h; cases h
      · rw [if_neg a3] at h; cases h
    · rw [if_neg a2] at h; cases h
  · rw [if_neg a1] at h; cases h

set_option maxHeartbeats 4000000 in
theorem point_gen (g : Nat) (b : ByteArray) (k : Nat) (v : Value) (l : List Nat) (w : World) (h : Rdr w g b k v l) (hl : l.length ≤ 1000000000) (hk : k ≤ b.size) (hs : b.size ≤ 1000000000) :
    Calls Try.prog 28 #[.pointer (some ⟨g, 0, none⟩)] w (DecPost w g b v (pointE (bs b) k).2.1 (l ++ runeB (pointE (bs b) k).1.toNat) (pointE (bs b) k).2.2) := by
  obtain ⟨P, hP⟩ : ∃ P, pointE (bs b) k = P := ⟨_, rfl⟩
  rw [hP]
  unfold pointE at hP
  have hlt := fourE_lt (bs b) 4 k 0 1 (by omega) (by omega)
  obtain ⟨F, hF⟩ : ∃ F, fourE (bs b) 4 k 0 = F := ⟨_, rfl⟩
  have hd := Lib.hid (digits_gen g b k v l w h hk hs F hF)
  rw [hF] at hP hlt
  obtain ⟨n, e⟩ := F
  simp only at hP hlt
  have Hlow := Lib.hid fun (W : World) (hk4 : k + 4 ≤ b.size) (hR : Rdr W g b (k + 4) v l) => low_gen g b (k + 4) v l W hR hk4 hs (lowE (bs b) (k + 4)) rfl
  have hllt := lowE_lt (bs b) (k + 4)
  have Hr := Lib.hid fun (W : World) (k' n : Nat) (hn : (n < 55296 ∨ 57343 < n) ∧ n ≤ 1114111) (hR : Rdr W g b k' v l) => runes_any 0 v l n W hn hR.2.1 (by omega) (Nat.zero_le _)
  clear hF h hl hs hk
  by_cases b1 : e = 0
  · subst b1
    rw [if_pos rfl] at hP
    obtain ⟨n0, n1⟩ := hlt rfl
    have n2 : n < 65536 := by simpa using n1
    by_cases b2 : 56320 ≤ n ∧ n ≤ 57343
    · rw [if_pos b2] at hP
      subst hP
      have q1 : decide (56320 ≤ n) = true := decide_eq_true b2.1
      have q2 : decide (n ≤ 57343) = true := decide_eq_true b2.2
      clear b2 hlt n1 n2 Hlow hllt Hr
      go_enter Try.func28, Try.ntmps28
      go_wp2_with fail
      refine hd.out.mono ?_
      rintro e W ⟨rfl, ⟨k', hR, hk', he'⟩, hO⟩
      have HO := Lib.hid hO
      clear hR hk' he' hO hd
      go_wp2_with fail
      go_ret
      exact ⟨rfl, HO.out.mono (fun b _ e => .inl e), fun h => by cases h⟩
    · rw [if_neg b2] at hP
      by_cases c2 : 55296 ≤ n ∧ n < 56320
      · rw [if_pos c2] at hP
        generalize lowE (bs b) (k + 4) = L0 at *
        obtain ⟨ln, le⟩ := L0
        simp only at hP hllt
        have q1 : decide (56320 ≤ n) = false := decide_eq_false (by omega)
        have q2 : decide (55296 ≤ n) = true := decide_eq_true c2.1
        have q3 : decide (n < 56320) = true := decide_eq_true c2.2
        by_cases d1 : le = 0
        · subst d1
          rw [if_pos rfl] at hP
          obtain ⟨m0, m1⟩ := hllt rfl
          obtain ⟨N, hN⟩ : ∃ N : Nat, 65536 + 1024 * (n - 55296) + (ln - 56320) = (N : Int) := ⟨(65536 + 1024 * (n - 55296) + (ln - 56320)).toNat, by omega⟩
          have hNr : Hid ((N < 55296 ∨ 57343 < N) ∧ N ≤ 1114111) := Lib.hid (by omega)
          have HN := Lib.hid hN
          have w1 : IntKind.i64.wrap (n - 55296) = n - 55296 := IntWalk.i64_in _ ⟨by omega, by omega⟩
          have w2 : IntKind.i64.wrap (1024 * (n - 55296)) = 1024 * (n - 55296) := IntWalk.i64_in _ ⟨by omega, by omega⟩
          have w3 : IntKind.i64.wrap (65536 + 1024 * (n - 55296)) = 65536 + 1024 * (n - 55296) := IntWalk.i64_in _ ⟨by omega, by omega⟩
          have w4 : IntKind.i64.wrap (ln - 56320) = ln - 56320 := IntWalk.i64_in _ ⟨by omega, by omega⟩
          have w5 : IntKind.i64.wrap (65536 + 1024 * (n - 55296) + (ln - 56320)) = (N : Int) := by rw [IntWalk.i64_in _ ⟨by omega, by omega⟩]; exact hN
          have w6 : IntKind.i32.wrap (N : Int) = (N : Int) := IntWalk.i32_in _ ⟨by omega, by omega⟩
          rw [hN] at hP
          subst hP
          show Calls _ _ _ _ (DecPost w g b v (k + 4 + 6) (l ++ runeB N) 0)
          clear b2 c2 hlt n1 n2 hllt m0 m1 hN
          go_enter Try.func28, Try.ntmps28
          go_wp2_with fail
          refine hd.out.mono ?_
          rintro e W ⟨rfl, ⟨k', hR, hk', he'⟩, hO⟩
          have hk4 : k' = k + 4 := he' rfl
          subst hk4
          have HO0 := Lib.hid hO
          have hlo := Lib.hid (Hlow.out W hk' hR)
          clear hR hO hd hk' he'
          go_wp2_with fail
          refine hlo.out.mono ?_
          rintro e Y ⟨rfl, ⟨k2, hR, hk', he'⟩, hOy⟩
          have hO := HO0.out.trans hOy (fun _ _ h => h)
          have hk6 : k2 = k + 4 + 6 := he' rfl
          subst hk6
          clear hOy
          have c2 : Y.cell? ⟨g, 2, none⟩ = some v := hR.1.cell 2
          have hr := Lib.hid (Hr.out Y _ N hNr.out hR)
          have HR := Lib.hid hR
          have HO := Lib.hid hO
          clear hR hk' he' hO hlo Hr Hlow
          go_wp2_with fail
          refine hr.out.mono ?_
          rintro e X ⟨v1, rfl, hG⟩
          obtain ⟨f2, d2⟩ := rdr_cell HR.out hG
          obtain ⟨a1, c1, rfl, _, _, _, _⟩ := hG.own.nums
          have HF := Lib.hid (rdr_app HR.out hG (.int .i64 0))
          clear hG hr c2
          obtain ⟨L, hL⟩ : ∃ L, Hid ((l ++ runeB N).length = L) := ⟨_, Lib.hid rfl⟩
          rw [hL.out] at HF ⊢
          go_wp2_with fail
          go_ret
          exact (HF.out.mono HO.out).dec
        · rw [if_neg d1] at hP
          subst hP
          have q4 : (le == 0) = false := beq_eq_false_iff_ne.mpr d1
          have Hd1 := Lib.hid d1
          clear b2 c2 hlt n1 n2 hllt d1 Hr
          go_enter Try.func28, Try.ntmps28
          go_wp2_with fail
          refine hd.out.mono ?_
          rintro e W ⟨rfl, ⟨k', hR, hk', he'⟩, hO⟩
          have hk4 : k' = k + 4 := he' rfl
          subst hk4
          have HO0 := Lib.hid hO
          have hlo := Lib.hid (Hlow.out W hk' hR)
          clear hR hO hd hk' he'
          go_wp2_with fail
          refine hlo.out.mono ?_
          rintro e Y ⟨rfl, ⟨k2, hR, hk', he'⟩, hOy⟩
          have HO := Lib.hid (HO0.out.trans hOy (fun _ _ h => h))
          clear hOy hR hk' he' hlo
          go_wp2_with fail
          go_ret
          exact ⟨rfl, HO.out.mono (fun b _ e => .inl e), fun h => absurd h Hd1.out⟩
      · rw [if_neg c2] at hP
        obtain ⟨N, rfl⟩ : ∃ N : Nat, n = (N : Int) := ⟨n.toNat, by omega⟩
        have hNr : Hid ((N < 55296 ∨ 57343 < N) ∧ N ≤ 1114111) := Lib.hid (by omega)
        have hP0 : True := trivial
        have w6 : IntKind.i32.wrap (N : Int) = (N : Int) := IntWalk.i32_in _ ⟨by omega, by omega⟩
        subst hP
        show Calls _ _ _ _ (DecPost w g b v (k + 4) (l ++ runeB N) 0)
        by_cases d1 : N < 55296
        · have q1 : decide ((56320 : Int) ≤ (N : Int)) = false := decide_eq_false (by omega)
          have q2 : decide ((55296 : Int) ≤ (N : Int)) = false := decide_eq_false (by omega)
          clear b2 c2 hlt n1 hllt hP0
          go_enter Try.func28, Try.ntmps28
          go_wp2_with fail
          refine hd.out.mono ?_
          rintro e W ⟨rfl, ⟨k', hR, hk', he'⟩, hO⟩
          have hk4 : k' = k + 4 := he' rfl
          subst hk4
          have c2 : W.cell? ⟨g, 2, none⟩ = some v := hR.1.cell 2
          have hr := Lib.hid (Hr.out W _ N hNr.out hR)
          have HR := Lib.hid hR
          have HO := Lib.hid hO
          clear hR hk' he' hO hd Hr Hlow
          go_wp2_with fail
          refine hr.out.mono ?_
          rintro e X ⟨v1, rfl, hG⟩
          obtain ⟨f2, d2⟩ := rdr_cell HR.out hG
          obtain ⟨a1, c1, rfl, _, _, _, _⟩ := hG.own.nums
          have HF := Lib.hid (rdr_app HR.out hG (.int .i64 0))
          clear hG hr c2
          obtain ⟨L, hL⟩ : ∃ L, Hid ((l ++ runeB N).length = L) := ⟨_, Lib.hid rfl⟩
          rw [hL.out] at HF ⊢
          go_wp2_with fail
          go_ret
          exact (HF.out.mono HO.out).dec
        · have q1 : decide ((56320 : Int) ≤ (N : Int)) = true := decide_eq_true (by omega)
          have q3 : decide ((N : Int) ≤ 57343) = false := decide_eq_false (by omega)
          have q2 : decide ((55296 : Int) ≤ (N : Int)) = true := decide_eq_true (by omega)
          have q4 : decide ((N : Int) < 56320) = false := decide_eq_false (by omega)
          clear b2 c2 hlt n1 hllt hP0
          go_enter Try.func28, Try.ntmps28
          go_wp2_with fail
          refine hd.out.mono ?_
          rintro e W ⟨rfl, ⟨k', hR, hk', he'⟩, hO⟩
          have hk4 : k' = k + 4 := he' rfl
          subst hk4
          have c2 : W.cell? ⟨g, 2, none⟩ = some v := hR.1.cell 2
          have hr := Lib.hid (Hr.out W _ N hNr.out hR)
          have HR := Lib.hid hR
          have HO := Lib.hid hO
          clear hR hk' he' hO hd Hr Hlow
          go_wp2_with fail
          refine hr.out.mono ?_
          rintro e X ⟨v1, rfl, hG⟩
          obtain ⟨f2, d2⟩ := rdr_cell HR.out hG
          obtain ⟨a1, c1, rfl, _, _, _, _⟩ := hG.own.nums
          have HF := Lib.hid (rdr_app HR.out hG (.int .i64 0))
          clear hG hr c2
          obtain ⟨L, hL⟩ : ∃ L, Hid ((l ++ runeB N).length = L) := ⟨_, Lib.hid rfl⟩
          rw [hL.out] at HF ⊢
          go_wp2_with fail
          go_ret
          exact (HF.out.mono HO.out).dec
  · rw [if_neg b1] at hP
    subst hP
    have q1 : (e == 0) = false := beq_eq_false_iff_ne.mpr b1
    have Hb1 := Lib.hid b1
    clear b1 hlt Hlow hllt Hr
    go_enter Try.func28, Try.ntmps28
    go_wp2_with fail
    refine hd.out.mono ?_
    rintro e W ⟨rfl, ⟨k', hR, hk', he'⟩, hO⟩
    have HO := Lib.hid hO
    clear hR hk' he' hO hd
    go_wp2_with fail
    go_ret
    exact ⟨rfl, HO.out.mono (fun b _ e => .inl e), fun h => absurd h Hb1.out⟩
end Go.Proofs.Ytdaipnlgloafdaa
