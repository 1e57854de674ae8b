/- Layer 9: the reader's groups. -/
import Derived.Test.YtohgdlhijgjdkaaPathRd3
namespace Go.Proofs.Ytohgdlhijgjdkaa
open Go.RowKit
set_option linter.unusedVariables false
set_option maxRecDepth 100000

def leastN (k : Int) : Int := if k = 3 then 3 else if k = 2 then 2 else 1
theorem least_any (k : Int) (w : World) : Calls Try.prog 23 #[.int .i64 k] w fun e w' => e = .returned (.int .i64 (leastN k)) ∧ w = w' := by
  unfold leastN
  by_cases h3 : k = 3
  · subst h3
    rw [if_pos rfl]
    go_enter Try.func23, Try.ntmps23
    go_wp2_with fail
    go_ret
    exact ⟨rfl, rfl⟩
  · have d3 : (k == 3) = false := by simpa using h3
    rw [if_neg h3]
    by_cases h2 : k = 2
    · subst h2
      rw [if_pos rfl]
      go_enter Try.func23, Try.ntmps23
      go_wp2_with fail
      go_ret
      exact ⟨rfl, rfl⟩
    · have d2 : (k == 2) = false := by simpa using h2
      rw [if_neg h2]
      go_enter Try.func23, Try.ntmps23
      go_wp2_with fail
      go_ret
      exact ⟨rfl, rfl⟩
theorem groupsM_err {kind f : Nat} {l : List Nat} {p : P2} {acc : List (List P2)} {e : Nat} (h : groupM kind l p = .error e) : groupsM kind (f + 1) l p acc = .error e := by simp [groupsM, h]
theorem groupsM_ok {kind f : Nat} {l r : List Nat} {p q : P2} {a : List P2} {acc : List (List P2)} (h : groupM kind l p = .ok (a, r, q)) : groupsM kind (f + 1) l p acc = if r = [] then .ok (acc ++ [a]) else groupsM kind f r q (acc ++ [a]) := by simp [groupsM, h]
def GrpOk (base : Nat) (w : World) (a : List (List P2)) (e : Ending) (w' : World) : Prop := ∃ v', e = .returned v' ∧ Paths w' w.heap.size v' a ∧ Below base w w'
set_option maxHeartbeats 32000000 in
theorem groups_any (base g : Nat) (K : Int) (kind km : Nat) (l : List Nat) (w : World) (hR : RS w base g l (0, 0)) (hg : base ≤ g) (hB : base ≤ w.heap.size) (hlen : l.length ≤ 1000) (hl : ∀ x ∈ l, x < 4294967296) (hK : K = (kind : Int)) (hkm : kind = km + 1) (hk23 : km = 1 ∨ km = 2) :
    Calls Try.prog 20 #[.pointer (some ⟨g, 0, none⟩), .int .i64 K] w (MPost base w (groupsM kind (l.length + 1) l (0, 0) []) (GrpOk base w)) := by
  obtain ⟨i0, hi0, hz0, hz1, hz2⟩ := info_parts ppinfo
  obtain ⟨R, hRe⟩ : ∃ R, groupsM kind (l.length + 1) l (0, 0) [] = R := ⟨_, rfl⟩
  rw [hRe]
  have HRe := Lib.hid hRe
  have HR0 := Lib.hid hR
  have HL0 := Lib.hid hlen
  have Hl0 := Lib.hid hl
  have hltg := hR.lt
  have hq1 : K - 1 = (km : Int) := by omega
  have hK2 : 2 ≤ K := by omega
  have hK3 : K ≤ 3 := by omega
  have HLe := Lib.hid fun W => (show Calls Try.prog 23 #[.int .i64 K] W fun e w' => e = .returned (.int .i64 K) ∧ W = w' from by
    have := least_any K W
    have e : leastN K = K := by
      unfold leastN
      split
      · omega
      · split <;> omega
    rw [e] at this
    exact this)
  have HKm : Hid (kind - 1 = km ∧ kind = km + 1 ∧ (km = 1 ∨ km = 2) ∧ K = (kind : Int)) := ⟨by omega, hkm, hk23, hK⟩
  clear hRe hR hlen hl hkm hk23 hK
  go_enter Try.func20, Try.ntmps20
  go_wp2_with fail
  go_loopw [5, 6] (fun ps fi W => ∃ (f : Nat) (lk : List Nat) (pk : P2) (acc : List (List P2)) (v1 : Value) (fb : Bool), v1 = ps ∧ fi = .bool fb ∧ Hid (Paths W w.heap.size v1 acc) ∧ Hid (RS W base g lk pk) ∧ Hid (Only (fun b => b = g) w W) ∧ Hid (inP pk) ∧ Hid (lk.length < f ∧ acc.length + lk.length ≤ 1000) ∧ Hid (∀ x ∈ lk, x < 4294967296) ∧ Hid (if fb = true ∨ lk ≠ [] then groupsM kind f lk pk acc = R else R = .ok acc)) (fun _ _ W => lenAt W g)
  case atStart => exact ⟨l.length + 1, l, (0, 0), [], _, true, rfl, rfl, Paths.nil_ _ _, HR0, Only.refl _ _, ⟨by simp, by simp⟩, ⟨by omega, by simpa using HL0.out⟩, Hl0, by show (if _ then _ else _); rw [if_pos (.inl rfl)]; exact HRe.out⟩
  case round =>
    obtain ⟨f, lk, pk, acc, v1, fb, rfl, rfl, HP, HR, HOn, Hpk, HLn, Hl, HRes⟩ := hrel
    clear HR0 HL0 Hl0 HRe
    obtain ⟨ra, rc, c0⟩ := HR.out.row
    cases fb with
    | true =>
      have hres := HRes.out
      rw [if_pos (.inl rfl)] at hres
      obtain ⟨f1, rfl⟩ : ∃ j, f = j + 1 := ⟨f - 1, by have := HLn.out.1; omega⟩
      have hBw : base ≤ wr.heap.size := Nat.le_trans hB HOn.out.size
      have hgw : g < wr.heap.size := HR.out.lt
      have HBr := Lib.hid (only_g HOn.out hg hB)
      have HC := Lib.hid (command_any base g 1 1 1 lk pk wr HR.out hg hBw (by omega) (by omega) (by omega) Hl.out)
      have Hlen := Lib.hid HR.out.len
      cases h1 : cmdM 1 1 1 lk with
      | error e1 =>
        rw [h1] at HC
        have hr : R = .error e1 := by rw [← hres]; exact groupsM_err (by simp [groupM, h1])
        subst hr
        clear hres h1 HP HR HOn Hpk HLn Hl HRes
        go_wp2_with fail
        refine HC.out.mono ?_
        rintro e W ⟨rfl, hb⟩
        exact ⟨rfl, rfl, HBr.out.trans hb⟩
      | ok q1 =>
        obtain ⟨n0, r1⟩ := q1
        rw [h1] at HC
        have Hn0 := Lib.hid (cmdM_len h1).2
        have hl1 := (cmdM_len h1).1
        obtain ⟨x1, hx1⟩ := cmd_cons h1
        have Hs1 : Hid (∀ x ∈ r1, x < 4294967296) := fun z hz => Hl.out z (by rw [hx1]; exact List.mem_cons_of_mem _ hz)
        have HA := Lib.hid fun W (h : RS W base g r1 pk) (hb : base ≤ W.heap.size) => add_any base g (.slice none 0 0) [] n0 r1 pk W h (OwnP.nil_ _ _) (by simp [Value.ownBlock]) hg hb Hpk.out (by have := Hn0.out; omega) (by have := HLn.out; simp; omega) Hs1.out
        go_wp2_with fail
        refine HC.out.mono ?_
        rintro e W1 ⟨rfl, hR1, hO1⟩
        have hBW1 : base ≤ W1.heap.size := Nat.le_trans hBw hO1.size
        have HA := Lib.hid (HA.out W1 hR1 hBW1)
        have HO1 := Lib.hid hO1
        clear hR1 hO1 HC hx1 c0
        cases h2 : ptsM n0 r1 pk [] with
        | error e1 =>
          rw [h2] at HA
          have hr : R = .error e1 := by rw [← hres]; exact groupsM_err (by simp [groupM, h1, h2])
          subst hr
          have HBf := Lib.hid (HBr.out.trans (only_g HO1.out hg hBw))
          clear hres h1 h2 HP HR HOn Hpk HLn Hl HRes HO1
          go_wp2_with fail
          refine HA.out.mono ?_
          rintro e W ⟨rfl, hb⟩
          exact ⟨rfl, rfl, HBf.out.trans hb⟩
        | ok q2 =>
          obtain ⟨a2, r2, p2⟩ := q2
          rw [h2] at HA
          have hin2 := ptsM_in _ _ _ _ _ _ _ Hpk.out (by simp) h2
          have hl2 := ptsM_len _ _ _ _ _ _ _ h2
          have Hs2 : Hid (∀ x ∈ r2, x < 4294967296) := fun z hz => Hs1.out z (ptsM_sub _ _ _ _ _ _ _ h2 z hz)
          go_wp2_with fail
          refine HA.out.mono ?_
          rintro e W2 ⟨v2, rfl, hOw2, hR2, hO2, hAt2, hVg2⟩
          have hO2' : Only (fun b => b = g) W1 W2 := hO2.mono (fun b _ hS => by
            rcases hS with hS | hS
            · exact hS
            · simp [Value.ownBlock] at hS)
          have HO2 := Lib.hid (HO1.out.trans hO2' (fun _ _ h => h))
          have hfr2 : ∀ b, v2.ownBlock = some b → wr.heap.size ≤ b := fun b hb => by
            have hs := HO1.out.size
            rcases hAt2 with e | ⟨k, e, hk⟩
            · rw [hb] at e; simp [Value.ownBlock] at e
            · rw [hb] at e; injection e with e; omega
          have HFr2 := Lib.hid hfr2
          have hBW2 : base ≤ W2.heap.size := Nat.le_trans hBw HO2.out.size
          have HOw2 := Lib.hid hOw2
          have HVg2 := Lib.hid hVg2
          have HC3 := Lib.hid (command_any base g 2 km 536870912 r2 p2 W2 hR2 hg hBW2 (by omega) (by have := HKm.out.2.2.1; omega) (by omega) Hs2.out)
          clear hOw2 hR2 hO2 hO2' hAt2 hVg2 hfr2 HA HO1 hBW1
          cases h3 : cmdM 2 km 536870912 r2 with
          | error e1 =>
            rw [h3] at HC3
            have hr : R = .error e1 := by rw [← hres]; exact groupsM_err (by simp [groupM, h1, h2, HKm.out.1, h3])
            subst hr
            have HBf := Lib.hid (HBr.out.trans (only_g HO2.out hg hBw))
            clear hres h1 h2 h3 HP HR HOn Hpk HLn Hl HRes HO2
            go_wp2_with (go_at_call 23; refine (HLe.out _).mono ?_; rintro e W9 ⟨rfl, rfl⟩)
            refine HC3.out.mono ?_
            rintro e W ⟨rfl, hb⟩
            exact ⟨rfl, rfl, HBf.out.trans hb⟩
          | ok q3 =>
            obtain ⟨n, r3⟩ := q3
            rw [h3] at HC3
            have Hn3 := Lib.hid (cmdM_len h3).2
            have hl3 := (cmdM_len h3).1
            obtain ⟨x3, hx3⟩ := cmd_cons h3
            have Hs3 : Hid (∀ x ∈ r3, x < 4294967296) := fun z hz => Hs2.out z (by rw [hx3]; exact List.mem_cons_of_mem _ hz)
            have HA4 := Lib.hid fun W (h : RS W base g r3 p2) (hb : base ≤ W.heap.size) (ho : OwnP W base v2 a2) => add_any base g v2 a2 n r3 p2 W h ho HVg2.out hg hb hin2.1 (by have := Hn3.out; omega) (by have := HLn.out; simp at hl2; omega) Hs3.out
            go_wp2_with (go_at_call 23; refine (HLe.out _).mono ?_; rintro e W9 ⟨rfl, rfl⟩)
            refine HC3.out.mono ?_
            rintro e W3 ⟨rfl, hR3, hO3⟩
            have hBW3 : base ≤ W3.heap.size := Nat.le_trans hBW2 hO3.size
            have HA4 := Lib.hid (HA4.out W3 hR3 hBW3 (HOw2.out.only hO3 (fun b hb e => HVg2.out (by rw [hb, e]))))
            have HO3 := Lib.hid (HO2.out.trans hO3 (fun _ _ h => h))
            clear hR3 hO3 HC3 hx3 HOw2 HO2
            cases h4 : ptsM n r3 p2 a2 with
            | error e1 =>
              rw [h4] at HA4
              have hr : R = .error e1 := by rw [← hres]; exact groupsM_err (by simp [groupM, h1, h2, HKm.out.1, h3, h4])
              subst hr
              have HBf := Lib.hid (HBr.out.trans (only_g HO3.out hg hBw))
              clear hres h1 h2 h3 h4 HP HR HOn Hpk HLn Hl HRes HO3
              go_wp2_with fail
              refine HA4.out.mono ?_
              rintro e W ⟨rfl, hb⟩
              exact ⟨rfl, rfl, HBf.out.trans hb⟩
            | ok q4 =>
              obtain ⟨b4, r4, p3⟩ := q4
              rw [h4] at HA4
              have hin4 := ptsM_in _ _ _ _ _ _ _ hin2.1 hin2.2 h4
              have hl4 := ptsM_len _ _ _ _ _ _ _ h4
              have Hs4 : Hid (∀ x ∈ r4, x < 4294967296) := fun z hz => Hs3.out z (ptsM_sub _ _ _ _ _ _ _ h4 z hz)
              go_wp2_with fail
              refine HA4.out.mono ?_
              rintro e W4 ⟨v4, rfl, hOw4, hR4, hO4, hAt4, hVg4⟩
              have hO4' : Only (fun b => b = g) wr W4 := HO3.out.trans hO4 (fun b hb hS => by
                rcases hS with hS | hS
                · exact hS
                · have := HFr2.out b hS; omega)
              have hfr4 : ∀ b, v4.ownBlock = some b → wr.heap.size ≤ b := fun b hb => by
                have hs := HO3.out.size
                rcases hAt4 with e | ⟨k, e, hk⟩
                · rw [hb] at e; exact HFr2.out b e.symm
                · rw [hb] at e; injection e with e; omega
              have HO4 := Lib.hid hO4'
              have HFr4 := Lib.hid hfr4
              have HOw4 := Lib.hid hOw4
              have HVg4 := Lib.hid hVg4
              have HR4 := Lib.hid hR4
              have hBW4 : base ≤ W4.heap.size := Nat.le_trans hBw hO4'.size
              clear hOw4 hR4 hO4 hO4' hAt4 hVg4 hfr4 HA4 HO3 HFr2 HVg2 HR
              by_cases hk3 : kind = 3
              · have dK : (K == 3) = true := by have := HKm.out.2.2.2; simp; omega
                have HC5 := Lib.hid (command_any base g 7 1 1 r4 p3 W4 HR4.out hg hBW4 (by omega) (by omega) (by omega) Hs4.out)
                cases h5 : cmdM 7 1 1 r4 with
                | error e1 =>
                  rw [h5] at HC5
                  have hr : R = .error e1 := by rw [← hres]; exact groupsM_err (by simp only [groupM, h1, h2, HKm.out.1, h3, h4, if_pos hk3, h5])
                  subst hr
                  have HBf := Lib.hid (HBr.out.trans (only_g HO4.out hg hBw))
                  clear hres h1 h2 h3 h4 h5 HP HOn Hpk HLn Hl HRes HO4 hk3
                  go_wp2_with fail
                  refine HC5.out.mono ?_
                  rintro e W ⟨rfl, hb⟩
                  exact ⟨rfl, rfl, HBf.out.trans hb⟩
                | ok q5 =>
                  obtain ⟨n5, r5⟩ := q5
                  rw [h5] at HC5
                  have hl5 := (cmdM_len h5).1
                  obtain ⟨x5, hx5⟩ := cmd_cons h5
                  have Hs5 : Hid (∀ x ∈ r5, x < 4294967296) := fun z hz => Hs4.out z (by rw [hx5]; exact List.mem_cons_of_mem _ hz)
                  have hgr : groupM kind lk pk = .ok (b4, r5, p3) := by simp only [groupM, h1, h2, HKm.out.1, h3, h4, if_pos hk3, h5]
                  rw [groupsM_ok hgr] at hres
                  go_wp2_with fail
                  refine HC5.out.mono ?_
                  rintro e W5 ⟨rfl, hR5, hO5⟩
                  have HR5 := Lib.hid hR5
                  have HOw5 := Lib.hid (HOw4.out.only hO5 (fun b hb e => HVg4.out (by rw [hb, e])))
                  have HO5 := Lib.hid (HO4.out.trans hO5 (fun _ _ h => h))
                  clear hR5 hO5 hx5 HR4 HOw4 HO4 HC5
                  have hglen := groupM_len hgr
                  have hPk := HP.out.only HO5.out (fun b e => by omega)
                  have HPB := Lib.hid (fun b (hb : v1.ownBlock = some b) => HP.out.lt b hb)
                  obtain ⟨xs, hown, hx⟩ := hPk
                  have HX := Lib.hid hx
                  have hU : RdN W5 v1.ownBlock v4 b4 := RdN.of_rd HOw5.out.rd (fun b hb e => by
                    have h1 := HFr4.out b hb
                    have h2 := (HPB.out b e).2
                    omega)
                  have HU := Lib.hid hU
                  have hsz := HOn.out.size
                  have huo := rdp_one HOw5.out.rd
                  have HUl := Lib.hid (show ∀ b, v4.ownBlock = some b → w.heap.size ≤ b from fun b hb => by have := HFr4.out b hb; omega)
                  have hxl : xs.length = acc.length := by have := hown.1; omega
                  have hBg : w.heap.size ≤ W5.heap.size := by have := HO5.out.size; omega
                  have hacc : acc.length ≤ 1000 := by have := HLn.out.2; omega
                  have hfin : if (false : Bool) = true ∨ r5 ≠ [] then groupsM kind f1 r5 p3 (acc ++ [b4]) = R else R = .ok (acc ++ [b4]) := by
                    by_cases hr0 : r5 = []
                    · rw [if_neg (by simp [hr0])]; rw [if_pos hr0] at hres; exact hres.symm
                    · rw [if_pos (.inr hr0)]; rw [if_neg hr0] at hres; exact hres
                  have Hfin := Lib.hid hfin
                  have hlens : r5.length < f1 ∧ (acc ++ [b4]).length + r5.length ≤ 1000 := by have := HLn.out; simp; omega
                  have Hlens := Lib.hid hlens
                  have hRow := HOw5.out.rd
                  obtain ⟨sa, sc, rfl, _, _, _⟩ := hRow
                  have Hgl := Lib.hid hglen
                  obtain ⟨bl, hbl⟩ : ∃ z, z = b4.length := ⟨_, rfl⟩
                  rw [← hbl] at huo HUl HU
                  try rw [← hbl]
                  clear hx hU hres hgr h1 h2 h3 h4 HOw5 hfin hlens hbl hglen HRes
                  go_wp2_with (at_builtin; refine app_one rfl (.tmp 33) (.tmp 35) 24 rfl w.heap.size 43 i0 _ 24 Try.underlying24 hi0 hz0 hz1 hz2 rfl v1 _ _ rfl hown (.slice sa bl sc) 1 rfl huo (by unfold maxLen; omega) (by omega) hBg ?_)
                  intro v3 w3 g2 g3 g5
                  have hG := Paths.grow HX.out hxl HU.out HUl.out g2 g3 g5
                  have hOg : Only (fun b => v1.ownBlock = some b) W5 w3 := Only.of_grown g3 (fun b e => e)
                  have hPL : ∀ b, v1.ownBlock = some b → w.heap.size ≤ b := fun b hb => (HPB.out b hb).1
                  have hRn : RS w3 base g r5 p3 := HR5.out.only hOg (fun e => by have := hPL g e; omega) (fun b hb => by have := hPL b hb; omega) (by omega)
                  have hOn3 : Only (fun b => b = g) w w3 := by
                    refine (HOn.out.trans HO5.out (fun _ _ h => h)).trans hOg (fun b hb hS => ?_)
                    have := hPL b hS
                    omega
                  have HA1 := Lib.hid hG
                  have HA2 := Lib.hid hRn
                  have HA3 := Lib.hid hOn3
                  clear g2 g3 g5 hG hOg hPL hRn hOn3 hown
                  go_wp2_with fail
                  go_roundw
                  case rel => exact ⟨f1, r5, p3, acc ++ [b4], v3, false, rfl, rfl, HA1, HA2, HA3, hin4.1, Hlens, Hs5, Hfin⟩
                  case measure => rw [HA2.out.len, Hlen.out]; exact Hgl.out
              · have dK : (K == 3) = false := by have := HKm.out.2.2.2; simp; omega
                have hgr : groupM kind lk pk = .ok (b4, r4, p3) := by simp only [groupM, h1, h2, HKm.out.1, h3, h4, if_neg hk3]
                rw [groupsM_ok hgr] at hres
                have hglen := groupM_len hgr
                have hPk := HP.out.only HO4.out (fun b e => by omega)
                have HPB := Lib.hid (fun b (hb : v1.ownBlock = some b) => HP.out.lt b hb)
                obtain ⟨xs, hown, hx⟩ := hPk
                have HX := Lib.hid hx
                have hU : RdN W4 v1.ownBlock v4 b4 := RdN.of_rd HOw4.out.rd (fun b hb e => by
                  have h1 := HFr4.out b hb
                  have h2 := (HPB.out b e).2
                  omega)
                have HU := Lib.hid hU
                have hsz := HOn.out.size
                have huo := rdp_one HOw4.out.rd
                have HUl := Lib.hid (show ∀ b, v4.ownBlock = some b → w.heap.size ≤ b from fun b hb => by have := HFr4.out b hb; omega)
                have hxl : xs.length = acc.length := by have := hown.1; omega
                have hBg : w.heap.size ≤ W4.heap.size := by have := HO4.out.size; omega
                have hacc : acc.length ≤ 1000 := by have := HLn.out.2; omega
                have hfin : if (false : Bool) = true ∨ r4 ≠ [] then groupsM kind f1 r4 p3 (acc ++ [b4]) = R else R = .ok (acc ++ [b4]) := by
                  by_cases hr0 : r4 = []
                  · rw [if_neg (by simp [hr0])]; rw [if_pos hr0] at hres; exact hres.symm
                  · rw [if_pos (.inr hr0)]; rw [if_neg hr0] at hres; exact hres
                have Hfin := Lib.hid hfin
                have hlens : r4.length < f1 ∧ (acc ++ [b4]).length + r4.length ≤ 1000 := by have := HLn.out; simp; omega
                have Hlens := Lib.hid hlens
                have hRow := HOw4.out.rd
                obtain ⟨sa, sc, rfl, _, _, _⟩ := hRow
                have Hgl := Lib.hid hglen
                obtain ⟨bl, hbl⟩ : ∃ z, z = b4.length := ⟨_, rfl⟩
                rw [← hbl] at huo HUl HU
                try rw [← hbl]
                clear hx hU hres hgr h1 h2 h3 h4 HOw4 hfin hlens hbl hglen HRes
                go_wp2_with (at_builtin; refine app_one rfl (.tmp 33) (.tmp 35) 24 rfl w.heap.size 43 i0 _ 24 Try.underlying24 hi0 hz0 hz1 hz2 rfl v1 _ _ rfl hown (.slice sa bl sc) 1 rfl huo (by unfold maxLen; omega) (by omega) hBg ?_)
                intro v3 w3 g2 g3 g5
                have hG := Paths.grow HX.out hxl HU.out HUl.out g2 g3 g5
                have hOg : Only (fun b => v1.ownBlock = some b) W4 w3 := Only.of_grown g3 (fun b e => e)
                have hPL : ∀ b, v1.ownBlock = some b → w.heap.size ≤ b := fun b hb => (HPB.out b hb).1
                have hRn : RS w3 base g r4 p3 := HR4.out.only hOg (fun e => by have := hPL g e; omega) (fun b hb => by have := hPL b hb; omega) (by omega)
                have hOn3 : Only (fun b => b = g) w w3 := by
                  refine (HOn.out.trans HO4.out (fun _ _ h => h)).trans hOg (fun b hb hS => ?_)
                  have := hPL b hS
                  omega
                have HA1 := Lib.hid hG
                have HA2 := Lib.hid hRn
                have HA3 := Lib.hid hOn3
                clear g2 g3 g5 hG hOg hPL hRn hOn3 hown
                go_wp2_with fail
                go_roundw
                case rel => exact ⟨f1, r4, p3, acc ++ [b4], v3, false, rfl, rfl, HA1, HA2, HA3, hin4.1, Hlens, Hs4, Hfin⟩
                case measure => rw [HA2.out.len, Hlen.out]; exact Hgl.out
    | false =>
      cases hlk : lk with
      | nil =>
        subst hlk
        have hres := HRes.out
        rw [if_neg (by simp)] at hres
        subst hres
        simp only [List.length_nil] at c0
        have HF := Lib.hid (only_g HOn.out hg hB)
        have HPr := Lib.hid HP.out
        clear HP HR HOn Hpk HLn Hl HRes
        go_wp2_with fail
        go_ret
        exact ⟨_, rfl, HPr.out, HF.out⟩
      | cons y0 lr =>
        have hres := HRes.out
        rw [if_pos (.inr (by rw [hlk]; simp))] at hres
        obtain ⟨m0, hm0⟩ : ∃ m, m = lk.length := ⟨_, rfl⟩
        have hmp : 0 < m0 := by rw [hm0, hlk]; simp
        rw [← hm0] at c0
        have dm : decide ((0 : Int) < (m0 : Int)) = true := decide_eq_true (by omega)
        clear hlk hm0
        obtain ⟨f1, rfl⟩ : ∃ j, f = j + 1 := ⟨f - 1, by have := HLn.out.1; omega⟩
        have hBw : base ≤ wr.heap.size := Nat.le_trans hB HOn.out.size
        have hgw : g < wr.heap.size := HR.out.lt
        have HBr := Lib.hid (only_g HOn.out hg hB)
        have HC := Lib.hid (command_any base g 1 1 1 lk pk wr HR.out hg hBw (by omega) (by omega) (by omega) Hl.out)
        have Hlen := Lib.hid HR.out.len
        cases h1 : cmdM 1 1 1 lk with
        | error e1 =>
          rw [h1] at HC
          have hr : R = .error e1 := by rw [← hres]; exact groupsM_err (by simp [groupM, h1])
          subst hr
          clear hres h1 HP HR HOn Hpk HLn Hl HRes
          go_wp2_with fail
          refine HC.out.mono ?_
          rintro e W ⟨rfl, hb⟩
          exact ⟨rfl, rfl, HBr.out.trans hb⟩
        | ok q1 =>
          obtain ⟨n0, r1⟩ := q1
          rw [h1] at HC
          have Hn0 := Lib.hid (cmdM_len h1).2
          have hl1 := (cmdM_len h1).1
          obtain ⟨x1, hx1⟩ := cmd_cons h1
          have Hs1 : Hid (∀ x ∈ r1, x < 4294967296) := fun z hz => Hl.out z (by rw [hx1]; exact List.mem_cons_of_mem _ hz)
          have HA := Lib.hid fun W (h : RS W base g r1 pk) (hb : base ≤ W.heap.size) => add_any base g (.slice none 0 0) [] n0 r1 pk W h (OwnP.nil_ _ _) (by simp [Value.ownBlock]) hg hb Hpk.out (by have := Hn0.out; omega) (by have := HLn.out; simp; omega) Hs1.out
          go_wp2_with fail
          refine HC.out.mono ?_
          rintro e W1 ⟨rfl, hR1, hO1⟩
          have hBW1 : base ≤ W1.heap.size := Nat.le_trans hBw hO1.size
          have HA := Lib.hid (HA.out W1 hR1 hBW1)
          have HO1 := Lib.hid hO1
          clear hR1 hO1 HC hx1 c0
          cases h2 : ptsM n0 r1 pk [] with
          | error e1 =>
            rw [h2] at HA
            have hr : R = .error e1 := by rw [← hres]; exact groupsM_err (by simp [groupM, h1, h2])
            subst hr
            have HBf := Lib.hid (HBr.out.trans (only_g HO1.out hg hBw))
            clear hres h1 h2 HP HR HOn Hpk HLn Hl HRes HO1
            go_wp2_with fail
            refine HA.out.mono ?_
            rintro e W ⟨rfl, hb⟩
            exact ⟨rfl, rfl, HBf.out.trans hb⟩
          | ok q2 =>
            obtain ⟨a2, r2, p2⟩ := q2
            rw [h2] at HA
            have hin2 := ptsM_in _ _ _ _ _ _ _ Hpk.out (by simp) h2
            have hl2 := ptsM_len _ _ _ _ _ _ _ h2
            have Hs2 : Hid (∀ x ∈ r2, x < 4294967296) := fun z hz => Hs1.out z (ptsM_sub _ _ _ _ _ _ _ h2 z hz)
            go_wp2_with fail
            refine HA.out.mono ?_
            rintro e W2 ⟨v2, rfl, hOw2, hR2, hO2, hAt2, hVg2⟩
            have hO2' : Only (fun b => b = g) W1 W2 := hO2.mono (fun b _ hS => by
              rcases hS with hS | hS
              · exact hS
              · simp [Value.ownBlock] at hS)
            have HO2 := Lib.hid (HO1.out.trans hO2' (fun _ _ h => h))
            have hfr2 : ∀ b, v2.ownBlock = some b → wr.heap.size ≤ b := fun b hb => by
              have hs := HO1.out.size
              rcases hAt2 with e | ⟨k, e, hk⟩
              · rw [hb] at e; simp [Value.ownBlock] at e
              · rw [hb] at e; injection e with e; omega
            have HFr2 := Lib.hid hfr2
            have hBW2 : base ≤ W2.heap.size := Nat.le_trans hBw HO2.out.size
            have HOw2 := Lib.hid hOw2
            have HVg2 := Lib.hid hVg2
            have HC3 := Lib.hid (command_any base g 2 km 536870912 r2 p2 W2 hR2 hg hBW2 (by omega) (by have := HKm.out.2.2.1; omega) (by omega) Hs2.out)
            clear hOw2 hR2 hO2 hO2' hAt2 hVg2 hfr2 HA HO1 hBW1
            cases h3 : cmdM 2 km 536870912 r2 with
            | error e1 =>
              rw [h3] at HC3
              have hr : R = .error e1 := by rw [← hres]; exact groupsM_err (by simp [groupM, h1, h2, HKm.out.1, h3])
              subst hr
              have HBf := Lib.hid (HBr.out.trans (only_g HO2.out hg hBw))
              clear hres h1 h2 h3 HP HR HOn Hpk HLn Hl HRes HO2
              go_wp2_with (go_at_call 23; refine (HLe.out _).mono ?_; rintro e W9 ⟨rfl, rfl⟩)
              refine HC3.out.mono ?_
              rintro e W ⟨rfl, hb⟩
              exact ⟨rfl, rfl, HBf.out.trans hb⟩
            | ok q3 =>
              obtain ⟨n, r3⟩ := q3
              rw [h3] at HC3
              have Hn3 := Lib.hid (cmdM_len h3).2
              have hl3 := (cmdM_len h3).1
              obtain ⟨x3, hx3⟩ := cmd_cons h3
              have Hs3 : Hid (∀ x ∈ r3, x < 4294967296) := fun z hz => Hs2.out z (by rw [hx3]; exact List.mem_cons_of_mem _ hz)
              have HA4 := Lib.hid fun W (h : RS W base g r3 p2) (hb : base ≤ W.heap.size) (ho : OwnP W base v2 a2) => add_any base g v2 a2 n r3 p2 W h ho HVg2.out hg hb hin2.1 (by have := Hn3.out; omega) (by have := HLn.out; simp at hl2; omega) Hs3.out
              go_wp2_with (go_at_call 23; refine (HLe.out _).mono ?_; rintro e W9 ⟨rfl, rfl⟩)
              refine HC3.out.mono ?_
              rintro e W3 ⟨rfl, hR3, hO3⟩
              have hBW3 : base ≤ W3.heap.size := Nat.le_trans hBW2 hO3.size
              have HA4 := Lib.hid (HA4.out W3 hR3 hBW3 (HOw2.out.only hO3 (fun b hb e => HVg2.out (by rw [hb, e]))))
              have HO3 := Lib.hid (HO2.out.trans hO3 (fun _ _ h => h))
              clear hR3 hO3 HC3 hx3 HOw2 HO2
              cases h4 : ptsM n r3 p2 a2 with
              | error e1 =>
                rw [h4] at HA4
                have hr : R = .error e1 := by rw [← hres]; exact groupsM_err (by simp [groupM, h1, h2, HKm.out.1, h3, h4])
                subst hr
                have HBf := Lib.hid (HBr.out.trans (only_g HO3.out hg hBw))
                clear hres h1 h2 h3 h4 HP HR HOn Hpk HLn Hl HRes HO3
                go_wp2_with fail
                refine HA4.out.mono ?_
                rintro e W ⟨rfl, hb⟩
                exact ⟨rfl, rfl, HBf.out.trans hb⟩
              | ok q4 =>
                obtain ⟨b4, r4, p3⟩ := q4
                rw [h4] at HA4
                have hin4 := ptsM_in _ _ _ _ _ _ _ hin2.1 hin2.2 h4
                have hl4 := ptsM_len _ _ _ _ _ _ _ h4
                have Hs4 : Hid (∀ x ∈ r4, x < 4294967296) := fun z hz => Hs3.out z (ptsM_sub _ _ _ _ _ _ _ h4 z hz)
                go_wp2_with fail
                refine HA4.out.mono ?_
                rintro e W4 ⟨v4, rfl, hOw4, hR4, hO4, hAt4, hVg4⟩
                have hO4' : Only (fun b => b = g) wr W4 := HO3.out.trans hO4 (fun b hb hS => by
                  rcases hS with hS | hS
                  · exact hS
                  · have := HFr2.out b hS; omega)
                have hfr4 : ∀ b, v4.ownBlock = some b → wr.heap.size ≤ b := fun b hb => by
                  have hs := HO3.out.size
                  rcases hAt4 with e | ⟨k, e, hk⟩
                  · rw [hb] at e; exact HFr2.out b e.symm
                  · rw [hb] at e; injection e with e; omega
                have HO4 := Lib.hid hO4'
                have HFr4 := Lib.hid hfr4
                have HOw4 := Lib.hid hOw4
                have HVg4 := Lib.hid hVg4
                have HR4 := Lib.hid hR4
                have hBW4 : base ≤ W4.heap.size := Nat.le_trans hBw hO4'.size
                clear hOw4 hR4 hO4 hO4' hAt4 hVg4 hfr4 HA4 HO3 HFr2 HVg2 HR
                by_cases hk3 : kind = 3
                · have dK : (K == 3) = true := by have := HKm.out.2.2.2; simp; omega
                  have HC5 := Lib.hid (command_any base g 7 1 1 r4 p3 W4 HR4.out hg hBW4 (by omega) (by omega) (by omega) Hs4.out)
                  cases h5 : cmdM 7 1 1 r4 with
                  | error e1 =>
                    rw [h5] at HC5
                    have hr : R = .error e1 := by rw [← hres]; exact groupsM_err (by simp only [groupM, h1, h2, HKm.out.1, h3, h4, if_pos hk3, h5])
                    subst hr
                    have HBf := Lib.hid (HBr.out.trans (only_g HO4.out hg hBw))
                    clear hres h1 h2 h3 h4 h5 HP HOn Hpk HLn Hl HRes HO4 hk3
                    go_wp2_with fail
                    refine HC5.out.mono ?_
                    rintro e W ⟨rfl, hb⟩
                    exact ⟨rfl, rfl, HBf.out.trans hb⟩
                  | ok q5 =>
                    obtain ⟨n5, r5⟩ := q5
                    rw [h5] at HC5
                    have hl5 := (cmdM_len h5).1
                    obtain ⟨x5, hx5⟩ := cmd_cons h5
                    have Hs5 : Hid (∀ x ∈ r5, x < 4294967296) := fun z hz => Hs4.out z (by rw [hx5]; exact List.mem_cons_of_mem _ hz)
                    have hgr : groupM kind lk pk = .ok (b4, r5, p3) := by simp only [groupM, h1, h2, HKm.out.1, h3, h4, if_pos hk3, h5]
                    rw [groupsM_ok hgr] at hres
                    go_wp2_with fail
                    refine HC5.out.mono ?_
                    rintro e W5 ⟨rfl, hR5, hO5⟩
                    have HR5 := Lib.hid hR5
                    have HOw5 := Lib.hid (HOw4.out.only hO5 (fun b hb e => HVg4.out (by rw [hb, e])))
                    have HO5 := Lib.hid (HO4.out.trans hO5 (fun _ _ h => h))
                    clear hR5 hO5 hx5 HR4 HOw4 HO4 HC5
                    have hglen := groupM_len hgr
                    have hPk := HP.out.only HO5.out (fun b e => by omega)
                    have HPB := Lib.hid (fun b (hb : v1.ownBlock = some b) => HP.out.lt b hb)
                    obtain ⟨xs, hown, hx⟩ := hPk
                    have HX := Lib.hid hx
                    have hU : RdN W5 v1.ownBlock v4 b4 := RdN.of_rd HOw5.out.rd (fun b hb e => by
                      have h1 := HFr4.out b hb
                      have h2 := (HPB.out b e).2
                      omega)
                    have HU := Lib.hid hU
                    have hsz := HOn.out.size
                    have huo := rdp_one HOw5.out.rd
                    have HUl := Lib.hid (show ∀ b, v4.ownBlock = some b → w.heap.size ≤ b from fun b hb => by have := HFr4.out b hb; omega)
                    have hxl : xs.length = acc.length := by have := hown.1; omega
                    have hBg : w.heap.size ≤ W5.heap.size := by have := HO5.out.size; omega
                    have hacc : acc.length ≤ 1000 := by have := HLn.out.2; omega
                    have hfin : if (false : Bool) = true ∨ r5 ≠ [] then groupsM kind f1 r5 p3 (acc ++ [b4]) = R else R = .ok (acc ++ [b4]) := by
                      by_cases hr0 : r5 = []
                      · rw [if_neg (by simp [hr0])]; rw [if_pos hr0] at hres; exact hres.symm
                      · rw [if_pos (.inr hr0)]; rw [if_neg hr0] at hres; exact hres
                    have Hfin := Lib.hid hfin
                    have hlens : r5.length < f1 ∧ (acc ++ [b4]).length + r5.length ≤ 1000 := by have := HLn.out; simp; omega
                    have Hlens := Lib.hid hlens
                    have hRow := HOw5.out.rd
                    obtain ⟨sa, sc, rfl, _, _, _⟩ := hRow
                    have Hgl := Lib.hid hglen
                    obtain ⟨bl, hbl⟩ : ∃ z, z = b4.length := ⟨_, rfl⟩
                    rw [← hbl] at huo HUl HU
                    try rw [← hbl]
                    clear hx hU hres hgr h1 h2 h3 h4 HOw5 hfin hlens hbl hglen HRes
                    go_wp2_with (at_builtin; refine app_one rfl (.tmp 33) (.tmp 35) 24 rfl w.heap.size 43 i0 _ 24 Try.underlying24 hi0 hz0 hz1 hz2 rfl v1 _ _ rfl hown (.slice sa bl sc) 1 rfl huo (by unfold maxLen; omega) (by omega) hBg ?_)
                    intro v3 w3 g2 g3 g5
                    have hG := Paths.grow HX.out hxl HU.out HUl.out g2 g3 g5
                    have hOg : Only (fun b => v1.ownBlock = some b) W5 w3 := Only.of_grown g3 (fun b e => e)
                    have hPL : ∀ b, v1.ownBlock = some b → w.heap.size ≤ b := fun b hb => (HPB.out b hb).1
                    have hRn : RS w3 base g r5 p3 := HR5.out.only hOg (fun e => by have := hPL g e; omega) (fun b hb => by have := hPL b hb; omega) (by omega)
                    have hOn3 : Only (fun b => b = g) w w3 := by
                      refine (HOn.out.trans HO5.out (fun _ _ h => h)).trans hOg (fun b hb hS => ?_)
                      have := hPL b hS
                      omega
                    have HA1 := Lib.hid hG
                    have HA2 := Lib.hid hRn
                    have HA3 := Lib.hid hOn3
                    clear g2 g3 g5 hG hOg hPL hRn hOn3 hown
                    go_wp2_with fail
                    go_roundw
                    case rel => exact ⟨f1, r5, p3, acc ++ [b4], v3, false, rfl, rfl, HA1, HA2, HA3, hin4.1, Hlens, Hs5, Hfin⟩
                    case measure => rw [HA2.out.len, Hlen.out]; exact Hgl.out
                · have dK : (K == 3) = false := by have := HKm.out.2.2.2; simp; omega
                  have hgr : groupM kind lk pk = .ok (b4, r4, p3) := by simp only [groupM, h1, h2, HKm.out.1, h3, h4, if_neg hk3]
                  rw [groupsM_ok hgr] at hres
                  have hglen := groupM_len hgr
                  have hPk := HP.out.only HO4.out (fun b e => by omega)
                  have HPB := Lib.hid (fun b (hb : v1.ownBlock = some b) => HP.out.lt b hb)
                  obtain ⟨xs, hown, hx⟩ := hPk
                  have HX := Lib.hid hx
                  have hU : RdN W4 v1.ownBlock v4 b4 := RdN.of_rd HOw4.out.rd (fun b hb e => by
                    have h1 := HFr4.out b hb
                    have h2 := (HPB.out b e).2
                    omega)
                  have HU := Lib.hid hU
                  have hsz := HOn.out.size
                  have huo := rdp_one HOw4.out.rd
                  have HUl := Lib.hid (show ∀ b, v4.ownBlock = some b → w.heap.size ≤ b from fun b hb => by have := HFr4.out b hb; omega)
                  have hxl : xs.length = acc.length := by have := hown.1; omega
                  have hBg : w.heap.size ≤ W4.heap.size := by have := HO4.out.size; omega
                  have hacc : acc.length ≤ 1000 := by have := HLn.out.2; omega
                  have hfin : if (false : Bool) = true ∨ r4 ≠ [] then groupsM kind f1 r4 p3 (acc ++ [b4]) = R else R = .ok (acc ++ [b4]) := by
                    by_cases hr0 : r4 = []
                    · rw [if_neg (by simp [hr0])]; rw [if_pos hr0] at hres; exact hres.symm
                    · rw [if_pos (.inr hr0)]; rw [if_neg hr0] at hres; exact hres
                  have Hfin := Lib.hid hfin
                  have hlens : r4.length < f1 ∧ (acc ++ [b4]).length + r4.length ≤ 1000 := by have := HLn.out; simp; omega
                  have Hlens := Lib.hid hlens
                  have hRow := HOw4.out.rd
                  obtain ⟨sa, sc, rfl, _, _, _⟩ := hRow
                  have Hgl := Lib.hid hglen
                  obtain ⟨bl, hbl⟩ : ∃ z, z = b4.length := ⟨_, rfl⟩
                  rw [← hbl] at huo HUl HU
                  try rw [← hbl]
                  clear hx hU hres hgr h1 h2 h3 h4 HOw4 hfin hlens hbl hglen HRes
                  go_wp2_with (at_builtin; refine app_one rfl (.tmp 33) (.tmp 35) 24 rfl w.heap.size 43 i0 _ 24 Try.underlying24 hi0 hz0 hz1 hz2 rfl v1 _ _ rfl hown (.slice sa bl sc) 1 rfl huo (by unfold maxLen; omega) (by omega) hBg ?_)
                  intro v3 w3 g2 g3 g5
                  have hG := Paths.grow HX.out hxl HU.out HUl.out g2 g3 g5
                  have hOg : Only (fun b => v1.ownBlock = some b) W4 w3 := Only.of_grown g3 (fun b e => e)
                  have hPL : ∀ b, v1.ownBlock = some b → w.heap.size ≤ b := fun b hb => (HPB.out b hb).1
                  have hRn : RS w3 base g r4 p3 := HR4.out.only hOg (fun e => by have := hPL g e; omega) (fun b hb => by have := hPL b hb; omega) (by omega)
                  have hOn3 : Only (fun b => b = g) w w3 := by
                    refine (HOn.out.trans HO4.out (fun _ _ h => h)).trans hOg (fun b hb hS => ?_)
                    have := hPL b hS
                    omega
                  have HA1 := Lib.hid hG
                  have HA2 := Lib.hid hRn
                  have HA3 := Lib.hid hOn3
                  clear g2 g3 g5 hG hOg hPL hRn hOn3 hown
                  go_wp2_with fail
                  go_roundw
                  case rel => exact ⟨f1, r4, p3, acc ++ [b4], v3, false, rfl, rfl, HA1, HA2, HA3, hin4.1, Hlens, Hs4, Hfin⟩
                  case measure => rw [HA2.out.len, Hlen.out]; exact Hgl.out
end Go.Proofs.Ytohgdlhijgjdkaa
