/- Layer 34: Get. -/
import Derived.Test.YthbgijpakjfjkaaLru4
namespace Go.Proofs.Ythbgijpakjfjkaa
open Go.RowKit
set_option linter.unusedVariables false
set_option maxRecDepth 100000

theorem zeroPE (w : World) : (zeroValue 53).run Try.prog w = .ok (.pointer none) w := by kernel_rfl
/-- c.known[key]. -/
theorem look_own (w : World) {ops : Array Oper} {rest : List Oper} {o : Oper} {a : Act} {Q : Exit → Act → World → Prop} (hg : o.guard = none) (m x : Operand) (hop : o.op = Op.lookup 52 m x true) (b n : Nat) (D : DataW Unit)
    (hm : a.eval m = .map (some b)) (hown : w.ownsMap Try.prog 9 RP b n D) (s : ByteArray) (hs : s.size ≤ maxLen) (hx : a.eval x = .string s) (V : Value) (B : Bool) (hV : ∀ v ps, RP v = some (D.atKey (kl s) (.lit (.bool false)), ps) → v = V) (hB : Maps.has D (kl s) = B)
    (hK : wpList Try.prog ops Q rest (a.put o.dst (.tuple #[V, .bool B])) w) : wpList Try.prog ops Q (o :: rest) a w :=
  wpList_lookup_own_ok w hg m x 52 hop 9 53 K9 Try.underlying52 RP (zeroPE w) (.lit (.bool false)) [] RP_nil b n D hm hown (.string s) (kl s) hx (keyOf_str s hs) (fun v ps hv => by
    rw [hV v ps hv, hB]
    exact hK)
theorem look_hit {D : DataW Unit} {es : List En} {s : ByteArray} {x : En} (h : MapOK D es) (hx : fnd es s = some x) : (∀ v ps, RP v = some (D.atKey (kl s) (.lit (.bool false)), ps) → v = .pointer (some ⟨x.blk, 0, none⟩)) ∧ Maps.has D (kl s) = true := by
  have h1 := h.at_ s
  have h2 := h.has s
  rw [hx] at h1 h2
  exact ⟨fun v ps hv => RP_inv (by rw [h1] at hv; exact hv), h2⟩
theorem look_miss {D : DataW Unit} {es : List En} {s : ByteArray} (h : MapOK D es) (hx : fnd es s = none) : (∀ v ps, RP v = some (D.atKey (kl s) (.lit (.bool false)), ps) → v = .pointer none) ∧ Maps.has D (kl s) = false := by
  have h1 := h.at_ s
  have h2 := h.has s
  rw [hx] at h1 h2
  exact ⟨fun v ps hv => RP_no (by rw [h1] at hv; exact hv), h2⟩
/-- A store into the cache's own block. -/
theorem St.setg {w : World} {base g mp n : Nat} {cs : Array Value} {D : DataW Unit} {nodes : List Nat} {es : List En} {ring : List Nat} (h : St w base g mp n cs D nodes es ring) (i : Nat) (v : Value) :
    St (w.setCell ⟨g, i, none⟩ v) base g mp n (cs.setIfInBounds i v) D nodes es ring ∧ Only (LS base w) w (w.setCell ⟨g, i, none⟩ v) :=
  ⟨h.other (c := g) (Only.setCell (S := fun b => b = g) (Only.refl _ _) (fun _ => rfl) _) (.inl rfl) (h.cache.set i v) (h.map.setCell (fun e => h.mp_g e) _), Only.setCell (S := LS base w) (Only.refl _ _) (fun _ => h.ls_g) _⟩
theorem fnd_at (l1 l2 : List En) (x : En) (s : ByteArray) (hk : (keysOf (l1 ++ x :: l2)).Nodup) (h : kb x.key = kb s) : fnd (l1 ++ x :: l2) s = some x := by
  have hn : fnd l1 s = none := by
    apply fnd_not
    unfold keysOf at hk ⊢
    rw [List.map_append, List.map_cons] at hk
    obtain ⟨h1, h2, h3⟩ := List.nodup_append.1 hk
    exact fun hm => h3 _ hm _ (List.mem_cons_self ..) h.symm
  unfold fnd at hn ⊢
  rw [List.find?_append, hn, List.find?_cons]
  simp [h]
theorem fnd_move (l1 l2 : List En) (x : En) (s : ByteArray) (hk : (keysOf (l1 ++ x :: l2)).Nodup) : fnd (x :: (l1 ++ l2)) s = fnd (l1 ++ x :: l2) s := by
  rw [fnd_cons]
  by_cases h : kb x.key = kb s
  · rw [if_pos h, fnd_at l1 l2 x s hk h]
  · rw [if_neg h, fnd_mid l1 l2 x s hk, if_neg h]
theorem MapOK.move {D : DataW Unit} {l1 l2 : List En} {x : En} (h : MapOK D (l1 ++ x :: l2)) (hk : (keysOf (l1 ++ x :: l2)).Nodup) : MapOK D (x :: (l1 ++ l2)) :=
  ⟨h.tidy, fun s => by rw [fnd_move l1 l2 x s hk]; exact h.at_ s, fun s => by rw [fnd_move l1 l2 x s hk]; exact h.has s, by rw [h.size]; simp; omega⟩
theorem keys_move {l1 l2 : List En} {x : En} (h : (keysOf (l1 ++ x :: l2)).Nodup) : (keysOf (x :: (l1 ++ l2))).Nodup := ((List.perm_middle (l₁ := l1) (l₂ := l2) (a := x)).map _).nodup_iff.1 h
theorem blks_move {m : Nat} {l1 l2 : List En} {x : En} (h : (m :: blks (l1 ++ x :: l2)).Nodup) : (m :: blks (x :: (l1 ++ l2))).Nodup := (((List.perm_middle (l₁ := l1) (l₂ := l2) (a := x)).map En.blk).cons m).nodup_iff.1 h
theorem blks_mem {m b : Nat} {l1 l2 : List En} {x : En} (h : b ∈ m :: blks (x :: (l1 ++ l2))) : b ∈ m :: blks (l1 ++ x :: l2) := (((List.perm_middle (l₁ := l1) (l₂ := l2) (a := x)).map En.blk).cons m).mem_iff.2 h
theorem Own8.lower {w : World} {base base' : Nat} {v : Value} {l : List Nat} (h : Own8 w base v l) (hb : base' ≤ base) : Own8 w base' v l := by
  obtain ⟨hl, (h1 | ⟨k, cap, cur, rfl, hk, r⟩)⟩ := h
  · exact ⟨hl, .inl h1⟩
  · exact ⟨hl, .inr ⟨k, cap, cur, rfl, by omega, r⟩⟩
/-- The one that was found is the newest now. -/
theorem St.moved {Y : World} {base g mp n ent sz hh m mark : Nat} {D : DataW Unit} {l1 l2 : List En} {x : En} (h : St Y base g mp n (cacheCells ent sz (tot (l1 ++ x :: l2)) mp mark hh m) D (mark :: blks (l1 ++ x :: l2)) (l1 ++ x :: l2) (seqOf mark (x :: (l1 ++ l2))))
    (hM : MapOK D (l1 ++ x :: l2)) (hN : (mark :: blks (l1 ++ x :: l2)).Nodup) (hK : (keysOf (l1 ++ x :: l2)).Nodup) : Lru Y base g ent sz hh m (x :: (l1 ++ l2)) := by
  have ht : tot (x :: (l1 ++ l2)) = tot (l1 ++ x :: l2) := by rw [tot_mid]; unfold tot; simp; omega
  refine ⟨mark, mp, n, D, ⟨by rw [ht]; exact h.cache, h.map, h.ch, fun b hb => h.nds b (blks_mem hb), fun e he => ⟨(h.dat e ?_).1, ?_⟩, h.lo, fun b hb => seq_mem hb⟩, hM.move hK, blks_move hN, keys_move hK⟩
  · exact (List.perm_middle (l₁ := l1) (l₂ := l2) (a := x)).mem_iff.2 he
  · unfold blks
    exact List.mem_cons_of_mem _ (List.mem_map_of_mem he)
def GetNo (w : World) (base g ent sz h m : Nat) (es : List En) (e : Ending) (w' : World) : Prop := e = .returned (.tuple #[.slice none 0 0, .bool false]) ∧ Lru w' base g ent sz h (m + 1) es ∧ Only (LS base w) w w'
def GetYes (w : World) (base g ent sz h m : Nat) (es : List En) (bs : List Nat) (e : Ending) (w' : World) : Prop := ∃ v, e = .returned (.tuple #[v, .bool true]) ∧ Own8 w' w.heap.size v bs ∧ Lru w' base g ent sz (h + 1) m es ∧ Only (LS base w) w w'
theorem get_nil (s : ByteArray) (w : World) : Calls Try.prog 10 #[.pointer none, .string s] w fun e w' => e = .returned (.tuple #[.slice none 0 0, .bool false]) ∧ w = w' := by
  go_enter Try.func10, Try.ntmps10
  go_wp2_with fail
  go_ret2
  exact ⟨rfl, rfl⟩
set_option maxHeartbeats 4000000 in
theorem get_no (g base ent sz h m : Nat) (es : List En) (s : ByteArray) (w : World) (H : Lru w base g ent sz h m es) (hf : fnd es s = none) (hs : s.size ≤ 1000000000) (hm : m ≤ 1000000000) :
    Calls Try.prog 10 #[.pointer (some ⟨g, 0, none⟩), .string s] w (GetNo w base g ent sz h m es) := by
  obtain ⟨mark, mp, n, D, hS, hM, hN, hKy⟩ := H.ex
  obtain ⟨hV, hB⟩ := look_miss hM hf
  have HV := Lib.hid hV
  have HB := Lib.hid hB
  have HO := Lib.hid hS.map
  have HS : Hid (s.size ≤ maxLen) := by unfold Hid maxLen; omega
  have c3 : w.cell? ⟨g, 3, none⟩ = some (.map (some mp)) := by rw [hS.cache.cell]; rfl
  have c6 : w.cell? ⟨g, 6, none⟩ = some (.int .i64 (m : Int)) := by rw [hS.cache.cell]; rfl
  have f6 : w.frozen? ⟨g, 6, none⟩ = false := hS.cache.frozen 6
  have FIN := Lib.hid fun (z : Int) (hz : z = ((m + 1 : Nat) : Int)) => (show Lru (w.setCell ⟨g, 6, none⟩ (.int .i64 z)) base g ent sz h (m + 1) es ∧ Only (LS base w) w (w.setCell ⟨g, 6, none⟩ (.int .i64 z)) from by
    subst hz
    obtain ⟨h1, h2⟩ := hS.setg 6 (.int .i64 ((m + 1 : Nat) : Int))
    exact ⟨⟨mark, mp, n, D, by simpa [cacheCells] using h1, hM, hN, hKy⟩, h2⟩)
  clear hS hM hN hKy H hV hB
  go_enter Try.func10, Try.ntmps10
  go_wp2_with (at_lookup; refine look_own _ rfl (.tmp 14) (.tmp 15) rfl mp n D rfl HO.out s HS.out rfl _ _ HV.out HB.out ?_)
  go_ret2
  exact ⟨rfl, FIN.out _ (by omega)⟩
set_option maxHeartbeats 8000000 in
theorem get_yes (g base ent sz h m : Nat) (l1 l2 : List En) (x : En) (s : ByteArray) (w : World) (H : Lru w base g ent sz h m (l1 ++ x :: l2)) (hf : fnd (l1 ++ x :: l2) s = some x) (hs : s.size ≤ 1000000000) (hm : h ≤ 1000000000) (hl : x.bs.length ≤ 1000000000) :
    Calls Try.prog 10 #[.pointer (some ⟨g, 0, none⟩), .string s] w (GetYes w base g ent sz h m (x :: (l1 ++ l2)) x.bs) := by
  obtain ⟨mark, mp, n, D, hS, hM, hN, hKy⟩ := H.ex
  obtain ⟨hV, hB⟩ := look_hit hM hf
  have HV := Lib.hid hV
  have HB := Lib.hid hB
  have HO := Lib.hid hS.map
  have HS : Hid (s.size ≤ maxLen) := by unfold Hid maxLen; omega
  have c3 : w.cell? ⟨g, 3, none⟩ = some (.map (some mp)) := by rw [hS.cache.cell]; rfl
  have c4 : w.cell? ⟨g, 4, none⟩ = some (.pointer (some ⟨mark, 0, none⟩)) := by rw [hS.cache.cell]; rfl
  have c5 : w.cell? ⟨g, 5, none⟩ = some (.int .i64 (h : Int)) := by rw [hS.cache.cell]; rfl
  have f5 : w.frozen? ⟨g, 5, none⟩ = false := hS.cache.frozen 5
  have HST := Lib.hid hS
  have HM := Lib.hid hM
  have HN := Lib.hid hN
  have HK := Lib.hid hKy
  clear hS hM hN hKy H hV hB
  go_enter Try.func10, Try.ntmps10
  go_wp2_with (at_lookup; refine look_own _ rfl (.tmp 14) (.tmp 15) rfl mp n D rfl HO.out s HS.out rfl _ _ HV.out HB.out ?_)
  obtain ⟨hS1, hO1⟩ := HST.out.setg 5 (.int .i64 ((h : Int) + 1))
  have e1 : (cacheCells ent sz (tot (l1 ++ x :: l2)) mp mark h m).setIfInBounds 5 (.int .i64 ((h : Int) + 1)) = cacheCells ent sz (tot (l1 ++ x :: l2)) mp mark (h + 1) m := by simp [cacheCells]
  rw [e1] at hS1
  obtain ⟨p, q, hrc, hrem⟩ := hS1.removed HN.out
  refine hrc.mono ?_
  rintro e X ⟨rfl, hB⟩
  obtain ⟨hS2, hO2⟩ := hrem X hB
  have hO3 : Only (LS base w) w X := hO1.ls hO2
  clear hrc hrem hB hO1 hO2 hS1 e1
  obtain ⟨q2, hac, hadd⟩ := hS2.added (x := x) (List.mem_cons_of_mem _ (List.mem_map_of_mem (by simp))) (blks_move HN.out)
  have HA := Lib.hid hac
  have HAD := Lib.hid hadd
  have x4 : X.cell? ⟨g, 4, none⟩ = some (.pointer (some ⟨mark, 0, none⟩)) := by rw [hS2.cache.cell]; rfl
  have HO3 := Lib.hid hO3
  clear hac hadd hO3 hS2
  go_wp2_with fail
  refine HA.out.mono ?_
  rintro e Y ⟨rfl, hB⟩
  obtain ⟨hS4, hO4⟩ := HAD.out Y hB
  have hO5 := HO3.out.ls hO4
  have hd := (hS4.dat x (by simp)).1
  obtain ⟨a, c, hv, hlc, hcm, hnil, hnums⟩ := hd.own.nums
  have y1 : Y.cell? ⟨x.blk, 1, none⟩ = some (.slice a x.bs.length c) := by rw [← hv]; exact hd.val
  have HC := Lib.hid (clone_own a c x.bs Y hnums (by omega) hnil)
  have FIN := Lib.hid fun (Z : World) (hZ : Below Y.heap.size Y Z) => (show Lru Z base g ent sz (h + 1) m (x :: (l1 ++ l2)) ∧ Only (LS base w) w Z from
    ⟨(hS4.below hZ).moved HM.out HN.out HK.out, hO5.ls (Only.of_below hZ _)⟩)
  have hsz : w.heap.size ≤ Y.heap.size := hO5.size
  clear hS4 hO4 hO5 hd hnums hB x4 hv hnil hcm hlc
  go_wp2_with fail
  refine HC.out.mono ?_
  rintro e Z ⟨v, rfl, hown, hBZ⟩
  obtain ⟨hL, hOn⟩ := FIN.out Z hBZ
  have hown2 := hown.lower hsz
  go_wp2_with fail
  go_ret2
  exact ⟨_, rfl, hown2, hL, hOn⟩
end Go.Proofs.Ythbgijpakjfjkaa
