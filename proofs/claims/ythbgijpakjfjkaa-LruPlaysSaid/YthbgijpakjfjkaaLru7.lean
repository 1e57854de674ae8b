/- Layer 34: Put where there is room. -/
import Derived.Test.YthbgijpakjfjkaaLru6
import Derived.BigQuiet
namespace Go.Proofs.Ythbgijpakjfjkaa
open Go.RowKit
set_option linter.unusedVariables false
set_option maxRecDepth 100000

theorem Lru.drewN {W : World} {base g ent sz h m : Nat} {es : List En} (H : Lru W base g ent sz h m es) (k : Nat) : Lru (W.drewN k) base g ent sz h m es := by
  obtain ⟨mark, mp, n, D, hS, r⟩ := H.ex
  exact ⟨mark, mp, n, D, hS.drewN k, r⟩
theorem put_own (w : World) {ops : Array Oper} {rest : List Oper} {o : Oper} {a : Act} {Q : Exit → Act → World → Prop} (hg : o.guard = none) (m x v : Operand) (hop : o.op = Op.mapUpdate 52 m x v) (b n : Nat) (D : DataW Unit)
    (hm : a.eval m = .map (some b)) (hown : w.ownsMap Try.prog 9 RP b n D) (hn : n < maxLen) (s : ByteArray) (hs : s.size ≤ maxLen) (hx : a.eval x = .string s) (p : Nat) (hv : a.eval v = .pointer (some ⟨p, 0, none⟩))
    (hK : ∀ w', w'.ownsMap Try.prog 9 RP b (n + 1) (D.put (kl s) (.lit (.int .i64 (p : Int)))) → w.mapTurned w' b → wpList Try.prog ops Q rest (a.put o.dst undef) w') : wpList Try.prog ops Q (o :: rest) a w :=
  wpList_mapUpdate_in w hg m x v 52 hop 9 53 K9 Try.underlying52 RP b n D hm hown hn (.string s) _ (kl s) hx hv (keyOf_str s hs) _ [] (RP_ptr p) hK
theorem quiet_len {P : Program} {o : Oper} {a : Act} {C : World → Prop} {W : World} {v u : Value} (x : Operand) (t : TypeId) (ho : o.op = .call { callee := .builtin .len, args := #[x], argTypes := #[t] }) (hx : a.eval x = v) (hrun : (Builtin.len_ #[t] o.type #[v]).run P W = .ok u W) : o.quietAt P a C W u := by
  unfold Oper.quietAt execOp
  simp only [ho, resolve, invoke, builtin, Sem.run_bind, Sem.run_pure, Result.andThen_ok, List.map_toArray, List.map_cons, List.map_nil, hx, hrun]
  exact ⟨rfl, rfl⟩
def PutYes (w : World) (base g ent sz h m : Nat) (es : List En) (s : ByteArray) (bs : List Nat) (e : Ending) (w' : World) : Prop := e = .returned (.bool true) ∧ ∃ x : En, x.key = s ∧ x.bs = bs ∧ Lru w' base g ent sz h m (evict ent sz ((wo es s).length + 1) (x :: wo es s)) ∧ Only (LS base w) w w'
theorem wo_keys (es : List En) (s : ByteArray) : fnd (wo es s) s = none := by
  unfold fnd wo
  rw [List.find?_eq_none]
  intro e he
  simp at he ⊢
  exact he.2
theorem wo_le (es : List En) (s : ByteArray) : tot (wo es s) ≤ tot es := by
  induction es with
  | nil => simp [wo, tot]
  | cons e es ih =>
    unfold wo at ih ⊢
    rw [List.filter_cons]
    unfold tot at ih ⊢
    split
    · simp at ih ⊢; omega
    · simp at ih ⊢; omega
set_option maxHeartbeats 40000000 in
theorem put_yes (g base ent sz h m c : Nat) (a : Option Addr) (bs : List Nat) (es : List En) (s : ByteArray) (w : World) (H : Lru w base g ent sz h m es) (hs : s.size ≤ 1000000000) (hs2 : s.size + bs.length ≤ 100000000) (hn : bs.length ≤ 1000000000) (h0 : 0 < ent) (h1 : s.size + bs.length ≤ sz)
    (hb : Nums .u8 w base a bs) (hnil : a = none → c = 0 ∧ bs = []) (hlt : ∀ x ∈ bs, x < 256) (ht : tot es ≤ 100000000) (hle : es.length ≤ 100000000) :
    Calls Try.prog 13 #[.pointer (some ⟨g, 0, none⟩), .string s, .slice a bs.length c] w (PutYes w base g ent sz h m es s bs) := by
  obtain ⟨mark, mp, n', D, hS, hM, hN, hKy⟩ := H.ex
  have c0 : w.cell? ⟨g, 0, none⟩ = some (.int .i64 (ent : Int)) := by rw [hS.cache.cell]; rfl
  have c1 : w.cell? ⟨g, 1, none⟩ = some (.int .i64 (sz : Int)) := by rw [hS.cache.cell]; rfl
  have c3 : w.cell? ⟨g, 3, none⟩ = some (.map (some mp)) := by rw [hS.cache.cell]; rfl
  have hbw : base ≤ w.heap.size := Nat.le_trans hS.lo.1 (Nat.le_of_lt hS.cache.lt)
  have d0 : decide ((ent : Int) = 0) = false := decide_eq_false (by omega)
  have d1 : decide ((sz : Int) < ((s.size : Int) + (bs.length : Int))) = false := decide_eq_false (by omega)
  have HNums := Lib.hid hb
  have Hnil := Lib.hid hnil
  have Hlt := Lib.hid hlt
  have HS : Hid (s.size ≤ maxLen) := by unfold Hid maxLen; omega
  have HO := Lib.hid hS.map
  obtain ⟨es0, hes0⟩ : ∃ es0, es0 = wo es s := ⟨_, rfl⟩
  have hf0 : fnd es0 s = none := by rw [hes0]; exact wo_keys es s
  have ht0 : tot es0 ≤ tot es ∧ es0.length ≤ es.length := by
    rw [hes0]
    exact ⟨wo_le es s, List.length_filter_le _ _⟩
  have hte : tot es0 ≤ 100000000 := by omega
  have Hlen : Hid (es0.length ≤ 100000000) := by unfold Hid; omega
  have Hes0 := Lib.hid hes0
  unfold PutYes
  rw [← hes0]
  clear hb hnil hlt ht0 hle
  cases hf : fnd es s with
  | none =>
    obtain ⟨hV, hB⟩ := look_miss hM hf
    have HV := Lib.hid hV
    have HB := Lib.hid hB
    obtain ⟨X, hX⟩ : ∃ X, X = w := ⟨_, rfl⟩
    have hL : Lru X base g ent sz h m es0 := by rw [hes0, hX, wo_none hf]; exact H
    have hO : Only (LS base w) w X := by rw [hX]; exact Only.refl _ _
    clear hS hM hN hKy H hV hB hf ht hes0
    go_enter Try.func13, Try.ntmps13
    go_wp2_with (at_lookup; refine look_own _ rfl (.tmp 35) (.tmp 36) rfl mp n' D rfl HO.out s HS.out rfl _ _ HV.out HB.out ?_)
    rw [← hX]
    clear HV HB HO c0 c1 c3 d0 d1
    obtain ⟨mark, mp, n, D, hS, hM, hN, hKy⟩ := hL.ex
    have hXs : base ≤ X.heap.size := Nat.le_trans hS.lo.1 (Nat.le_of_lt hS.cache.lt)
    have HC := Lib.hid (clone_own a c bs X ((HNums.out.below (hO.low hbw)).more hXs) (by omega) Hnil.out)
    have HST := Lib.hid hS
    have HM := Lib.hid hM
    have HN := Lib.hid hN
    have HK := Lib.hid hKy
    have HOX := Lib.hid hO
    clear hL hS hM hN hKy hO
    go_wp2_with fail
    refine HC.out.mono ?_
    rintro e Y ⟨v, rfl, hown, hBY⟩
    obtain ⟨a2, c2, rfl, _, _, _, _⟩ := hown.nums
    have hSY := HST.out.below hBY
    have hSZ := hSY.born s _ bs X.heap.size hXs hown Hlt.out
    have hOZ : Only (LS base w) w (Y.alloc (.cells #[.string s, .slice a2 bs.length c2, .pointer none, .pointer none] 63)) := (HOX.out.ls (Only.of_below hBY _)).ls (Only.of_below ((Below.refl _ _).alloc (Nat.le_refl _) _) _)
    have hNN : (mark :: blks ((⟨Y.heap.size, s, .slice a2 bs.length c2, bs⟩ : En) :: es0)).Nodup := blks_new hSY HN.out rfl
    obtain ⟨bX, hbX⟩ : ∃ b, b = Y.heap.size := ⟨_, rfl⟩
    have hgX : g ≠ bX := fun e => by have := hSY.cache.lt; omega
    have y3 : Y.cell? ⟨g, 3, none⟩ = some (.map (some mp)) := by rw [hSY.cache.cell]; rfl
    rw [← hbX] at hSZ hNN
    obtain ⟨Z, hZ⟩ : ∃ Z, Z = Y.alloc (.cells #[.string s, .slice a2 bs.length c2, .pointer none, .pointer none] 63) := ⟨_, rfl⟩
    rw [← hZ] at hSZ hOZ
    have z3 : Z.cell? ⟨g, 3, none⟩ = some (.map (some mp)) := by rw [hSZ.cache.cell]; rfl
    have HMP := Lib.hid (ownsMap_tight hSZ.map)
    have Hmn : Hid (Maps.size D < maxLen) := by have := HM.out.size; have h9 := Hlen.out; unfold Hid maxLen; rw [this]; omega
    have HSZ := Lib.hid hSZ
    have HOZ := Lib.hid hOZ
    have HNN := Lib.hid hNN
    clear hSY hSZ hOZ hNN hown hBY y3 HC HST HN hXs
    go_upto_region 7 with (fail)
    rw [← hZ, ← hbX]
    clear hZ hbX
    go_wp2_with (at_mapUpdate; refine put_own _ rfl (.tmp 52) (.tmp 53) (.tmp 54) rfl mp _ D rfl HMP.out Hmn.out s HS.out rfl bX rfl ?_)
    intro Z2 hown2 hturn
    have hgZ : Only (fun b => b = mp) Z Z2 := Only.of_grown (S := fun b => b = mp) hturn.grown (fun b hb => by injection hb with hb; exact hb.symm)
    have hS2 := HSZ.out.other (w' := Z2) (D' := D.put (kl s) (.lit (.int .i64 (bX : Int)))) hgZ (.inr rfl) (HSZ.out.cache.only hgZ (fun e => HSZ.out.mp_g e.symm)) hown2
    have HO2 := Lib.hid (HOZ.out.ls (hgZ.mono fun b _ e => by rw [e]; exact HSZ.out.ls_mp))
    obtain ⟨q, hac, hadd⟩ := hS2.added (x := (⟨bX, s, .slice a2 bs.length c2, bs⟩ : En)) (List.mem_cons_self ..) HNN.out
    have x4 : Z2.cell? ⟨g, 4, none⟩ = some (.pointer (some ⟨mark, 0, none⟩)) := by rw [hS2.cache.cell]; rfl
    have HA := Lib.hid hac
    have HAD := Lib.hid hadd
    clear hac hadd hS2 hgZ hturn hown2 z3 HSZ HOZ HMP Hmn
    go_wp2_with fail
    refine HA.out.mono ?_
    rintro e W1 ⟨rfl, hB⟩
    obtain ⟨hS3, hO3⟩ := HAD.out W1 hB
    have hO4 := HO2.out.ls hO3
    have hd := (hS3.dat (⟨bX, s, .slice a2 bs.length c2, bs⟩ : En) (List.mem_cons_self ..)).1
    have y2 : W1.cell? ⟨g, 2, none⟩ = some (.int .i64 ((tot es0 : Nat) : Int)) := by rw [hS3.cache.cell]; rfl
    have y2f : W1.frozen? ⟨g, 2, none⟩ = false := hS3.cache.frozen 2
    have hk0 : W1.cell? ⟨bX, 0, none⟩ = some (.string s) := hd.key
    have hk1 : W1.cell? ⟨bX, 1, none⟩ = some (.slice a2 bs.length c2) := hd.val
    have Hby := Lib.hid fun (W : World) (h0 : W.cell? ⟨bX, 0, none⟩ = some (.string s)) (h1 : W.cell? ⟨bX, 1, none⟩ = some (.slice a2 bs.length c2)) => bytes_any bX s a2 bs.length c2 W h0 h1 hs hn
    have htt : tot ((⟨bX, s, .slice a2 bs.length c2, bs⟩ : En) :: es0) = tot es0 + (s.size + bs.length) := by unfold tot En.size; simp; omega
    have FIN := Lib.hid fun (W : World) (hW : Below W1.heap.size W1 W) (z : Int) (hz : z = ((tot ((⟨bX, s, .slice a2 bs.length c2, bs⟩ : En) :: es0) : Nat) : Int)) => (show Lru (W.setCell ⟨g, 2, none⟩ (.int .i64 z)) base g ent sz h m ((⟨bX, s, .slice a2 bs.length c2, bs⟩ : En) :: es0) ∧ Only (LS base w) w (W.setCell ⟨g, 2, none⟩ (.int .i64 z)) from by
      obtain ⟨h5, h6⟩ := hS3.stored hW z _ hz
      exact ⟨h5.done HM.out hf0 HNN.out HK.out, hO4.ls h6⟩)
    have WR : Hid (IntKind.i64.wrap (((tot es0 : Nat) : Int) + ((s.size : Int) + (bs.length : Int))) = ((tot ((⟨bX, s, .slice a2 bs.length c2, bs⟩ : En) :: es0) : Nat) : Int)) := by rw [htt]; show _ = _; rw [IntWalk.i64_in _ ⟨by omega, by omega⟩]; omega
    have Htot : Hid (tot ((⟨bX, s, .slice a2 bs.length c2, bs⟩ : En) :: es0) ≤ 1000000000) := by rw [htt]; show _ ≤ _; omega
    obtain ⟨R, HR0⟩ : ∃ R, Hid (evict ent sz (es0.length + 1) ((⟨bX, s, .slice a2 bs.length c2, bs⟩ : En) :: es0) = R) := ⟨_, Lib.hid rfl⟩
    clear hS3 hO3 hO4 hd htt hB x4 HAD HA HO2 HM HK HNN
    go_wp2_with fail
    refine wp_region_held (S := fun _ => True) (by kernel_rfl) ?_
    refine wpAnyH_take (i := 0) (oi := { dst := some 61, op := Go.Op.move (Go.Operand.tmp 0), type := 25, pos := "lru.go:84", after := #[], guard := none }) (v := ?_) rfl (by kernel_rfl) (by kernel_rfl) (by kernel_rfl) (fun _ _ _ h => h) (Or.inl ⟨by rfl, ?_⟩) (trivial) ?_
    rotate_left 1
    · intro w5 hSw
      go_simp; all_goals (with_reducible rfl)
    try simp only [Act.put, List.setIfInBounds_toArray, List.set_cons_zero, List.set_cons_succ]
    refine wpAnyH_take (i := 1) (oi := { dst := some 62, op := Go.Op.nilCheck (Go.Operand.tmp 61), type := 0, pos := "lru.go:84", after := #[{ on := 0, ground := Go.Ground.data }], guard := none }) (v := ?_) rfl (by kernel_rfl) (by kernel_rfl) (by kernel_rfl) (fun _ _ _ h => h) (Or.inl ⟨by rfl, ?_⟩) (trivial) ?_
    rotate_left 1
    · intro w5 hSw
      go_simp; all_goals (with_reducible rfl)
    try simp only [Act.put, List.setIfInBounds_toArray, List.set_cons_zero, List.set_cons_succ]
    refine wpAnyH_take (i := 2) (oi := { dst := some 63, op := Go.Op.fieldAddr 58 (Go.Operand.tmp 62) 2, type := 0, pos := "lru.go:84", after := #[{ on := 1, ground := Go.Ground.data }], guard := none }) (v := ?_) rfl (by kernel_rfl) (by kernel_rfl) (by kernel_rfl) (fun _ _ _ h => h) (Or.inl ⟨by rfl, ?_⟩) (trivial) ?_
    rotate_left 1
    · intro w5 hSw
      go_simp; all_goals (with_reducible rfl)
    try simp only [Act.put, List.setIfInBounds_toArray, List.set_cons_zero, List.set_cons_succ]
    refine wpAnyH_take (i := 4) (oi := { dst := some 65, op := Go.Op.move (Go.Operand.tmp 9), type := 53, pos := "lru.go:84", after := #[], guard := none }) (v := ?_) rfl (by kernel_rfl) (by kernel_rfl) (by kernel_rfl) (fun _ _ _ h => h) (Or.inl ⟨by rfl, ?_⟩) (trivial) ?_
    rotate_left 1
    · intro w5 hSw
      go_simp; all_goals (with_reducible rfl)
    try simp only [Act.put, List.setIfInBounds_toArray, List.set_cons_zero, List.set_cons_succ]
    refine wpAnyH_ready (rs := [3, 5]) (by kernel_rfl) (by simp) ?_
    refine (AllReadyH.cons (o := { dst := some 64, op := Go.Op.load 3 (Go.Operand.tmp 63), type := 3, pos := "lru.go:84", after := #[{ on := 2, ground := Go.Ground.data }], guard := none }) rfl (fun K hK => ?_) (AllReadyH.cons (o := { dst := some 66, op := Go.Op.call { callee := Go.Callee.value (Go.Operand.func 27), args := #[Go.Operand.tmp 65], argTypes := #[53] }, type := 3, pos := "lru.go:84", after := #[{ on := 4, ground := Go.Ground.data }], guard := none }) rfl (fun K hK => ?_) AllReadyH.nil))
    · go_simp
      refine hK.out _ _ (trivial) (fun _ => ?_)
      clear hK K
      try simp only [Act.put, List.setIfInBounds_toArray, List.set_cons_zero, List.set_cons_succ]
      refine wpAnyH_ready (rs := [5]) (by kernel_rfl) (by simp) ?_
      refine (AllReadyH.cons (o := { dst := some 66, op := Go.Op.call { callee := Go.Callee.value (Go.Operand.func 27), args := #[Go.Operand.tmp 65], argTypes := #[53] }, type := 3, pos := "lru.go:84", after := #[{ on := 4, ground := Go.Ground.data }], guard := none }) rfl (fun K hK => ?_) AllReadyH.nil)
      go_simp
      refine (Hby.out _ (by first | exact hk0 | simpa using hk0) (by first | exact hk1 | simpa using hk1)).mono ?_; rintro e Y2 ⟨rfl, kk, rfl⟩
      go_wp2_with fail
      refine hK.out _ _ (trivial) (fun _ => ?_)
      clear hK K
      try simp only [Act.put, List.setIfInBounds_toArray, List.set_cons_zero, List.set_cons_succ]
      refine wpAnyH_take (i := 6) (oi := { dst := some 67, op := Go.Op.binOp Go.BinOp.add 3 (Go.Operand.tmp 64) (Go.Operand.tmp 66) 3, type := 3, pos := "lru.go:84", after := #[{ on := 3, ground := Go.Ground.data }, { on := 5, ground := Go.Ground.data }], guard := none }) (v := ?_) rfl (by kernel_rfl) (by kernel_rfl) (by kernel_rfl) (fun _ _ _ h => h) (Or.inl ⟨by rfl, ?_⟩) (trivial) ?_
      rotate_left 1
      · intro w5 hSw
        go_simp; all_goals (with_reducible rfl)
      try simp only [Act.put, List.setIfInBounds_toArray, List.set_cons_zero, List.set_cons_succ]
      refine wpAnyH_take (i := 7) (oi := { dst := some 68, op := Go.Op.nilCheck (Go.Operand.tmp 61), type := 0, pos := "lru.go:84", after := #[{ on := 0, ground := Go.Ground.data }, { on := 0, ground := Go.Ground.phase }, { on := 1, ground := Go.Ground.phase }, { on := 2, ground := Go.Ground.phase }, { on := 3, ground := Go.Ground.phase }, { on := 4, ground := Go.Ground.phase }, { on := 5, ground := Go.Ground.phase }, { on := 6, ground := Go.Ground.phase }], guard := none }) (v := ?_) rfl (by kernel_rfl) (by kernel_rfl) (by kernel_rfl) (fun _ _ _ h => h) (Or.inl ⟨by rfl, ?_⟩) (trivial) ?_
      rotate_left 1
      · intro w5 hSw
        go_simp; all_goals (with_reducible rfl)
      try simp only [Act.put, List.setIfInBounds_toArray, List.set_cons_zero, List.set_cons_succ]
      refine wpAnyH_take (i := 8) (oi := { dst := some 69, op := Go.Op.fieldAddr 58 (Go.Operand.tmp 68) 2, type := 0, pos := "lru.go:84", after := #[{ on := 7, ground := Go.Ground.data }, { on := 0, ground := Go.Ground.phase }, { on := 1, ground := Go.Ground.phase }, { on := 2, ground := Go.Ground.phase }, { on := 3, ground := Go.Ground.phase }, { on := 4, ground := Go.Ground.phase }, { on := 5, ground := Go.Ground.phase }, { on := 6, ground := Go.Ground.phase }], guard := none }) (v := ?_) rfl (by kernel_rfl) (by kernel_rfl) (by kernel_rfl) (fun _ _ _ h => h) (Or.inl ⟨by rfl, ?_⟩) (trivial) ?_
      rotate_left 1
      · intro w5 hSw
        go_simp; all_goals (with_reducible rfl)
      try simp only [Act.put, List.setIfInBounds_toArray, List.set_cons_zero, List.set_cons_succ]
      refine wpAnyH_ready (rs := [9]) (by kernel_rfl) (by simp) ?_
      refine (AllReadyH.cons (o := { dst := none, op := Go.Op.store 3 (Go.Operand.tmp 69) (Go.Operand.tmp 67), type := 0, pos := "lru.go:84", after := #[{ on := 8, ground := Go.Ground.data }, { on := 6, ground := Go.Ground.data }, { on := 5, ground := Go.Ground.chain }, { on := 0, ground := Go.Ground.phase }, { on := 1, ground := Go.Ground.phase }, { on := 2, ground := Go.Ground.phase }, { on := 3, ground := Go.Ground.phase }, { on := 4, ground := Go.Ground.phase }, { on := 5, ground := Go.Ground.phase }, { on := 6, ground := Go.Ground.phase }], guard := none }) rfl (fun K hK => ?_) AllReadyH.nil)
      go_simp
      refine hK.out _ _ (trivial) (fun _ => ?_)
      clear hK K
      try simp only [Act.put, List.setIfInBounds_toArray, List.set_cons_zero, List.set_cons_succ]
      refine wpAnyH_done (by kernel_rfl) ?_ _
      go_wp2_with fail
      obtain ⟨W2, hW2⟩ : ∃ W2, W2 = (W1.drewN (1 + kk)).setCell ⟨g, 2, none⟩ (.int .i64 (IntKind.i64.wrap (((tot es0 : Nat) : Int) + ((s.size : Int) + (bs.length : Int))))) := ⟨_, rfl⟩
      obtain ⟨hL2, hO2⟩ := FIN.out (W1.drewN (1 + kk)) ⟨rfl, rfl, rfl, Nat.le_refl _, fun _ _ => rfl⟩ _ (WR.out)
      rw [← hW2] at hL2 hO2
      rw [← hW2]
      clear hW2 FIN WR Hby hk0 hk1 y2 y2f
      have HL2 := Lib.hid hL2
      have HO2 := Lib.hid hO2
      clear hL2 hO2
      go_wp2_with fail
      go_loopw [] (fun W => ∃ (f : Nat) (L : List En), Hid (Lru W base g ent sz h m L) ∧ Hid (Only (LS base w) w W) ∧ Hid (evict ent sz f L = R) ∧ L.length ≤ f ∧ tot L ≤ 1000000000 ∧ L.length ≤ 200000000) (fun W => mu g W)
      case atStart => exact ⟨_, _, HL2, HO2, HR0, by simp [Hes0.out], Htot.out, by have := Hlen.out; simp; omega⟩
      case round =>
        obtain ⟨f, L, HL, HO, HR, hf, hT, hLn⟩ := hrel
        clear HL2 HO2
        obtain ⟨mark, mp, n, D, hS, hM, hN, hKy⟩ := HL.out.ex
        have Hmu := Lib.hid HL.out.mu
        have c0 : wr.cell? ⟨g, 0, none⟩ = some (.int .i64 (ent : Int)) := by rw [hS.cache.cell]; rfl
        have c1 : wr.cell? ⟨g, 1, none⟩ = some (.int .i64 (sz : Int)) := by rw [hS.cache.cell]; rfl
        have q2 : wr.cell? ⟨g, 2, none⟩ = some (.int .i64 (tot L : Int)) := by rw [hS.cache.cell]; rfl
        have c3 : wr.cell? ⟨g, 3, none⟩ = some (.map (some mp)) := by rw [hS.cache.cell]; rfl
        have c4 : wr.cell? ⟨g, 4, none⟩ = some (.pointer (some ⟨mark, 0, none⟩)) := by rw [hS.cache.cell]; rfl
        have hlen : ∀ k ty, (Builtin.len_ #[52] ty #[.map (some mp)]).run Try.prog (wr.drewN k) = .ok (.int .i64 (L.length : Int)) (wr.drewN k) := fun k ty => by
          have h5 : (wr.drewN k).ownsMap Try.prog 9 RP mp n D := (hS.drewN k).map
          have := h5.len Try.underlying52 ty
          rw [hM.size] at this
          exact this
        clear hM hN hKy
        obtain ⟨nL, hnL⟩ : ∃ nL, nL = L.length := ⟨_, rfl⟩
        obtain ⟨tL, htL⟩ : ∃ tL, tL = tot L := ⟨_, rfl⟩
        rw [← htL] at q2
        simp only [← hnL] at hlen
        by_cases hl : ent < L.length
        · have d1 : decide ((ent : Int) < (nL : Int)) = true := decide_eq_true (by omega)
          have d3 : decide (ent < nL) = true := decide_eq_true (by omega)
          have hcase : ent < L.length ∨ sz < tot L := .inl hl
          clear hl
          have hne : L ≠ [] := fun e => by
            subst e
            rcases hcase with h9 | h9
            · simp at h9
            · simp [tot] at h9
          obtain ⟨l1, y, rfl⟩ : ∃ l1 y, L = l1 ++ [y] := ⟨L.dropLast, L.getLast hne, (List.dropLast_concat_getLast hne).symm⟩
          obtain ⟨f, rfl⟩ : ∃ k, f = k + 1 := ⟨f - 1, by rw [List.length_append] at hf; simp at hf; omega⟩
          have HR2 : Hid (evict ent sz f l1 = R) := by
            have := HR.out
            rw [evict_go hcase, List.dropLast_concat] at this
            exact this
          have htm : tot l1 ≤ tot (l1 ++ [y]) := by have := tot_mid l1 [] y; rw [List.append_nil] at this; omega
          have m2 : wr.cell? ⟨mark, 2, none⟩ = some (.pointer (some ⟨y.blk, 0, none⟩)) := hS.oldest
          have HD := Lib.hid fun (k : Nat) => drop_any g base ent sz h m l1 [] y (wr.drewN k) (HL.out.drewN k) (by omega)
          have HOk := Lib.hid fun (k : Nat) => HO.out.drewN k
          have hf2 : l1.length ≤ f := by rw [List.length_append] at hf; simp at hf; omega
          have hln2 : l1.length ≤ 200000000 := by rw [List.length_append] at hLn; simp at hLn; omega
          have Hmu2 : Hid (mu g wr = l1.length + 1) := by have := Hmu.out; rw [List.length_append] at this; simpa [Hid] using this
          have Htm := Lib.hid (Nat.le_trans htm hT)
          clear hcase hne htm hS hf hLn hT Hmu HR hnL htL
          go_wp2_with fail
          refine wp_region_quiet_lit (by kernel_rfl) (by kernel_rfl) ?_
          go_big_quiet_step (fail)
          go_big_quiet_step (fail)
          go_big_quiet_step (fail)
          go_big_quiet_step (fail)
          go_big_quiet_want
          refine ⟨.int .i64 (nL : Int), fun W hW => ?_, ?_⟩
          · obtain ⟨nq, hq⟩ := hW
            subst hq
            exact quiet_len (.tmp 73) _ rfl rfl (hlen _ _)
          try simp only [Act.put, List.setIfInBounds_toArray, List.set_cons_zero, List.set_cons_succ]
          go_big_quiet_on
          repeat (go_big_quiet_step (fail))
          refine wpQuiet_nil ?_
          intro _ hw'
          obtain ⟨nq, hw''⟩ := hw'
          subst hw''
          go_wp2_with fail
          refine (HD.out _).mono ?_
          rintro e W3 ⟨rfl, hL3, hO3⟩
          rw [List.append_nil] at hL3
          have HL3 := Lib.hid hL3
          have HO4 := Lib.hid ((HOk.out _).ls hO3)
          have Hmu3 := Lib.hid hL3.mu
          clear hL3 hO3
          go_wp2_with fail
          go_roundw
          case rel => exact ⟨f, l1, HL3, HO4, HR2, hf2, Htm.out, hln2⟩
          case measure => rw [Hmu2.out, Hmu3.out]; omega
        · have d1 : decide ((ent : Int) < (nL : Int)) = false := decide_eq_false (by omega)
          have d3 : decide (ent < nL) = false := decide_eq_false (by omega)
          by_cases ht : sz < tot L
          · have d2 : decide ((sz : Int) < (tL : Int)) = true := decide_eq_true (by omega)
            have d4 : decide (sz < tL) = true := decide_eq_true (by omega)
            have hcase : ent < L.length ∨ sz < tot L := .inr ht
            clear hl ht
            have hne : L ≠ [] := fun e => by
              subst e
              rcases hcase with h9 | h9
              · simp at h9
              · simp [tot] at h9
            obtain ⟨l1, y, rfl⟩ : ∃ l1 y, L = l1 ++ [y] := ⟨L.dropLast, L.getLast hne, (List.dropLast_concat_getLast hne).symm⟩
            obtain ⟨f, rfl⟩ : ∃ k, f = k + 1 := ⟨f - 1, by rw [List.length_append] at hf; simp at hf; omega⟩
            have HR2 : Hid (evict ent sz f l1 = R) := by
              have := HR.out
              rw [evict_go hcase, List.dropLast_concat] at this
              exact this
            have htm : tot l1 ≤ tot (l1 ++ [y]) := by have := tot_mid l1 [] y; rw [List.append_nil] at this; omega
            have m2 : wr.cell? ⟨mark, 2, none⟩ = some (.pointer (some ⟨y.blk, 0, none⟩)) := hS.oldest
            have HD := Lib.hid fun (k : Nat) => drop_any g base ent sz h m l1 [] y (wr.drewN k) (HL.out.drewN k) (by omega)
            have HOk := Lib.hid fun (k : Nat) => HO.out.drewN k
            have hf2 : l1.length ≤ f := by rw [List.length_append] at hf; simp at hf; omega
            have hln2 : l1.length ≤ 200000000 := by rw [List.length_append] at hLn; simp at hLn; omega
            have Hmu2 : Hid (mu g wr = l1.length + 1) := by have := Hmu.out; rw [List.length_append] at this; simpa [Hid] using this
            have Htm := Lib.hid (Nat.le_trans htm hT)
            clear hcase hne htm hS hf hLn hT Hmu HR hnL htL
            go_wp2_with fail
            refine wp_region_quiet_lit (by kernel_rfl) (by kernel_rfl) ?_
            go_big_quiet_step (fail)
            go_big_quiet_step (fail)
            go_big_quiet_step (fail)
            go_big_quiet_step (fail)
            go_big_quiet_want
            refine ⟨.int .i64 (nL : Int), fun W hW => ?_, ?_⟩
            · obtain ⟨nq, hq⟩ := hW
              subst hq
              exact quiet_len (.tmp 73) _ rfl rfl (hlen _ _)
            try simp only [Act.put, List.setIfInBounds_toArray, List.set_cons_zero, List.set_cons_succ]
            go_big_quiet_on
            repeat (go_big_quiet_step (fail))
            refine wpQuiet_nil ?_
            intro _ hw'
            obtain ⟨nq, hw''⟩ := hw'
            subst hw''
            go_wp2_with fail
            refine (HD.out _).mono ?_
            rintro e W3 ⟨rfl, hL3, hO3⟩
            rw [List.append_nil] at hL3
            have HL3 := Lib.hid hL3
            have HO4 := Lib.hid ((HOk.out _).ls hO3)
            have Hmu3 := Lib.hid hL3.mu
            clear hL3 hO3
            go_wp2_with fail
            go_roundw
            case rel => exact ⟨f, l1, HL3, HO4, HR2, hf2, Htm.out, hln2⟩
            case measure => rw [Hmu2.out, Hmu3.out]; omega
          · have d2 : decide ((sz : Int) < (tL : Int)) = false := decide_eq_false (by omega)
            have d4 : decide (sz < tL) = false := decide_eq_false (by omega)
            have hend : L = R := by rw [← HR.out, evict_stop hl ht]
            subst hend
            have HLk := Lib.hid fun (k : Nat) => HL.out.drewN k
            have HOk := Lib.hid fun (k : Nat) => HO.out.drewN k
            clear hl ht hS hnL htL
            go_wp2_with fail
            refine wp_region_quiet_lit (by kernel_rfl) (by kernel_rfl) ?_
            go_big_quiet_step (fail)
            go_big_quiet_step (fail)
            go_big_quiet_step (fail)
            go_big_quiet_step (fail)
            go_big_quiet_want
            refine ⟨.int .i64 (nL : Int), fun W hW => ?_, ?_⟩
            · obtain ⟨nq, hq⟩ := hW
              subst hq
              exact quiet_len (.tmp 73) _ rfl rfl (hlen _ _)
            try simp only [Act.put, List.setIfInBounds_toArray, List.set_cons_zero, List.set_cons_succ]
            go_big_quiet_on
            repeat (go_big_quiet_step (fail))
            refine wpQuiet_nil ?_
            intro _ hw'
            obtain ⟨nq, hw''⟩ := hw'
            subst hw''
            go_wp2_with fail
            go_ret
            refine ⟨rfl, (⟨bX, s, .slice a2 bs.length c2, bs⟩ : En), rfl, rfl, ?_, HOk.out _⟩
            rw [HR0.out]
            exact HLk.out _
    · go_simp
      refine (Hby.out _ (by first | exact hk0 | simpa using hk0) (by first | exact hk1 | simpa using hk1)).mono ?_; rintro e Y2 ⟨rfl, kk, rfl⟩
      go_wp2_with fail
      refine hK.out _ _ (trivial) (fun _ => ?_)
      clear hK K
      try simp only [Act.put, List.setIfInBounds_toArray, List.set_cons_zero, List.set_cons_succ]
      refine wpAnyH_ready (rs := [3]) (by kernel_rfl) (by simp) ?_
      refine (AllReadyH.cons (o := { dst := some 64, op := Go.Op.load 3 (Go.Operand.tmp 63), type := 3, pos := "lru.go:84", after := #[{ on := 2, ground := Go.Ground.data }], guard := none }) rfl (fun K hK => ?_) AllReadyH.nil)
      go_simp
      refine hK.out _ _ (trivial) (fun _ => ?_)
      clear hK K
      try simp only [Act.put, List.setIfInBounds_toArray, List.set_cons_zero, List.set_cons_succ]
      refine wpAnyH_take (i := 6) (oi := { dst := some 67, op := Go.Op.binOp Go.BinOp.add 3 (Go.Operand.tmp 64) (Go.Operand.tmp 66) 3, type := 3, pos := "lru.go:84", after := #[{ on := 3, ground := Go.Ground.data }, { on := 5, ground := Go.Ground.data }], guard := none }) (v := ?_) rfl (by kernel_rfl) (by kernel_rfl) (by kernel_rfl) (fun _ _ _ h => h) (Or.inl ⟨by rfl, ?_⟩) (trivial) ?_
      rotate_left 1
      · intro w5 hSw
        go_simp; all_goals (with_reducible rfl)
      try simp only [Act.put, List.setIfInBounds_toArray, List.set_cons_zero, List.set_cons_succ]
      refine wpAnyH_take (i := 7) (oi := { dst := some 68, op := Go.Op.nilCheck (Go.Operand.tmp 61), type := 0, pos := "lru.go:84", after := #[{ on := 0, ground := Go.Ground.data }, { on := 0, ground := Go.Ground.phase }, { on := 1, ground := Go.Ground.phase }, { on := 2, ground := Go.Ground.phase }, { on := 3, ground := Go.Ground.phase }, { on := 4, ground := Go.Ground.phase }, { on := 5, ground := Go.Ground.phase }, { on := 6, ground := Go.Ground.phase }], guard := none }) (v := ?_) rfl (by kernel_rfl) (by kernel_rfl) (by kernel_rfl) (fun _ _ _ h => h) (Or.inl ⟨by rfl, ?_⟩) (trivial) ?_
      rotate_left 1
      · intro w5 hSw
        go_simp; all_goals (with_reducible rfl)
      try simp only [Act.put, List.setIfInBounds_toArray, List.set_cons_zero, List.set_cons_succ]
      refine wpAnyH_take (i := 8) (oi := { dst := some 69, op := Go.Op.fieldAddr 58 (Go.Operand.tmp 68) 2, type := 0, pos := "lru.go:84", after := #[{ on := 7, ground := Go.Ground.data }, { on := 0, ground := Go.Ground.phase }, { on := 1, ground := Go.Ground.phase }, { on := 2, ground := Go.Ground.phase }, { on := 3, ground := Go.Ground.phase }, { on := 4, ground := Go.Ground.phase }, { on := 5, ground := Go.Ground.phase }, { on := 6, ground := Go.Ground.phase }], guard := none }) (v := ?_) rfl (by kernel_rfl) (by kernel_rfl) (by kernel_rfl) (fun _ _ _ h => h) (Or.inl ⟨by rfl, ?_⟩) (trivial) ?_
      rotate_left 1
      · intro w5 hSw
        go_simp; all_goals (with_reducible rfl)
      try simp only [Act.put, List.setIfInBounds_toArray, List.set_cons_zero, List.set_cons_succ]
      refine wpAnyH_ready (rs := [9]) (by kernel_rfl) (by simp) ?_
      refine (AllReadyH.cons (o := { dst := none, op := Go.Op.store 3 (Go.Operand.tmp 69) (Go.Operand.tmp 67), type := 0, pos := "lru.go:84", after := #[{ on := 8, ground := Go.Ground.data }, { on := 6, ground := Go.Ground.data }, { on := 5, ground := Go.Ground.chain }, { on := 0, ground := Go.Ground.phase }, { on := 1, ground := Go.Ground.phase }, { on := 2, ground := Go.Ground.phase }, { on := 3, ground := Go.Ground.phase }, { on := 4, ground := Go.Ground.phase }, { on := 5, ground := Go.Ground.phase }, { on := 6, ground := Go.Ground.phase }], guard := none }) rfl (fun K hK => ?_) AllReadyH.nil)
      go_simp
      refine hK.out _ _ (trivial) (fun _ => ?_)
      clear hK K
      try simp only [Act.put, List.setIfInBounds_toArray, List.set_cons_zero, List.set_cons_succ]
      refine wpAnyH_done (by kernel_rfl) ?_ _
      go_wp2_with fail
      obtain ⟨W2, hW2⟩ : ∃ W2, W2 = (W1.drewN (1 + kk)).setCell ⟨g, 2, none⟩ (.int .i64 (IntKind.i64.wrap (((tot es0 : Nat) : Int) + ((s.size : Int) + (bs.length : Int))))) := ⟨_, rfl⟩
      obtain ⟨hL2, hO2⟩ := FIN.out (W1.drewN (1 + kk)) ⟨rfl, rfl, rfl, Nat.le_refl _, fun _ _ => rfl⟩ _ (WR.out)
      rw [← hW2] at hL2 hO2
      rw [← hW2]
      clear hW2 FIN WR Hby hk0 hk1 y2 y2f
      have HL2 := Lib.hid hL2
      have HO2 := Lib.hid hO2
      clear hL2 hO2
      go_wp2_with fail
      go_loopw [] (fun W => ∃ (f : Nat) (L : List En), Hid (Lru W base g ent sz h m L) ∧ Hid (Only (LS base w) w W) ∧ Hid (evict ent sz f L = R) ∧ L.length ≤ f ∧ tot L ≤ 1000000000 ∧ L.length ≤ 200000000) (fun W => mu g W)
      case atStart => exact ⟨_, _, HL2, HO2, HR0, by simp [Hes0.out], Htot.out, by have := Hlen.out; simp; omega⟩
      case round =>
        obtain ⟨f, L, HL, HO, HR, hf, hT, hLn⟩ := hrel
        clear HL2 HO2
        obtain ⟨mark, mp, n, D, hS, hM, hN, hKy⟩ := HL.out.ex
        have Hmu := Lib.hid HL.out.mu
        have c0 : wr.cell? ⟨g, 0, none⟩ = some (.int .i64 (ent : Int)) := by rw [hS.cache.cell]; rfl
        have c1 : wr.cell? ⟨g, 1, none⟩ = some (.int .i64 (sz : Int)) := by rw [hS.cache.cell]; rfl
        have q2 : wr.cell? ⟨g, 2, none⟩ = some (.int .i64 (tot L : Int)) := by rw [hS.cache.cell]; rfl
        have c3 : wr.cell? ⟨g, 3, none⟩ = some (.map (some mp)) := by rw [hS.cache.cell]; rfl
        have c4 : wr.cell? ⟨g, 4, none⟩ = some (.pointer (some ⟨mark, 0, none⟩)) := by rw [hS.cache.cell]; rfl
        have hlen : ∀ k ty, (Builtin.len_ #[52] ty #[.map (some mp)]).run Try.prog (wr.drewN k) = .ok (.int .i64 (L.length : Int)) (wr.drewN k) := fun k ty => by
          have h5 : (wr.drewN k).ownsMap Try.prog 9 RP mp n D := (hS.drewN k).map
          have := h5.len Try.underlying52 ty
          rw [hM.size] at this
          exact this
        clear hM hN hKy
        obtain ⟨nL, hnL⟩ : ∃ nL, nL = L.length := ⟨_, rfl⟩
        obtain ⟨tL, htL⟩ : ∃ tL, tL = tot L := ⟨_, rfl⟩
        rw [← htL] at q2
        simp only [← hnL] at hlen
        by_cases hl : ent < L.length
        · have d1 : decide ((ent : Int) < (nL : Int)) = true := decide_eq_true (by omega)
          have d3 : decide (ent < nL) = true := decide_eq_true (by omega)
          have hcase : ent < L.length ∨ sz < tot L := .inl hl
          clear hl
          have hne : L ≠ [] := fun e => by
            subst e
            rcases hcase with h9 | h9
            · simp at h9
            · simp [tot] at h9
          obtain ⟨l1, y, rfl⟩ : ∃ l1 y, L = l1 ++ [y] := ⟨L.dropLast, L.getLast hne, (List.dropLast_concat_getLast hne).symm⟩
          obtain ⟨f, rfl⟩ : ∃ k, f = k + 1 := ⟨f - 1, by rw [List.length_append] at hf; simp at hf; omega⟩
          have HR2 : Hid (evict ent sz f l1 = R) := by
            have := HR.out
            rw [evict_go hcase, List.dropLast_concat] at this
            exact this
          have htm : tot l1 ≤ tot (l1 ++ [y]) := by have := tot_mid l1 [] y; rw [List.append_nil] at this; omega
          have m2 : wr.cell? ⟨mark, 2, none⟩ = some (.pointer (some ⟨y.blk, 0, none⟩)) := hS.oldest
          have HD := Lib.hid fun (k : Nat) => drop_any g base ent sz h m l1 [] y (wr.drewN k) (HL.out.drewN k) (by omega)
          have HOk := Lib.hid fun (k : Nat) => HO.out.drewN k
          have hf2 : l1.length ≤ f := by rw [List.length_append] at hf; simp at hf; omega
          have hln2 : l1.length ≤ 200000000 := by rw [List.length_append] at hLn; simp at hLn; omega
          have Hmu2 : Hid (mu g wr = l1.length + 1) := by have := Hmu.out; rw [List.length_append] at this; simpa [Hid] using this
          have Htm := Lib.hid (Nat.le_trans htm hT)
          clear hcase hne htm hS hf hLn hT Hmu HR hnL htL
          go_wp2_with fail
          refine wp_region_quiet_lit (by kernel_rfl) (by kernel_rfl) ?_
          go_big_quiet_step (fail)
          go_big_quiet_step (fail)
          go_big_quiet_step (fail)
          go_big_quiet_step (fail)
          go_big_quiet_want
          refine ⟨.int .i64 (nL : Int), fun W hW => ?_, ?_⟩
          · obtain ⟨nq, hq⟩ := hW
            subst hq
            exact quiet_len (.tmp 73) _ rfl rfl (hlen _ _)
          try simp only [Act.put, List.setIfInBounds_toArray, List.set_cons_zero, List.set_cons_succ]
          go_big_quiet_on
          repeat (go_big_quiet_step (fail))
          refine wpQuiet_nil ?_
          intro _ hw'
          obtain ⟨nq, hw''⟩ := hw'
          subst hw''
          go_wp2_with fail
          refine (HD.out _).mono ?_
          rintro e W3 ⟨rfl, hL3, hO3⟩
          rw [List.append_nil] at hL3
          have HL3 := Lib.hid hL3
          have HO4 := Lib.hid ((HOk.out _).ls hO3)
          have Hmu3 := Lib.hid hL3.mu
          clear hL3 hO3
          go_wp2_with fail
          go_roundw
          case rel => exact ⟨f, l1, HL3, HO4, HR2, hf2, Htm.out, hln2⟩
          case measure => rw [Hmu2.out, Hmu3.out]; omega
        · have d1 : decide ((ent : Int) < (nL : Int)) = false := decide_eq_false (by omega)
          have d3 : decide (ent < nL) = false := decide_eq_false (by omega)
          by_cases ht : sz < tot L
          · have d2 : decide ((sz : Int) < (tL : Int)) = true := decide_eq_true (by omega)
            have d4 : decide (sz < tL) = true := decide_eq_true (by omega)
            have hcase : ent < L.length ∨ sz < tot L := .inr ht
            clear hl ht
            have hne : L ≠ [] := fun e => by
              subst e
              rcases hcase with h9 | h9
              · simp at h9
              · simp [tot] at h9
            obtain ⟨l1, y, rfl⟩ : ∃ l1 y, L = l1 ++ [y] := ⟨L.dropLast, L.getLast hne, (List.dropLast_concat_getLast hne).symm⟩
            obtain ⟨f, rfl⟩ : ∃ k, f = k + 1 := ⟨f - 1, by rw [List.length_append] at hf; simp at hf; omega⟩
            have HR2 : Hid (evict ent sz f l1 = R) := by
              have := HR.out
              rw [evict_go hcase, List.dropLast_concat] at this
              exact this
            have htm : tot l1 ≤ tot (l1 ++ [y]) := by have := tot_mid l1 [] y; rw [List.append_nil] at this; omega
            have m2 : wr.cell? ⟨mark, 2, none⟩ = some (.pointer (some ⟨y.blk, 0, none⟩)) := hS.oldest
            have HD := Lib.hid fun (k : Nat) => drop_any g base ent sz h m l1 [] y (wr.drewN k) (HL.out.drewN k) (by omega)
            have HOk := Lib.hid fun (k : Nat) => HO.out.drewN k
            have hf2 : l1.length ≤ f := by rw [List.length_append] at hf; simp at hf; omega
            have hln2 : l1.length ≤ 200000000 := by rw [List.length_append] at hLn; simp at hLn; omega
            have Hmu2 : Hid (mu g wr = l1.length + 1) := by have := Hmu.out; rw [List.length_append] at this; simpa [Hid] using this
            have Htm := Lib.hid (Nat.le_trans htm hT)
            clear hcase hne htm hS hf hLn hT Hmu HR hnL htL
            go_wp2_with fail
            refine wp_region_quiet_lit (by kernel_rfl) (by kernel_rfl) ?_
            go_big_quiet_step (fail)
            go_big_quiet_step (fail)
            go_big_quiet_step (fail)
            go_big_quiet_step (fail)
            go_big_quiet_want
            refine ⟨.int .i64 (nL : Int), fun W hW => ?_, ?_⟩
            · obtain ⟨nq, hq⟩ := hW
              subst hq
              exact quiet_len (.tmp 73) _ rfl rfl (hlen _ _)
            try simp only [Act.put, List.setIfInBounds_toArray, List.set_cons_zero, List.set_cons_succ]
            go_big_quiet_on
            repeat (go_big_quiet_step (fail))
            refine wpQuiet_nil ?_
            intro _ hw'
            obtain ⟨nq, hw''⟩ := hw'
            subst hw''
            go_wp2_with fail
            refine (HD.out _).mono ?_
            rintro e W3 ⟨rfl, hL3, hO3⟩
            rw [List.append_nil] at hL3
            have HL3 := Lib.hid hL3
            have HO4 := Lib.hid ((HOk.out _).ls hO3)
            have Hmu3 := Lib.hid hL3.mu
            clear hL3 hO3
            go_wp2_with fail
            go_roundw
            case rel => exact ⟨f, l1, HL3, HO4, HR2, hf2, Htm.out, hln2⟩
            case measure => rw [Hmu2.out, Hmu3.out]; omega
          · have d2 : decide ((sz : Int) < (tL : Int)) = false := decide_eq_false (by omega)
            have d4 : decide (sz < tL) = false := decide_eq_false (by omega)
            have hend : L = R := by rw [← HR.out, evict_stop hl ht]
            subst hend
            have HLk := Lib.hid fun (k : Nat) => HL.out.drewN k
            have HOk := Lib.hid fun (k : Nat) => HO.out.drewN k
            clear hl ht hS hnL htL
            go_wp2_with fail
            refine wp_region_quiet_lit (by kernel_rfl) (by kernel_rfl) ?_
            go_big_quiet_step (fail)
            go_big_quiet_step (fail)
            go_big_quiet_step (fail)
            go_big_quiet_step (fail)
            go_big_quiet_want
            refine ⟨.int .i64 (nL : Int), fun W hW => ?_, ?_⟩
            · obtain ⟨nq, hq⟩ := hW
              subst hq
              exact quiet_len (.tmp 73) _ rfl rfl (hlen _ _)
            try simp only [Act.put, List.setIfInBounds_toArray, List.set_cons_zero, List.set_cons_succ]
            go_big_quiet_on
            repeat (go_big_quiet_step (fail))
            refine wpQuiet_nil ?_
            intro _ hw'
            obtain ⟨nq, hw''⟩ := hw'
            subst hw''
            go_wp2_with fail
            go_ret
            refine ⟨rfl, (⟨bX, s, .slice a2 bs.length c2, bs⟩ : En), rfl, rfl, ?_, HOk.out _⟩
            rw [HR0.out]
            exact HLk.out _
  | some x0 =>
    obtain ⟨hV, hB⟩ := look_hit hM hf
    have HV := Lib.hid hV
    have HB := Lib.hid hB
    obtain ⟨hmem, hkey⟩ := fnd_some hf
    obtain ⟨l1, l2, rfl⟩ := List.append_of_mem hmem
    have hw0 : es0 = l1 ++ l2 := by rw [hes0]; exact wo_mid hKy hkey
    have HD := Lib.hid (drop_any g base ent sz h m l1 l2 x0 w H (by omega))
    rw [← hw0] at HD
    clear hS hM hN hKy H hV hB hf ht hes0 hmem hkey hw0
    go_enter Try.func13, Try.ntmps13
    go_wp2_with (at_lookup; refine look_own _ rfl (.tmp 35) (.tmp 36) rfl mp n' D rfl HO.out s HS.out rfl _ _ HV.out HB.out ?_)
    refine HD.out.mono ?_
    rintro e X ⟨rfl, hL, hO⟩
    clear HV HB HO HD c0 c1 c3 d0 d1
    go_wp2_with fail
    obtain ⟨mark, mp, n, D, hS, hM, hN, hKy⟩ := hL.ex
    have hXs : base ≤ X.heap.size := Nat.le_trans hS.lo.1 (Nat.le_of_lt hS.cache.lt)
    have HC := Lib.hid (clone_own a c bs X ((HNums.out.below (hO.low hbw)).more hXs) (by omega) Hnil.out)
    have HST := Lib.hid hS
    have HM := Lib.hid hM
    have HN := Lib.hid hN
    have HK := Lib.hid hKy
    have HOX := Lib.hid hO
    clear hL hS hM hN hKy hO
    go_wp2_with fail
    refine HC.out.mono ?_
    rintro e Y ⟨v, rfl, hown, hBY⟩
    obtain ⟨a2, c2, rfl, _, _, _, _⟩ := hown.nums
    have hSY := HST.out.below hBY
    have hSZ := hSY.born s _ bs X.heap.size hXs hown Hlt.out
    have hOZ : Only (LS base w) w (Y.alloc (.cells #[.string s, .slice a2 bs.length c2, .pointer none, .pointer none] 63)) := (HOX.out.ls (Only.of_below hBY _)).ls (Only.of_below ((Below.refl _ _).alloc (Nat.le_refl _) _) _)
    have hNN : (mark :: blks ((⟨Y.heap.size, s, .slice a2 bs.length c2, bs⟩ : En) :: es0)).Nodup := blks_new hSY HN.out rfl
    obtain ⟨bX, hbX⟩ : ∃ b, b = Y.heap.size := ⟨_, rfl⟩
    have hgX : g ≠ bX := fun e => by have := hSY.cache.lt; omega
    have y3 : Y.cell? ⟨g, 3, none⟩ = some (.map (some mp)) := by rw [hSY.cache.cell]; rfl
    rw [← hbX] at hSZ hNN
    obtain ⟨Z, hZ⟩ : ∃ Z, Z = Y.alloc (.cells #[.string s, .slice a2 bs.length c2, .pointer none, .pointer none] 63) := ⟨_, rfl⟩
    rw [← hZ] at hSZ hOZ
    have z3 : Z.cell? ⟨g, 3, none⟩ = some (.map (some mp)) := by rw [hSZ.cache.cell]; rfl
    have HMP := Lib.hid (ownsMap_tight hSZ.map)
    have Hmn : Hid (Maps.size D < maxLen) := by have := HM.out.size; have h9 := Hlen.out; unfold Hid maxLen; rw [this]; omega
    have HSZ := Lib.hid hSZ
    have HOZ := Lib.hid hOZ
    have HNN := Lib.hid hNN
    clear hSY hSZ hOZ hNN hown hBY y3 HC HST HN hXs
    go_upto_region 7 with (fail)
    rw [← hZ, ← hbX]
    clear hZ hbX
    go_wp2_with (at_mapUpdate; refine put_own _ rfl (.tmp 52) (.tmp 53) (.tmp 54) rfl mp _ D rfl HMP.out Hmn.out s HS.out rfl bX rfl ?_)
    intro Z2 hown2 hturn
    have hgZ : Only (fun b => b = mp) Z Z2 := Only.of_grown (S := fun b => b = mp) hturn.grown (fun b hb => by injection hb with hb; exact hb.symm)
    have hS2 := HSZ.out.other (w' := Z2) (D' := D.put (kl s) (.lit (.int .i64 (bX : Int)))) hgZ (.inr rfl) (HSZ.out.cache.only hgZ (fun e => HSZ.out.mp_g e.symm)) hown2
    have HO2 := Lib.hid (HOZ.out.ls (hgZ.mono fun b _ e => by rw [e]; exact HSZ.out.ls_mp))
    obtain ⟨q, hac, hadd⟩ := hS2.added (x := (⟨bX, s, .slice a2 bs.length c2, bs⟩ : En)) (List.mem_cons_self ..) HNN.out
    have x4 : Z2.cell? ⟨g, 4, none⟩ = some (.pointer (some ⟨mark, 0, none⟩)) := by rw [hS2.cache.cell]; rfl
    have HA := Lib.hid hac
    have HAD := Lib.hid hadd
    clear hac hadd hS2 hgZ hturn hown2 z3 HSZ HOZ HMP Hmn
    go_wp2_with fail
    refine HA.out.mono ?_
    rintro e W1 ⟨rfl, hB⟩
    obtain ⟨hS3, hO3⟩ := HAD.out W1 hB
    have hO4 := HO2.out.ls hO3
    have hd := (hS3.dat (⟨bX, s, .slice a2 bs.length c2, bs⟩ : En) (List.mem_cons_self ..)).1
    have y2 : W1.cell? ⟨g, 2, none⟩ = some (.int .i64 ((tot es0 : Nat) : Int)) := by rw [hS3.cache.cell]; rfl
    have y2f : W1.frozen? ⟨g, 2, none⟩ = false := hS3.cache.frozen 2
    have hk0 : W1.cell? ⟨bX, 0, none⟩ = some (.string s) := hd.key
    have hk1 : W1.cell? ⟨bX, 1, none⟩ = some (.slice a2 bs.length c2) := hd.val
    have Hby := Lib.hid fun (W : World) (h0 : W.cell? ⟨bX, 0, none⟩ = some (.string s)) (h1 : W.cell? ⟨bX, 1, none⟩ = some (.slice a2 bs.length c2)) => bytes_any bX s a2 bs.length c2 W h0 h1 hs hn
    have htt : tot ((⟨bX, s, .slice a2 bs.length c2, bs⟩ : En) :: es0) = tot es0 + (s.size + bs.length) := by unfold tot En.size; simp; omega
    have FIN := Lib.hid fun (W : World) (hW : Below W1.heap.size W1 W) (z : Int) (hz : z = ((tot ((⟨bX, s, .slice a2 bs.length c2, bs⟩ : En) :: es0) : Nat) : Int)) => (show Lru (W.setCell ⟨g, 2, none⟩ (.int .i64 z)) base g ent sz h m ((⟨bX, s, .slice a2 bs.length c2, bs⟩ : En) :: es0) ∧ Only (LS base w) w (W.setCell ⟨g, 2, none⟩ (.int .i64 z)) from by
      obtain ⟨h5, h6⟩ := hS3.stored hW z _ hz
      exact ⟨h5.done HM.out hf0 HNN.out HK.out, hO4.ls h6⟩)
    have WR : Hid (IntKind.i64.wrap (((tot es0 : Nat) : Int) + ((s.size : Int) + (bs.length : Int))) = ((tot ((⟨bX, s, .slice a2 bs.length c2, bs⟩ : En) :: es0) : Nat) : Int)) := by rw [htt]; show _ = _; rw [IntWalk.i64_in _ ⟨by omega, by omega⟩]; omega
    have Htot : Hid (tot ((⟨bX, s, .slice a2 bs.length c2, bs⟩ : En) :: es0) ≤ 1000000000) := by rw [htt]; show _ ≤ _; omega
    obtain ⟨R, HR0⟩ : ∃ R, Hid (evict ent sz (es0.length + 1) ((⟨bX, s, .slice a2 bs.length c2, bs⟩ : En) :: es0) = R) := ⟨_, Lib.hid rfl⟩
    clear hS3 hO3 hO4 hd htt hB x4 HAD HA HO2 HM HK HNN
    go_wp2_with fail
    refine wp_region_held (S := fun _ => True) (by kernel_rfl) ?_
    refine wpAnyH_take (i := 0) (oi := { dst := some 61, op := Go.Op.move (Go.Operand.tmp 0), type := 25, pos := "lru.go:84", after := #[], guard := none }) (v := ?_) rfl (by kernel_rfl) (by kernel_rfl) (by kernel_rfl) (fun _ _ _ h => h) (Or.inl ⟨by rfl, ?_⟩) (trivial) ?_
    rotate_left 1
    · intro w5 hSw
      go_simp; all_goals (with_reducible rfl)
    try simp only [Act.put, List.setIfInBounds_toArray, List.set_cons_zero, List.set_cons_succ]
    refine wpAnyH_take (i := 1) (oi := { dst := some 62, op := Go.Op.nilCheck (Go.Operand.tmp 61), type := 0, pos := "lru.go:84", after := #[{ on := 0, ground := Go.Ground.data }], guard := none }) (v := ?_) rfl (by kernel_rfl) (by kernel_rfl) (by kernel_rfl) (fun _ _ _ h => h) (Or.inl ⟨by rfl, ?_⟩) (trivial) ?_
    rotate_left 1
    · intro w5 hSw
      go_simp; all_goals (with_reducible rfl)
    try simp only [Act.put, List.setIfInBounds_toArray, List.set_cons_zero, List.set_cons_succ]
    refine wpAnyH_take (i := 2) (oi := { dst := some 63, op := Go.Op.fieldAddr 58 (Go.Operand.tmp 62) 2, type := 0, pos := "lru.go:84", after := #[{ on := 1, ground := Go.Ground.data }], guard := none }) (v := ?_) rfl (by kernel_rfl) (by kernel_rfl) (by kernel_rfl) (fun _ _ _ h => h) (Or.inl ⟨by rfl, ?_⟩) (trivial) ?_
    rotate_left 1
    · intro w5 hSw
      go_simp; all_goals (with_reducible rfl)
    try simp only [Act.put, List.setIfInBounds_toArray, List.set_cons_zero, List.set_cons_succ]
    refine wpAnyH_take (i := 4) (oi := { dst := some 65, op := Go.Op.move (Go.Operand.tmp 9), type := 53, pos := "lru.go:84", after := #[], guard := none }) (v := ?_) rfl (by kernel_rfl) (by kernel_rfl) (by kernel_rfl) (fun _ _ _ h => h) (Or.inl ⟨by rfl, ?_⟩) (trivial) ?_
    rotate_left 1
    · intro w5 hSw
      go_simp; all_goals (with_reducible rfl)
    try simp only [Act.put, List.setIfInBounds_toArray, List.set_cons_zero, List.set_cons_succ]
    refine wpAnyH_ready (rs := [3, 5]) (by kernel_rfl) (by simp) ?_
    refine (AllReadyH.cons (o := { dst := some 64, op := Go.Op.load 3 (Go.Operand.tmp 63), type := 3, pos := "lru.go:84", after := #[{ on := 2, ground := Go.Ground.data }], guard := none }) rfl (fun K hK => ?_) (AllReadyH.cons (o := { dst := some 66, op := Go.Op.call { callee := Go.Callee.value (Go.Operand.func 27), args := #[Go.Operand.tmp 65], argTypes := #[53] }, type := 3, pos := "lru.go:84", after := #[{ on := 4, ground := Go.Ground.data }], guard := none }) rfl (fun K hK => ?_) AllReadyH.nil))
    · go_simp
      refine hK.out _ _ (trivial) (fun _ => ?_)
      clear hK K
      try simp only [Act.put, List.setIfInBounds_toArray, List.set_cons_zero, List.set_cons_succ]
      refine wpAnyH_ready (rs := [5]) (by kernel_rfl) (by simp) ?_
      refine (AllReadyH.cons (o := { dst := some 66, op := Go.Op.call { callee := Go.Callee.value (Go.Operand.func 27), args := #[Go.Operand.tmp 65], argTypes := #[53] }, type := 3, pos := "lru.go:84", after := #[{ on := 4, ground := Go.Ground.data }], guard := none }) rfl (fun K hK => ?_) AllReadyH.nil)
      go_simp
      refine (Hby.out _ (by first | exact hk0 | simpa using hk0) (by first | exact hk1 | simpa using hk1)).mono ?_; rintro e Y2 ⟨rfl, kk, rfl⟩
      go_wp2_with fail
      refine hK.out _ _ (trivial) (fun _ => ?_)
      clear hK K
      try simp only [Act.put, List.setIfInBounds_toArray, List.set_cons_zero, List.set_cons_succ]
      refine wpAnyH_take (i := 6) (oi := { dst := some 67, op := Go.Op.binOp Go.BinOp.add 3 (Go.Operand.tmp 64) (Go.Operand.tmp 66) 3, type := 3, pos := "lru.go:84", after := #[{ on := 3, ground := Go.Ground.data }, { on := 5, ground := Go.Ground.data }], guard := none }) (v := ?_) rfl (by kernel_rfl) (by kernel_rfl) (by kernel_rfl) (fun _ _ _ h => h) (Or.inl ⟨by rfl, ?_⟩) (trivial) ?_
      rotate_left 1
      · intro w5 hSw
        go_simp; all_goals (with_reducible rfl)
      try simp only [Act.put, List.setIfInBounds_toArray, List.set_cons_zero, List.set_cons_succ]
      refine wpAnyH_take (i := 7) (oi := { dst := some 68, op := Go.Op.nilCheck (Go.Operand.tmp 61), type := 0, pos := "lru.go:84", after := #[{ on := 0, ground := Go.Ground.data }, { on := 0, ground := Go.Ground.phase }, { on := 1, ground := Go.Ground.phase }, { on := 2, ground := Go.Ground.phase }, { on := 3, ground := Go.Ground.phase }, { on := 4, ground := Go.Ground.phase }, { on := 5, ground := Go.Ground.phase }, { on := 6, ground := Go.Ground.phase }], guard := none }) (v := ?_) rfl (by kernel_rfl) (by kernel_rfl) (by kernel_rfl) (fun _ _ _ h => h) (Or.inl ⟨by rfl, ?_⟩) (trivial) ?_
      rotate_left 1
      · intro w5 hSw
        go_simp; all_goals (with_reducible rfl)
      try simp only [Act.put, List.setIfInBounds_toArray, List.set_cons_zero, List.set_cons_succ]
      refine wpAnyH_take (i := 8) (oi := { dst := some 69, op := Go.Op.fieldAddr 58 (Go.Operand.tmp 68) 2, type := 0, pos := "lru.go:84", after := #[{ on := 7, ground := Go.Ground.data }, { on := 0, ground := Go.Ground.phase }, { on := 1, ground := Go.Ground.phase }, { on := 2, ground := Go.Ground.phase }, { on := 3, ground := Go.Ground.phase }, { on := 4, ground := Go.Ground.phase }, { on := 5, ground := Go.Ground.phase }, { on := 6, ground := Go.Ground.phase }], guard := none }) (v := ?_) rfl (by kernel_rfl) (by kernel_rfl) (by kernel_rfl) (fun _ _ _ h => h) (Or.inl ⟨by rfl, ?_⟩) (trivial) ?_
      rotate_left 1
      · intro w5 hSw
        go_simp; all_goals (with_reducible rfl)
      try simp only [Act.put, List.setIfInBounds_toArray, List.set_cons_zero, List.set_cons_succ]
      refine wpAnyH_ready (rs := [9]) (by kernel_rfl) (by simp) ?_
      refine (AllReadyH.cons (o := { dst := none, op := Go.Op.store 3 (Go.Operand.tmp 69) (Go.Operand.tmp 67), type := 0, pos := "lru.go:84", after := #[{ on := 8, ground := Go.Ground.data }, { on := 6, ground := Go.Ground.data }, { on := 5, ground := Go.Ground.chain }, { on := 0, ground := Go.Ground.phase }, { on := 1, ground := Go.Ground.phase }, { on := 2, ground := Go.Ground.phase }, { on := 3, ground := Go.Ground.phase }, { on := 4, ground := Go.Ground.phase }, { on := 5, ground := Go.Ground.phase }, { on := 6, ground := Go.Ground.phase }], guard := none }) rfl (fun K hK => ?_) AllReadyH.nil)
      go_simp
      refine hK.out _ _ (trivial) (fun _ => ?_)
      clear hK K
      try simp only [Act.put, List.setIfInBounds_toArray, List.set_cons_zero, List.set_cons_succ]
      refine wpAnyH_done (by kernel_rfl) ?_ _
      go_wp2_with fail
      obtain ⟨W2, hW2⟩ : ∃ W2, W2 = (W1.drewN (1 + kk)).setCell ⟨g, 2, none⟩ (.int .i64 (IntKind.i64.wrap (((tot es0 : Nat) : Int) + ((s.size : Int) + (bs.length : Int))))) := ⟨_, rfl⟩
      obtain ⟨hL2, hO2⟩ := FIN.out (W1.drewN (1 + kk)) ⟨rfl, rfl, rfl, Nat.le_refl _, fun _ _ => rfl⟩ _ (WR.out)
      rw [← hW2] at hL2 hO2
      rw [← hW2]
      clear hW2 FIN WR Hby hk0 hk1 y2 y2f
      have HL2 := Lib.hid hL2
      have HO2 := Lib.hid hO2
      clear hL2 hO2
      go_wp2_with fail
      go_loopw [] (fun W => ∃ (f : Nat) (L : List En), Hid (Lru W base g ent sz h m L) ∧ Hid (Only (LS base w) w W) ∧ Hid (evict ent sz f L = R) ∧ L.length ≤ f ∧ tot L ≤ 1000000000 ∧ L.length ≤ 200000000) (fun W => mu g W)
      case atStart => exact ⟨_, _, HL2, HO2, HR0, by simp [Hes0.out], Htot.out, by have := Hlen.out; simp; omega⟩
      case round =>
        obtain ⟨f, L, HL, HO, HR, hf, hT, hLn⟩ := hrel
        clear HL2 HO2
        obtain ⟨mark, mp, n, D, hS, hM, hN, hKy⟩ := HL.out.ex
        have Hmu := Lib.hid HL.out.mu
        have c0 : wr.cell? ⟨g, 0, none⟩ = some (.int .i64 (ent : Int)) := by rw [hS.cache.cell]; rfl
        have c1 : wr.cell? ⟨g, 1, none⟩ = some (.int .i64 (sz : Int)) := by rw [hS.cache.cell]; rfl
        have q2 : wr.cell? ⟨g, 2, none⟩ = some (.int .i64 (tot L : Int)) := by rw [hS.cache.cell]; rfl
        have c3 : wr.cell? ⟨g, 3, none⟩ = some (.map (some mp)) := by rw [hS.cache.cell]; rfl
        have c4 : wr.cell? ⟨g, 4, none⟩ = some (.pointer (some ⟨mark, 0, none⟩)) := by rw [hS.cache.cell]; rfl
        have hlen : ∀ k ty, (Builtin.len_ #[52] ty #[.map (some mp)]).run Try.prog (wr.drewN k) = .ok (.int .i64 (L.length : Int)) (wr.drewN k) := fun k ty => by
          have h5 : (wr.drewN k).ownsMap Try.prog 9 RP mp n D := (hS.drewN k).map
          have := h5.len Try.underlying52 ty
          rw [hM.size] at this
          exact this
        clear hM hN hKy
        obtain ⟨nL, hnL⟩ : ∃ nL, nL = L.length := ⟨_, rfl⟩
        obtain ⟨tL, htL⟩ : ∃ tL, tL = tot L := ⟨_, rfl⟩
        rw [← htL] at q2
        simp only [← hnL] at hlen
        by_cases hl : ent < L.length
        · have d1 : decide ((ent : Int) < (nL : Int)) = true := decide_eq_true (by omega)
          have d3 : decide (ent < nL) = true := decide_eq_true (by omega)
          have hcase : ent < L.length ∨ sz < tot L := .inl hl
          clear hl
          have hne : L ≠ [] := fun e => by
            subst e
            rcases hcase with h9 | h9
            · simp at h9
            · simp [tot] at h9
          obtain ⟨l1, y, rfl⟩ : ∃ l1 y, L = l1 ++ [y] := ⟨L.dropLast, L.getLast hne, (List.dropLast_concat_getLast hne).symm⟩
          obtain ⟨f, rfl⟩ : ∃ k, f = k + 1 := ⟨f - 1, by rw [List.length_append] at hf; simp at hf; omega⟩
          have HR2 : Hid (evict ent sz f l1 = R) := by
            have := HR.out
            rw [evict_go hcase, List.dropLast_concat] at this
            exact this
          have htm : tot l1 ≤ tot (l1 ++ [y]) := by have := tot_mid l1 [] y; rw [List.append_nil] at this; omega
          have m2 : wr.cell? ⟨mark, 2, none⟩ = some (.pointer (some ⟨y.blk, 0, none⟩)) := hS.oldest
          have HD := Lib.hid fun (k : Nat) => drop_any g base ent sz h m l1 [] y (wr.drewN k) (HL.out.drewN k) (by omega)
          have HOk := Lib.hid fun (k : Nat) => HO.out.drewN k
          have hf2 : l1.length ≤ f := by rw [List.length_append] at hf; simp at hf; omega
          have hln2 : l1.length ≤ 200000000 := by rw [List.length_append] at hLn; simp at hLn; omega
          have Hmu2 : Hid (mu g wr = l1.length + 1) := by have := Hmu.out; rw [List.length_append] at this; simpa [Hid] using this
          have Htm := Lib.hid (Nat.le_trans htm hT)
          clear hcase hne htm hS hf hLn hT Hmu HR hnL htL
          go_wp2_with fail
          refine wp_region_quiet_lit (by kernel_rfl) (by kernel_rfl) ?_
          go_big_quiet_step (fail)
          go_big_quiet_step (fail)
          go_big_quiet_step (fail)
          go_big_quiet_step (fail)
          go_big_quiet_want
          refine ⟨.int .i64 (nL : Int), fun W hW => ?_, ?_⟩
          · obtain ⟨nq, hq⟩ := hW
            subst hq
            exact quiet_len (.tmp 73) _ rfl rfl (hlen _ _)
          try simp only [Act.put, List.setIfInBounds_toArray, List.set_cons_zero, List.set_cons_succ]
          go_big_quiet_on
          repeat (go_big_quiet_step (fail))
          refine wpQuiet_nil ?_
          intro _ hw'
          obtain ⟨nq, hw''⟩ := hw'
          subst hw''
          go_wp2_with fail
          refine (HD.out _).mono ?_
          rintro e W3 ⟨rfl, hL3, hO3⟩
          rw [List.append_nil] at hL3
          have HL3 := Lib.hid hL3
          have HO4 := Lib.hid ((HOk.out _).ls hO3)
          have Hmu3 := Lib.hid hL3.mu
          clear hL3 hO3
          go_wp2_with fail
          go_roundw
          case rel => exact ⟨f, l1, HL3, HO4, HR2, hf2, Htm.out, hln2⟩
          case measure => rw [Hmu2.out, Hmu3.out]; omega
        · have d1 : decide ((ent : Int) < (nL : Int)) = false := decide_eq_false (by omega)
          have d3 : decide (ent < nL) = false := decide_eq_false (by omega)
          by_cases ht : sz < tot L
          · have d2 : decide ((sz : Int) < (tL : Int)) = true := decide_eq_true (by omega)
            have d4 : decide (sz < tL) = true := decide_eq_true (by omega)
            have hcase : ent < L.length ∨ sz < tot L := .inr ht
            clear hl ht
            have hne : L ≠ [] := fun e => by
              subst e
              rcases hcase with h9 | h9
              · simp at h9
              · simp [tot] at h9
            obtain ⟨l1, y, rfl⟩ : ∃ l1 y, L = l1 ++ [y] := ⟨L.dropLast, L.getLast hne, (List.dropLast_concat_getLast hne).symm⟩
            obtain ⟨f, rfl⟩ : ∃ k, f = k + 1 := ⟨f - 1, by rw [List.length_append] at hf; simp at hf; omega⟩
            have HR2 : Hid (evict ent sz f l1 = R) := by
              have := HR.out
              rw [evict_go hcase, List.dropLast_concat] at this
              exact this
            have htm : tot l1 ≤ tot (l1 ++ [y]) := by have := tot_mid l1 [] y; rw [List.append_nil] at this; omega
            have m2 : wr.cell? ⟨mark, 2, none⟩ = some (.pointer (some ⟨y.blk, 0, none⟩)) := hS.oldest
            have HD := Lib.hid fun (k : Nat) => drop_any g base ent sz h m l1 [] y (wr.drewN k) (HL.out.drewN k) (by omega)
            have HOk := Lib.hid fun (k : Nat) => HO.out.drewN k
            have hf2 : l1.length ≤ f := by rw [List.length_append] at hf; simp at hf; omega
            have hln2 : l1.length ≤ 200000000 := by rw [List.length_append] at hLn; simp at hLn; omega
            have Hmu2 : Hid (mu g wr = l1.length + 1) := by have := Hmu.out; rw [List.length_append] at this; simpa [Hid] using this
            have Htm := Lib.hid (Nat.le_trans htm hT)
            clear hcase hne htm hS hf hLn hT Hmu HR hnL htL
            go_wp2_with fail
            refine wp_region_quiet_lit (by kernel_rfl) (by kernel_rfl) ?_
            go_big_quiet_step (fail)
            go_big_quiet_step (fail)
            go_big_quiet_step (fail)
            go_big_quiet_step (fail)
            go_big_quiet_want
            refine ⟨.int .i64 (nL : Int), fun W hW => ?_, ?_⟩
            · obtain ⟨nq, hq⟩ := hW
              subst hq
              exact quiet_len (.tmp 73) _ rfl rfl (hlen _ _)
            try simp only [Act.put, List.setIfInBounds_toArray, List.set_cons_zero, List.set_cons_succ]
            go_big_quiet_on
            repeat (go_big_quiet_step (fail))
            refine wpQuiet_nil ?_
            intro _ hw'
            obtain ⟨nq, hw''⟩ := hw'
            subst hw''
            go_wp2_with fail
            refine (HD.out _).mono ?_
            rintro e W3 ⟨rfl, hL3, hO3⟩
            rw [List.append_nil] at hL3
            have HL3 := Lib.hid hL3
            have HO4 := Lib.hid ((HOk.out _).ls hO3)
            have Hmu3 := Lib.hid hL3.mu
            clear hL3 hO3
            go_wp2_with fail
            go_roundw
            case rel => exact ⟨f, l1, HL3, HO4, HR2, hf2, Htm.out, hln2⟩
            case measure => rw [Hmu2.out, Hmu3.out]; omega
          · have d2 : decide ((sz : Int) < (tL : Int)) = false := decide_eq_false (by omega)
            have d4 : decide (sz < tL) = false := decide_eq_false (by omega)
            have hend : L = R := by rw [← HR.out, evict_stop hl ht]
            subst hend
            have HLk := Lib.hid fun (k : Nat) => HL.out.drewN k
            have HOk := Lib.hid fun (k : Nat) => HO.out.drewN k
            clear hl ht hS hnL htL
            go_wp2_with fail
            refine wp_region_quiet_lit (by kernel_rfl) (by kernel_rfl) ?_
            go_big_quiet_step (fail)
            go_big_quiet_step (fail)
            go_big_quiet_step (fail)
            go_big_quiet_step (fail)
            go_big_quiet_want
            refine ⟨.int .i64 (nL : Int), fun W hW => ?_, ?_⟩
            · obtain ⟨nq, hq⟩ := hW
              subst hq
              exact quiet_len (.tmp 73) _ rfl rfl (hlen _ _)
            try simp only [Act.put, List.setIfInBounds_toArray, List.set_cons_zero, List.set_cons_succ]
            go_big_quiet_on
            repeat (go_big_quiet_step (fail))
            refine wpQuiet_nil ?_
            intro _ hw'
            obtain ⟨nq, hw''⟩ := hw'
            subst hw''
            go_wp2_with fail
            go_ret
            refine ⟨rfl, (⟨bX, s, .slice a2 bs.length c2, bs⟩ : En), rfl, rfl, ?_, HOk.out _⟩
            rw [HR0.out]
            exact HLk.out _
    · go_simp
      refine (Hby.out _ (by first | exact hk0 | simpa using hk0) (by first | exact hk1 | simpa using hk1)).mono ?_; rintro e Y2 ⟨rfl, kk, rfl⟩
      go_wp2_with fail
      refine hK.out _ _ (trivial) (fun _ => ?_)
      clear hK K
      try simp only [Act.put, List.setIfInBounds_toArray, List.set_cons_zero, List.set_cons_succ]
      refine wpAnyH_ready (rs := [3]) (by kernel_rfl) (by simp) ?_
      refine (AllReadyH.cons (o := { dst := some 64, op := Go.Op.load 3 (Go.Operand.tmp 63), type := 3, pos := "lru.go:84", after := #[{ on := 2, ground := Go.Ground.data }], guard := none }) rfl (fun K hK => ?_) AllReadyH.nil)
      go_simp
      refine hK.out _ _ (trivial) (fun _ => ?_)
      clear hK K
      try simp only [Act.put, List.setIfInBounds_toArray, List.set_cons_zero, List.set_cons_succ]
      refine wpAnyH_take (i := 6) (oi := { dst := some 67, op := Go.Op.binOp Go.BinOp.add 3 (Go.Operand.tmp 64) (Go.Operand.tmp 66) 3, type := 3, pos := "lru.go:84", after := #[{ on := 3, ground := Go.Ground.data }, { on := 5, ground := Go.Ground.data }], guard := none }) (v := ?_) rfl (by kernel_rfl) (by kernel_rfl) (by kernel_rfl) (fun _ _ _ h => h) (Or.inl ⟨by rfl, ?_⟩) (trivial) ?_
      rotate_left 1
      · intro w5 hSw
        go_simp; all_goals (with_reducible rfl)
      try simp only [Act.put, List.setIfInBounds_toArray, List.set_cons_zero, List.set_cons_succ]
      refine wpAnyH_take (i := 7) (oi := { dst := some 68, op := Go.Op.nilCheck (Go.Operand.tmp 61), type := 0, pos := "lru.go:84", after := #[{ on := 0, ground := Go.Ground.data }, { on := 0, ground := Go.Ground.phase }, { on := 1, ground := Go.Ground.phase }, { on := 2, ground := Go.Ground.phase }, { on := 3, ground := Go.Ground.phase }, { on := 4, ground := Go.Ground.phase }, { on := 5, ground := Go.Ground.phase }, { on := 6, ground := Go.Ground.phase }], guard := none }) (v := ?_) rfl (by kernel_rfl) (by kernel_rfl) (by kernel_rfl) (fun _ _ _ h => h) (Or.inl ⟨by rfl, ?_⟩) (trivial) ?_
      rotate_left 1
      · intro w5 hSw
        go_simp; all_goals (with_reducible rfl)
      try simp only [Act.put, List.setIfInBounds_toArray, List.set_cons_zero, List.set_cons_succ]
      refine wpAnyH_take (i := 8) (oi := { dst := some 69, op := Go.Op.fieldAddr 58 (Go.Operand.tmp 68) 2, type := 0, pos := "lru.go:84", after := #[{ on := 7, ground := Go.Ground.data }, { on := 0, ground := Go.Ground.phase }, { on := 1, ground := Go.Ground.phase }, { on := 2, ground := Go.Ground.phase }, { on := 3, ground := Go.Ground.phase }, { on := 4, ground := Go.Ground.phase }, { on := 5, ground := Go.Ground.phase }, { on := 6, ground := Go.Ground.phase }], guard := none }) (v := ?_) rfl (by kernel_rfl) (by kernel_rfl) (by kernel_rfl) (fun _ _ _ h => h) (Or.inl ⟨by rfl, ?_⟩) (trivial) ?_
      rotate_left 1
      · intro w5 hSw
        go_simp; all_goals (with_reducible rfl)
      try simp only [Act.put, List.setIfInBounds_toArray, List.set_cons_zero, List.set_cons_succ]
      refine wpAnyH_ready (rs := [9]) (by kernel_rfl) (by simp) ?_
      refine (AllReadyH.cons (o := { dst := none, op := Go.Op.store 3 (Go.Operand.tmp 69) (Go.Operand.tmp 67), type := 0, pos := "lru.go:84", after := #[{ on := 8, ground := Go.Ground.data }, { on := 6, ground := Go.Ground.data }, { on := 5, ground := Go.Ground.chain }, { on := 0, ground := Go.Ground.phase }, { on := 1, ground := Go.Ground.phase }, { on := 2, ground := Go.Ground.phase }, { on := 3, ground := Go.Ground.phase }, { on := 4, ground := Go.Ground.phase }, { on := 5, ground := Go.Ground.phase }, { on := 6, ground := Go.Ground.phase }], guard := none }) rfl (fun K hK => ?_) AllReadyH.nil)
      go_simp
      refine hK.out _ _ (trivial) (fun _ => ?_)
      clear hK K
      try simp only [Act.put, List.setIfInBounds_toArray, List.set_cons_zero, List.set_cons_succ]
      refine wpAnyH_done (by kernel_rfl) ?_ _
      go_wp2_with fail
      obtain ⟨W2, hW2⟩ : ∃ W2, W2 = (W1.drewN (1 + kk)).setCell ⟨g, 2, none⟩ (.int .i64 (IntKind.i64.wrap (((tot es0 : Nat) : Int) + ((s.size : Int) + (bs.length : Int))))) := ⟨_, rfl⟩
      obtain ⟨hL2, hO2⟩ := FIN.out (W1.drewN (1 + kk)) ⟨rfl, rfl, rfl, Nat.le_refl _, fun _ _ => rfl⟩ _ (WR.out)
      rw [← hW2] at hL2 hO2
      rw [← hW2]
      clear hW2 FIN WR Hby hk0 hk1 y2 y2f
      have HL2 := Lib.hid hL2
      have HO2 := Lib.hid hO2
      clear hL2 hO2
      go_wp2_with fail
      go_loopw [] (fun W => ∃ (f : Nat) (L : List En), Hid (Lru W base g ent sz h m L) ∧ Hid (Only (LS base w) w W) ∧ Hid (evict ent sz f L = R) ∧ L.length ≤ f ∧ tot L ≤ 1000000000 ∧ L.length ≤ 200000000) (fun W => mu g W)
      case atStart => exact ⟨_, _, HL2, HO2, HR0, by simp [Hes0.out], Htot.out, by have := Hlen.out; simp; omega⟩
      case round =>
        obtain ⟨f, L, HL, HO, HR, hf, hT, hLn⟩ := hrel
        clear HL2 HO2
        obtain ⟨mark, mp, n, D, hS, hM, hN, hKy⟩ := HL.out.ex
        have Hmu := Lib.hid HL.out.mu
        have c0 : wr.cell? ⟨g, 0, none⟩ = some (.int .i64 (ent : Int)) := by rw [hS.cache.cell]; rfl
        have c1 : wr.cell? ⟨g, 1, none⟩ = some (.int .i64 (sz : Int)) := by rw [hS.cache.cell]; rfl
        have q2 : wr.cell? ⟨g, 2, none⟩ = some (.int .i64 (tot L : Int)) := by rw [hS.cache.cell]; rfl
        have c3 : wr.cell? ⟨g, 3, none⟩ = some (.map (some mp)) := by rw [hS.cache.cell]; rfl
        have c4 : wr.cell? ⟨g, 4, none⟩ = some (.pointer (some ⟨mark, 0, none⟩)) := by rw [hS.cache.cell]; rfl
        have hlen : ∀ k ty, (Builtin.len_ #[52] ty #[.map (some mp)]).run Try.prog (wr.drewN k) = .ok (.int .i64 (L.length : Int)) (wr.drewN k) := fun k ty => by
          have h5 : (wr.drewN k).ownsMap Try.prog 9 RP mp n D := (hS.drewN k).map
          have := h5.len Try.underlying52 ty
          rw [hM.size] at this
          exact this
        clear hM hN hKy
        obtain ⟨nL, hnL⟩ : ∃ nL, nL = L.length := ⟨_, rfl⟩
        obtain ⟨tL, htL⟩ : ∃ tL, tL = tot L := ⟨_, rfl⟩
        rw [← htL] at q2
        simp only [← hnL] at hlen
        by_cases hl : ent < L.length
        · have d1 : decide ((ent : Int) < (nL : Int)) = true := decide_eq_true (by omega)
          have d3 : decide (ent < nL) = true := decide_eq_true (by omega)
          have hcase : ent < L.length ∨ sz < tot L := .inl hl
          clear hl
          have hne : L ≠ [] := fun e => by
            subst e
            rcases hcase with h9 | h9
            · simp at h9
            · simp [tot] at h9
          obtain ⟨l1, y, rfl⟩ : ∃ l1 y, L = l1 ++ [y] := ⟨L.dropLast, L.getLast hne, (List.dropLast_concat_getLast hne).symm⟩
          obtain ⟨f, rfl⟩ : ∃ k, f = k + 1 := ⟨f - 1, by rw [List.length_append] at hf; simp at hf; omega⟩
          have HR2 : Hid (evict ent sz f l1 = R) := by
            have := HR.out
            rw [evict_go hcase, List.dropLast_concat] at this
            exact this
          have htm : tot l1 ≤ tot (l1 ++ [y]) := by have := tot_mid l1 [] y; rw [List.append_nil] at this; omega
          have m2 : wr.cell? ⟨mark, 2, none⟩ = some (.pointer (some ⟨y.blk, 0, none⟩)) := hS.oldest
          have HD := Lib.hid fun (k : Nat) => drop_any g base ent sz h m l1 [] y (wr.drewN k) (HL.out.drewN k) (by omega)
          have HOk := Lib.hid fun (k : Nat) => HO.out.drewN k
          have hf2 : l1.length ≤ f := by rw [List.length_append] at hf; simp at hf; omega
          have hln2 : l1.length ≤ 200000000 := by rw [List.length_append] at hLn; simp at hLn; omega
          have Hmu2 : Hid (mu g wr = l1.length + 1) := by have := Hmu.out; rw [List.length_append] at this; simpa [Hid] using this
          have Htm := Lib.hid (Nat.le_trans htm hT)
          clear hcase hne htm hS hf hLn hT Hmu HR hnL htL
          go_wp2_with fail
          refine wp_region_quiet_lit (by kernel_rfl) (by kernel_rfl) ?_
          go_big_quiet_step (fail)
          go_big_quiet_step (fail)
          go_big_quiet_step (fail)
          go_big_quiet_step (fail)
          go_big_quiet_want
          refine ⟨.int .i64 (nL : Int), fun W hW => ?_, ?_⟩
          · obtain ⟨nq, hq⟩ := hW
            subst hq
            exact quiet_len (.tmp 73) _ rfl rfl (hlen _ _)
          try simp only [Act.put, List.setIfInBounds_toArray, List.set_cons_zero, List.set_cons_succ]
          go_big_quiet_on
          repeat (go_big_quiet_step (fail))
          refine wpQuiet_nil ?_
          intro _ hw'
          obtain ⟨nq, hw''⟩ := hw'
          subst hw''
          go_wp2_with fail
          refine (HD.out _).mono ?_
          rintro e W3 ⟨rfl, hL3, hO3⟩
          rw [List.append_nil] at hL3
          have HL3 := Lib.hid hL3
          have HO4 := Lib.hid ((HOk.out _).ls hO3)
          have Hmu3 := Lib.hid hL3.mu
          clear hL3 hO3
          go_wp2_with fail
          go_roundw
          case rel => exact ⟨f, l1, HL3, HO4, HR2, hf2, Htm.out, hln2⟩
          case measure => rw [Hmu2.out, Hmu3.out]; omega
        · have d1 : decide ((ent : Int) < (nL : Int)) = false := decide_eq_false (by omega)
          have d3 : decide (ent < nL) = false := decide_eq_false (by omega)
          by_cases ht : sz < tot L
          · have d2 : decide ((sz : Int) < (tL : Int)) = true := decide_eq_true (by omega)
            have d4 : decide (sz < tL) = true := decide_eq_true (by omega)
            have hcase : ent < L.length ∨ sz < tot L := .inr ht
            clear hl ht
            have hne : L ≠ [] := fun e => by
              subst e
              rcases hcase with h9 | h9
              · simp at h9
              · simp [tot] at h9
            obtain ⟨l1, y, rfl⟩ : ∃ l1 y, L = l1 ++ [y] := ⟨L.dropLast, L.getLast hne, (List.dropLast_concat_getLast hne).symm⟩
            obtain ⟨f, rfl⟩ : ∃ k, f = k + 1 := ⟨f - 1, by rw [List.length_append] at hf; simp at hf; omega⟩
            have HR2 : Hid (evict ent sz f l1 = R) := by
              have := HR.out
              rw [evict_go hcase, List.dropLast_concat] at this
              exact this
            have htm : tot l1 ≤ tot (l1 ++ [y]) := by have := tot_mid l1 [] y; rw [List.append_nil] at this; omega
            have m2 : wr.cell? ⟨mark, 2, none⟩ = some (.pointer (some ⟨y.blk, 0, none⟩)) := hS.oldest
            have HD := Lib.hid fun (k : Nat) => drop_any g base ent sz h m l1 [] y (wr.drewN k) (HL.out.drewN k) (by omega)
            have HOk := Lib.hid fun (k : Nat) => HO.out.drewN k
            have hf2 : l1.length ≤ f := by rw [List.length_append] at hf; simp at hf; omega
            have hln2 : l1.length ≤ 200000000 := by rw [List.length_append] at hLn; simp at hLn; omega
            have Hmu2 : Hid (mu g wr = l1.length + 1) := by have := Hmu.out; rw [List.length_append] at this; simpa [Hid] using this
            have Htm := Lib.hid (Nat.le_trans htm hT)
            clear hcase hne htm hS hf hLn hT Hmu HR hnL htL
            go_wp2_with fail
            refine wp_region_quiet_lit (by kernel_rfl) (by kernel_rfl) ?_
            go_big_quiet_step (fail)
            go_big_quiet_step (fail)
            go_big_quiet_step (fail)
            go_big_quiet_step (fail)
            go_big_quiet_want
            refine ⟨.int .i64 (nL : Int), fun W hW => ?_, ?_⟩
            · obtain ⟨nq, hq⟩ := hW
              subst hq
              exact quiet_len (.tmp 73) _ rfl rfl (hlen _ _)
            try simp only [Act.put, List.setIfInBounds_toArray, List.set_cons_zero, List.set_cons_succ]
            go_big_quiet_on
            repeat (go_big_quiet_step (fail))
            refine wpQuiet_nil ?_
            intro _ hw'
            obtain ⟨nq, hw''⟩ := hw'
            subst hw''
            go_wp2_with fail
            refine (HD.out _).mono ?_
            rintro e W3 ⟨rfl, hL3, hO3⟩
            rw [List.append_nil] at hL3
            have HL3 := Lib.hid hL3
            have HO4 := Lib.hid ((HOk.out _).ls hO3)
            have Hmu3 := Lib.hid hL3.mu
            clear hL3 hO3
            go_wp2_with fail
            go_roundw
            case rel => exact ⟨f, l1, HL3, HO4, HR2, hf2, Htm.out, hln2⟩
            case measure => rw [Hmu2.out, Hmu3.out]; omega
          · have d2 : decide ((sz : Int) < (tL : Int)) = false := decide_eq_false (by omega)
            have d4 : decide (sz < tL) = false := decide_eq_false (by omega)
            have hend : L = R := by rw [← HR.out, evict_stop hl ht]
            subst hend
            have HLk := Lib.hid fun (k : Nat) => HL.out.drewN k
            have HOk := Lib.hid fun (k : Nat) => HO.out.drewN k
            clear hl ht hS hnL htL
            go_wp2_with fail
            refine wp_region_quiet_lit (by kernel_rfl) (by kernel_rfl) ?_
            go_big_quiet_step (fail)
            go_big_quiet_step (fail)
            go_big_quiet_step (fail)
            go_big_quiet_step (fail)
            go_big_quiet_want
            refine ⟨.int .i64 (nL : Int), fun W hW => ?_, ?_⟩
            · obtain ⟨nq, hq⟩ := hW
              subst hq
              exact quiet_len (.tmp 73) _ rfl rfl (hlen _ _)
            try simp only [Act.put, List.setIfInBounds_toArray, List.set_cons_zero, List.set_cons_succ]
            go_big_quiet_on
            repeat (go_big_quiet_step (fail))
            refine wpQuiet_nil ?_
            intro _ hw'
            obtain ⟨nq, hw''⟩ := hw'
            subst hw''
            go_wp2_with fail
            go_ret
            refine ⟨rfl, (⟨bX, s, .slice a2 bs.length c2, bs⟩ : En), rfl, rfl, ?_, HOk.out _⟩
            rw [HR0.out]
            exact HLk.out _
end Go.Proofs.Ythbgijpakjfjkaa
