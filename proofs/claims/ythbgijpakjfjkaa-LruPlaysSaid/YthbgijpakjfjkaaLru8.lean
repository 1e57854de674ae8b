/- Layer 34: Keys, Len, Size, Counts; those of nil. -/
import Derived.Test.YthbgijpakjfjkaaLru7
import Derived.LaidEqlPtr
import Derived.Lib.Builder
namespace Go.Proofs.Ythbgijpakjfjkaa
open Go.RowKit
set_option linter.unusedVariables false
set_option maxRecDepth 100000

theorem strinfo : (Try.prog.info? 9).map (fun i => (i.zero, i.size, i.bytes)) = some (some (.string ByteArray.empty), 1, 16) := by kernel_rfl
def strs (es : List En) : List Value := es.map fun e => Value.string e.key
theorem keys_nil (w : World) : Calls Try.prog 17 #[.pointer none] w fun e w' => e = .returned (.slice none 0 0) ∧ w = w' := by
  go_enter Try.func17, Try.ntmps17
  go_wp2_with fail
  go_ret
  exact ⟨rfl, rfl⟩
theorem len_nil (w : World) : Calls Try.prog 18 #[.pointer none] w fun e w' => e = .returned (.int .i64 0) ∧ w = w' := by
  go_enter Try.func18, Try.ntmps18
  go_wp2_with fail
  go_ret
  exact ⟨rfl, rfl⟩
theorem size_nil (w : World) : Calls Try.prog 19 #[.pointer none] w fun e w' => e = .returned (.int .i64 0) ∧ w = w' := by
  go_enter Try.func19, Try.ntmps19
  go_wp2_with fail
  go_ret
  exact ⟨rfl, rfl⟩
theorem counts_nil (w : World) : Calls Try.prog 15 #[.pointer none] w fun e w' => e = .returned (.tuple #[.int .i64 0, .int .i64 0]) ∧ w = w' := by
  go_enter Try.func15, Try.ntmps15
  go_wp2_with fail
  go_ret2
  exact ⟨rfl, rfl⟩
theorem clear_nil (w : World) : Calls Try.prog 14 #[.pointer none] w fun e w' => e = .returned (.tuple #[]) ∧ w = w' := by
  go_enter Try.func14, Try.ntmps14
  go_wp2_with fail
  exact bodyPost_ret (v := .tuple #[]) (by simp [results, Try.results14, go_sem]) rfl ⟨rfl, rfl⟩
theorem size_any (g base ent sz h m : Nat) (es : List En) (w : World) (H : Lru w base g ent sz h m es) : Calls Try.prog 19 #[.pointer (some ⟨g, 0, none⟩)] w fun e w' => e = .returned (.int .i64 (tot es : Int)) ∧ w = w' := by
  obtain ⟨mark, mp, n, D, hS, hM, hN, hKy⟩ := H.ex
  have c2 : w.cell? ⟨g, 2, none⟩ = some (.int .i64 (tot es : Int)) := by rw [hS.cache.cell]; rfl
  clear hS hM hN hKy H
  go_enter Try.func19, Try.ntmps19
  go_wp2_with fail
  go_ret
  exact ⟨rfl, rfl⟩
theorem len_any (g base ent sz h m : Nat) (es : List En) (w : World) (H : Lru w base g ent sz h m es) : Calls Try.prog 18 #[.pointer (some ⟨g, 0, none⟩)] w fun e w' => e = .returned (.int .i64 (es.length : Int)) ∧ w = w' := by
  obtain ⟨mark, mp, n, D, hS, hM, hN, hKy⟩ := H.ex
  have c3 : w.cell? ⟨g, 3, none⟩ = some (.map (some mp)) := by rw [hS.cache.cell]; rfl
  have HO := Lib.hid hS.map
  have hsz := Lib.hid hM.size
  clear hS hM hN hKy H
  go_enter Try.func18, Try.ntmps18
  go_wp2_with (at_len; refine wpList_len_own _ rfl (.tmp 8) 52 rfl 9 53 Try.underlying52 RP mp n D rfl HO.out ?_)
  go_ret
  exact ⟨by rw [hsz.out]; rfl, rfl⟩
def KeysPost (w : World) (es : List En) (e : Ending) (w' : World) : Prop := ∃ v, e = .returned v ∧ w'.ownsRow w.heap.size 9 1 v es.length (strs es) ∧ Below w.heap.size w w'
def lenOf (v : Value) : Nat := match v with
  | .slice _ n _ => n
  | _ => 0
theorem lenOf_own {w : World} {base e size n : Nat} {v : Value} {xs : List Value} (h : w.ownsRow base e size v n xs) : lenOf v = n := by
  obtain ⟨a, c, rfl, _⟩ := Vals.of_own h
  rfl
theorem strs_take (es : List En) (k : Nat) (h : k < es.length) : strs (es.take k) ++ [Value.string (es[k]).key] = strs (es.take (k + 1)) := by
  unfold strs
  have e := List.take_succ_eq_append_getElem h
  rw [e, List.map_append]
  rfl
theorem St.at_ {w : World} {base g mp n : Nat} {cs : Array Value} {D : DataW Unit} {nodes : List Nat} {es l : List En} {mark : Nat} (h : St w base g mp n cs D nodes es (seqOf mark l)) (k : Nat) (hk : k ≤ l.length) :
    w.cell? ⟨(seqOf mark l).getD k 0, 3, none⟩ = some (.pointer (some ⟨(seqOf mark l).getD (k + 1) 0, 0, none⟩)) := by
  have go : ∀ (r : List Nat) (j : Nat), j + 1 < r.length → Ch w r → w.cell? ⟨r.getD j 0, 3, none⟩ = some (.pointer (some ⟨r.getD (j + 1) 0, 0, none⟩)) := by
    intro r
    induction r with
    | nil => intro j hj; simp at hj
    | cons p r ih =>
      intro j hj hc
      cases r with
      | nil => simp at hj
      | cons q r =>
        cases j with
        | zero => exact hc.1.1
        | succ j => exact ih j (by simpa using hj) hc.2
  refine go _ k ?_ h.ch
  unfold seqOf blks
  simp
  omega
theorem seq_lt (mark : Nat) (l : List En) (k : Nat) (hk : k < l.length) : (seqOf mark l).getD (k + 1) 0 = (l[k]).blk := by
  unfold seqOf blks
  rw [List.getD_cons_succ, List.getD_eq_getElem?_getD, List.getElem?_append_left (by simpa using hk)]
  simp [hk]
theorem seq_end (mark : Nat) (l : List En) : (seqOf mark l).getD (l.length + 1) 0 = mark := by
  unfold seqOf blks
  rw [List.getD_cons_succ, List.getD_eq_getElem?_getD, List.getElem?_append_right (by simp)]
  simp
theorem seq_zero (mark : Nat) (l : List En) : (seqOf mark l).getD 0 0 = mark := rfl
theorem entinfo : (Try.prog.info? 63).map (fun i => i.size) = some 4 := by kernel_rfl
theorem neq_other {a b : Nat} (W : World) (hne : a ≠ b) (ha : NodeW W a) (hb : NodeW W b) : (binOp .neq 53 (.pointer (some ⟨a, 0, none⟩)) (.pointer (some ⟨b, 0, none⟩))).run Try.prog W = .ok (.bool true) W := by
  obtain ⟨ca, ha, _⟩ := ha
  obtain ⟨cb, hb, _⟩ := hb
  have hi := entinfo
  obtain ⟨j, hj, hj2⟩ := Option.map_eq_some_iff.1 hi
  have hsz : j.size ≠ 0 := by omega
  have hne2 : (⟨a, 0, none⟩ : Addr) ≠ ⟨b, 0, none⟩ := fun e => by injection e with e1; exact hne e1
  have h : ∀ d : Nat, (Op.equalIn (d + 1) 53 (.pointer (some ⟨a, 0, none⟩)) (.pointer (some ⟨b, 0, none⟩))).run Try.prog W = .ok false W := fun d => by
    simp [Op.equalIn, run_underlying Try.underlying53, sizeOf, typeInfo, hj, hsz, run_sameAddr_other W hne2 ha hb]
  simp only [binOp]
  simp [Op.equal, Op.maxDepth, h 9999]
theorem neq_same (a : Nat) (W : World) : (binOp .neq 53 (.pointer (some ⟨a, 0, none⟩)) (.pointer (some ⟨a, 0, none⟩))).run Try.prog W = .ok (.bool false) W := by
  obtain ⟨j, hj, hj2⟩ := Option.map_eq_some_iff.1 entinfo
  exact Lib.run_neq_ptr_same W _ Try.underlying53 hj
set_option maxHeartbeats 8000000 in
theorem keys_any (g base ent sz h m : Nat) (es : List En) (w : World) (H : Lru w base g ent sz h m es) (hle : es.length ≤ 1000000000) :
    Calls Try.prog 17 #[.pointer (some ⟨g, 0, none⟩)] w (KeysPost w es) := by
  obtain ⟨mark, mp, n, D, hS, hM, hN, hKy⟩ := H.ex
  obtain ⟨i0, hi0, hz0, hz1, hz2⟩ := info_parts strinfo
  have c4 : w.cell? ⟨g, 4, none⟩ = some (.pointer (some ⟨mark, 0, none⟩)) := by rw [hS.cache.cell]; rfl
  have hgl : g < w.heap.size := hS.cache.lt
  have Hat : Hid (∀ k, k ≤ es.length → w.cell? ⟨(seqOf mark es).getD k 0, 3, none⟩ = some (.pointer (some ⟨(seqOf mark es).getD (k + 1) 0, 0, none⟩)) ∧ (seqOf mark es).getD k 0 < w.heap.size) := fun k hk => ⟨hS.at_ k hk, block_lt_of_cell (hS.at_ k hk)⟩
  have Hk : Hid (∀ k (hk : k < es.length), w.cell? ⟨(es[k]'hk).blk, 0, none⟩ = some (.string (es[k]'hk).key) ∧ (es[k]'hk).blk ≠ mark ∧ (es[k]'hk).blk < w.heap.size) := fun k hk => by
    refine ⟨(hS.dat _ (List.getElem_mem hk)).1.key, fun e => ?_, block_lt_of_cell (hS.dat _ (List.getElem_mem hk)).1.key⟩
    exact (List.nodup_cons.1 hN).1 (by rw [← e]; exact List.mem_map_of_mem (List.getElem_mem hk))
  have Hn : Hid (∀ k (hk : k < es.length), NodeW w (es[k]'hk).blk) := fun k hk => (hS.nds _ (hS.dat _ (List.getElem_mem hk)).2).1
  have Hm : Hid (NodeW w mark) := (hS.nds mark (List.mem_cons_self ..)).1
  have m3 : w.cell? ⟨mark, 3, none⟩ = some (.pointer (some ⟨(seqOf mark es).getD 1 0, 0, none⟩)) := hS.at_ 0 (Nat.zero_le _)
  have Hle := Lib.hid hle
  clear hS hM hN hKy H hle
  go_enter Try.func17, Try.ntmps17
  go_wp2_with fail
  go_loopw [4, 3] (fun x v W => ∃ (k b : Nat), x = .pointer (some ⟨b, 0, none⟩) ∧ Hid (b = (seqOf mark es).getD (k + 1) 0) ∧ Hid (k ≤ es.length) ∧ W.ownsRow w.heap.size 9 1 v k (strs (es.take k)) ∧ Below w.heap.size w W) (fun _ v _ => es.length - lenOf v)
  case atStart => exact ⟨0, _, rfl, rfl, Nat.zero_le _, ⟨rfl, .inl ⟨rfl, rfl⟩⟩, Below.refl _ _⟩
  case round =>
    obtain ⟨k, b, rfl, hb, hk, hown, hB⟩ := hrel
    have hlv := lenOf_own hown
    have w4 : wr.cell? ⟨g, 4, none⟩ = some (.pointer (some ⟨mark, 0, none⟩)) := (hB.cell hgl).trans c4
    clear c4 m3
    by_cases hlt : k < es.length
    · obtain ⟨hc0, hnm, hbl⟩ := Hk.out k hlt
      have hbe : b = (es[k]).blk := by rw [hb.out, seq_lt mark es k hlt]
      rw [← hbe] at hc0 hnm hbl
      obtain ⟨ks, hks⟩ : ∃ ks, ks = (es[k]).key := ⟨_, rfl⟩
      rw [← hks] at hc0
      have r0 : wr.cell? ⟨b, 0, none⟩ = some (.string ks) := (hB.cell hbl).trans hc0
      obtain ⟨b3, hb3⟩ : ∃ b3, b3 = (seqOf mark es).getD (k + 1 + 1) 0 := ⟨_, rfl⟩
      have r3 : wr.cell? ⟨b, 3, none⟩ = some (.pointer (some ⟨b3, 0, none⟩)) := by
        have := (Hat.out (k + 1) hlt).1
        rw [← hb.out, ← hb3] at this
        exact (hB.cell hbl).trans this
      have hbs := hB.size
      have Hbs := Lib.hid hbs
      have hbr : b < wr.heap.size := by omega
      have Hl1 : Hid (k + 1 ≤ maxLen) := by have := Hle.out; unfold Hid maxLen; omega
      have Hl2 : Hid ((k + 1) * 16 ≤ 140737488355328) := by have := Hle.out; unfold Hid; omega
      have Hst := Lib.hid (strs_take es k hlt)
      rw [← hks] at Hst
      have Hb3 := Lib.hid hb3
      have Hlt := Lib.hid hlt
      have Hlv := Lib.hid hlv
      have hbw : b ≠ wr.heap.size := by omega
      have hcmp := neq_other wr hnm (by rw [hbe]; exact (Hn.out k hlt).below hB) (Hm.out.below hB)
      clear hc0 hnm hbe hb hk hks hb3 hlt hlv Hat Hk Hn Hm
      go_wp2_with (at_builtin; refine app_one rfl (.tmp 26) (.tmp 31) 41 rfl w.heap.size 9 i0 _ 16 Try.underlying41 hi0 hz0 hz1 hz2 rfl _ _ _ rfl hown _ 1 rfl rfl Hl1.out Hl2.out Hbs.out ?_)
      intro v1 w1 h2 h3 _
      rw [Hst.out] at h2
      have hb2 := below_of_grown hB hown h3 Hbs.out
      have r3b : w1.cell? ⟨b, 3, none⟩ = some (.pointer (some ⟨b3, 0, none⟩)) := by
        have hx : w1.heap[b]? = wr.heap[b]? := h3.block b hbr (fun e => by
          have := (World.ownsRow.lt hown b e.symm).1
          omega)
        exact (World.cell?_of_block (w := wr) (a := ⟨b, 3, none⟩) hx).trans r3
      have hlv1 := Lib.hid (lenOf_own h2)
      clear h3 hown hB r3 r0 w4
      go_wp2_with fail
      go_roundw
      case rel => exact ⟨k + 1, b3, rfl, Hb3.out, Hlt.out, h2, hb2⟩
      case measure => rw [hlv1.out, Hlv.out]; have := Hlt.out; omega
    · have hke : k = es.length := by have := hk.out; omega
      have hbe : b = mark := by rw [hb.out, hke, seq_end]
      subst hbe
      rw [hke, List.take_length] at hown
      have hcmp := neq_same b wr
      clear Hat Hk hb hk hlv hlt hke Hn Hm
      go_wp2_with fail
      go_ret
      exact ⟨_, rfl, hown, hB⟩
end Go.Proofs.Ythbgijpakjfjkaa
