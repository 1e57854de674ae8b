/- Walks over layer 7: Pack, Unpack, the reference's, SameInts. -/
import Derived.Test.YtnlbhlobnafggaaVarint
import Derived.Test.YtnlbhlobnafggaaU32
import Derived.Test.YtnlbhlobnafggaaPackMath
namespace Go.Proofs.Ytnlbhlobnafggaa
open Go.RowKit Var
set_option linter.unusedVariables false
set_option maxRecDepth 100000

theorem varint_vat (a : Option Addr) (l : List Nat) (c p : Nat) (w : World) (h : Cells8 w a l) (hl : l.length ≤ 1000000000) (hp : p ≤ l.length) :
    Calls Try.prog 9 #[.slice a l.length c, .int .i64 (p : Int)] w (Three (vat l p).1 (vat l p).2.1 (vat l p).2.2 w) :=
  varint_at a l c p w h hl hp _ _ _ _ rfl (by show _ = _; rfl)
theorem refVarint_vat (a : Option Addr) (l : List Nat) (c p : Nat) (w : World) (h : Cells8 w a l) (hl : l.length ≤ 1000000000) (hp : p ≤ l.length) :
    Calls Try.prog 10 #[.slice a l.length c, .int .i64 (p : Int)] w (Three (vat l p).1 (vat l p).2.1 (vat l p).2.2 w) :=
  refVarint_at a l c p w h hl hp _ _ _ _ rfl (by show _ = _; rfl)

/-- The cells of a slice of uint32s, one by one. -/
def Cells32 (w : World) (B : Nat) (a : Option Addr) (l : List Nat) : Prop := ∀ i, i < l.length → ∃ b off, a = some ⟨b, off, none⟩ ∧ b < B ∧ w.cell? ⟨b, off + i, none⟩ = some (.int .u32 ((l.getD i 0 : Nat) : Int)) ∧ l.getD i 0 < 4294967296
theorem cells32 {w : World} {a : Option Addr} {l : List Nat} (h : Nums .u32 w w.heap.size a l) (hd : ∀ x ∈ l, x < 4294967296) : Cells32 w w.heap.size a l := fun i hi => by
  obtain ⟨b, off, rfl, hb, hc⟩ := h (by omega)
  refine ⟨b, off, rfl, hb, hc i hi, ?_⟩
  simp only [List.getD_eq_getElem?_getD, List.getElem?_eq_getElem hi, Option.getD_some]
  exact hd _ (List.getElem_mem hi)
theorem pk_take (l : List Nat) (k : Nat) (h : k < l.length) : pk (l.take k) ++ vb (l.getD k 0) = pk (l.take (k + 1)) := by
  rw [List.take_succ_eq_append_getElem h, pk_snoc]; simp [h]
theorem pk_take_len (l : List Nat) (h : ∀ x ∈ l, x < 4294967296) (k : Nat) (hk : k ≤ l.length) : (pk (l.take k)).length ≤ 10 * k := by
  have := pk_len (l.take k) (fun x hx => h x (List.mem_of_mem_take hx))
  rw [List.length_take] at this
  omega

set_option maxHeartbeats 2000000 in
theorem pack_any (a : Option Addr) (c : Nat) (l : List Nat) (w : World) (h : Nums .u32 w w.heap.size a l) (hd : ∀ x ∈ l, x < 4294967296) (hl : l.length ≤ 1000) :
    Calls Try.prog 25 #[.slice a l.length c] w (PutPost w (pk l)) := by
  obtain ⟨L, hL⟩ : ∃ L, L = l.length := ⟨_, rfl⟩
  have H : Hid (∀ i, i < L → ∃ b off, a = some ⟨b, off, none⟩ ∧ b < w.heap.size ∧ w.cell? ⟨b, off + i, none⟩ = some (.int .u32 ((l.getD i 0 : Nat) : Int)) ∧ l.getD i 0 < 4294967296) := by rw [hL]; exact cells32 h hd
  have Hs : Hid (∀ k, k < L → pk (l.take k) ++ vb (l.getD k 0) = pk (l.take (k + 1))) := fun k hk => pk_take l k (by omega)
  have Hk : Hid (∀ k, k ≤ L → (pk (l.take k)).length ≤ 10 * k) := fun k hk => pk_take_len l hd k (by omega)
  have He : Hid (l.take L = l) := by show _ = _; rw [hL]; simp
  rw [← hL] at hl ⊢
  clear hL h hd
  go_enter Try.func25, Try.ntmps25
  go_wp2_with fail
  go_loopw [3, 8] (fun u i W => ∃ k : Nat, k ≤ L ∧ i = .int .i64 (k : Int) ∧ Hid (Gone w w.heap.size (.slice none 0 0) (pk (l.take k)) u W)) (fun _ i _ => L - (intOf i).toNat)
  case atStart => exact ⟨0, Nat.zero_le _, rfl, Gone.refl (Own8.nil_ _ _)⟩
  case round =>
    obtain ⟨k, hk, rfl, hg⟩ := hrel
    have hb : Hid (Below w.heap.size w wr) := hg.out.below (Own8.nil_ w _) (Nat.le_refl _)
    by_cases hlt : k < L
    · obtain ⟨b, off, rfl, hbl, hc, hx⟩ := H.out k hlt
      have hcW : wr.cell? ⟨b, off + k, none⟩ = some (.int .u32 ((l.getD k 0 : Nat) : Int)) := (hb.out.cell hbl).trans hc
      have hs := Lib.hid (Hs.out k hlt)
      have hkk := Hk.out k hk
      generalize l.getD k 0 = x at *
      have hadd := Lib.hid (add_any w.heap.size u3 (pk (l.take k)) x wr hg.out.own (by omega) (by omega) hg.out.only.size)
      clear hc hkk
      go_wp2_with fail
      refine hadd.out.mono ?_
      rintro e W1 ⟨v1, rfl, hg1⟩
      rw [hs.out] at hg1
      have Hg1 := Lib.hid (hg.out.trans hg1)
      clear hg1 hadd hcW
      go_wp2_with fail
      go_roundw
      case rel => exact ⟨k + 1, hlt, by go_num, Hg1⟩
      case measure => simp [intOf]; omega
    · obtain rfl : k = L := by omega
      have Hg1 : Hid (Gone w w.heap.size (.slice none 0 0) (pk l) u3 wr) := by have := hg.out; rw [He.out] at this; exact this
      clear hg
      go_wp2_with fail
      go_ret
      exact ⟨_, rfl, Hg1.out.own, hb.out⟩

set_option maxHeartbeats 2000000 in
theorem refPack_any (a : Option Addr) (c : Nat) (l : List Nat) (w : World) (h : Nums .u32 w w.heap.size a l) (hd : ∀ x ∈ l, x < 4294967296) (hl : l.length ≤ 1000) :
    Calls Try.prog 28 #[.slice a l.length c] w (PutPost w (pk l)) := by
  obtain ⟨i0, hi0, hz0, hz1, hz2⟩ := info_parts u8info
  obtain ⟨L, hL⟩ : ∃ L, L = l.length := ⟨_, rfl⟩
  have H : Hid (∀ i, i < L → ∃ b off, a = some ⟨b, off, none⟩ ∧ b < w.heap.size ∧ w.cell? ⟨b, off + i, none⟩ = some (.int .u32 ((l.getD i 0 : Nat) : Int)) ∧ l.getD i 0 < 4294967296) := by rw [hL]; exact cells32 h hd
  have Hs : Hid (∀ k, k < L → pk (l.take k) ++ vb (l.getD k 0) = pk (l.take (k + 1))) := fun k hk => pk_take l k (by omega)
  have Hk : Hid (∀ k, k ≤ L → (pk (l.take k)).length ≤ 10 * k) := fun k hk => pk_take_len l hd k (by omega)
  have He : Hid (l.take L = l) := by show _ = _; rw [hL]; simp
  rw [← hL] at hl ⊢
  clear hL h hd
  go_enter Try.func28, Try.ntmps28
  go_wp2_with fail
  go_loopw [3, 4] (fun u i W => ∃ k : Nat, k ≤ L ∧ i = .int .i64 (k : Int) ∧ Hid (Gone w w.heap.size (.slice none 0 0) (pk (l.take k)) u W)) (fun _ i _ => L - (intOf i).toNat)
  case atStart => exact ⟨0, Nat.zero_le _, rfl, Gone.refl (Own8.nil_ _ _)⟩
  case round =>
    obtain ⟨k, hk, rfl, hg⟩ := hrel
    have hb : Hid (Below w.heap.size w wr) := hg.out.below (Own8.nil_ w _) (Nat.le_refl _)
    by_cases hlt : k < L
    · obtain ⟨b, off, rfl, hbl, hc, hx⟩ := H.out k hlt
      have hcW : wr.cell? ⟨b, off + k, none⟩ = some (.int .u32 ((l.getD k 0 : Nat) : Int)) := (hb.out.cell hbl).trans hc
      have hs := Lib.hid (Hs.out k hlt)
      have hkk := Hk.out k hk
      generalize l.getD k 0 = x at *
      have hv10 := vb_len10 (show x < 18446744073709551616 by omega)
      have Hl1 : Hid ((pk (l.take k)).length + (vb x).length ≤ maxLen) := by unfold Hid maxLen; omega
      have Hl2 : Hid (((pk (l.take k)).length + (vb x).length) * 1 ≤ 140737488355328) := by unfold Hid; omega
      have hby := Lib.hid (refBytes_any x wr (by omega))
      clear hc hkk hv10
      go_wp2_with fail
      refine hby.out.mono ?_
      rintro e W1 ⟨v1, rfl, ho1, hb1⟩
      obtain ⟨a1, c1, rfl, _, _, _, hN1⟩ := ho1.nums
      have hV : Vals W1 W1.heap.size 1 a1 (vb x).length (u8s (vb x)) := Vals.of_nums hN1
      have hown : W1.ownsRow w.heap.size 5 1 u3 (pk (l.take k)).length (u8s (pk (l.take k))) := hg.out.own.below hb1
      have hbs : w.heap.size ≤ W1.heap.size := Nat.le_trans hg.out.only.size hb1.size
      have Hone := Lib.hid (u8s_one (vb x))
      have Hb1 := Lib.hid hb1
      clear hcW hby ho1 hN1 hb1
      go_wp2_with (at_builtin; refine app_vals rfl (.tmp 11) (.tmp 17) 23 rfl w.heap.size 5 i0 _ 1 1 Try.underlying23 hi0 hz0 hz1 hz2 rfl (by omega) _ _ _ rfl hown W1.heap.size _ _ _ _ rfl hV Hone.out Hl1.out Hl2.out hbs ?_)
      intro v2 W2 h2 h3 h5
      have hg4 : Gone W1 w.heap.size u3 (pk (l.take (k + 1))) v2 W2 := by
        have := Gone.grown (l := pk (l.take k) ++ vb x) h2 (by simp) (by rw [← u8s_append]) h3 (by
          rcases h5 with h5 | h5
          · exact .inl h5
          · exact .inr ⟨_, h5, Nat.le_refl _⟩)
        rw [hs.out] at this; exact this
      have hg5 : Gone wr w.heap.size u3 (pk (l.take k)) u3 W1 := ⟨hown, Only.of_below Hb1.out _, .inl rfl⟩
      have Hg6 := Lib.hid (hg.out.trans (hg5.trans hg4))
      clear h2 h3 h5 hg4 hg5 hown hV
      go_wp2
      go_roundw
      case rel => exact ⟨k + 1, hlt, by go_num, Hg6⟩
      case measure => simp [intOf]; omega
    · obtain rfl : k = L := by omega
      have Hg1 : Hid (Gone w w.heap.size (.slice none 0 0) (pk l) u3 wr) := by have := hg.out; rw [He.out] at this; exact this
      clear hg
      go_wp2_with fail
      go_ret
      exact ⟨_, rfl, Hg1.out.own, hb.out⟩
end Go.Proofs.Ytnlbhlobnafggaa
