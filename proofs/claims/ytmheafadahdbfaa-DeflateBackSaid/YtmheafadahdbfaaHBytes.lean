/- Walks over layer 1: slices.Clone at bytes, the writer's Bytes and Len, NewWriter. -/
import Derived.Test.YtmheafadahdbfaaHBits
namespace Go.Proofs.Ytmheafadahdbfaa
open Go.RowKit Bit
set_option linter.unusedVariables false

/-- The bytes l cloned: nil stays nil. -/
theorem clone_any (a : Option Addr) (c : Nat) (l : List Nat) (w : World) (h : Nums .u8 w w.heap.size a l) (hl : l.length ≤ 1000000000000) (hc : a = none → c = 0 ∧ l = []) :
    Calls Try.prog 46 #[.slice a l.length c] w
      fun e w' => ∃ a' c', e = .returned (.slice a' l.length c') ∧ Nums .u8 w' w'.heap.size a' l ∧ Below w.heap.size w w' := by
  obtain ⟨i0, hi0, hz0, hz1, hz2⟩ := info_parts u8info
  have hnil : ∀ (W : World) (A : Option Addr) (m k : Nat), (binOp .eql 22 (.slice A m k) (.slice none 0 0)).run Try.prog W = .ok (.bool A.isNone) W := fun W A m k => by apply Lib.run_eql_slice_nil; exact Try.underlying22
  cases a with
  | none =>
    obtain ⟨rfl, rfl⟩ := hc rfl
    go_enter Try.func46, Try.ntmps46
    go_wp2_with fail
    go_ret
    exact ⟨none, ⟨_, rfl⟩, h, Below.refl _ _⟩
  | some A =>
    have Hl1 : Hid (0 + l.length ≤ maxLen) := by unfold Hid maxLen; omega
    have Hl2 : Hid ((0 + l.length) * 1 ≤ 140737488355328) := by unfold Hid; omega
    clear hc
    have hV : Vals (w.alloc (.cells #[] 5)) w.heap.size 1 (some A) l.length (u8s l) := (Vals.of_nums h).only ((Only.refl _ _).alloc _ : Only (fun _ => False) w _) (Nat.le_refl _) (fun _ _ h => h)
    have hown : ∀ t : TypeId, (w.alloc (.cells #[] t)).ownsRow w.heap.size t 1 (.slice (some ⟨w.heap.size, 0, none⟩) 0 0) 0 [] := fun t => ⟨rfl, .inr ⟨w.heap.size, 0, #[], rfl, Nat.le_refl _, heap_alloc_new _ _, Nat.le_refl _, Nat.zero_le _, rfl, rfl⟩⟩
    have Hone : Hid (∀ u ∈ u8s l, u.oneCell' = true) := by
      intro u hu
      simp only [u8s, List.mem_map] at hu
      obtain ⟨n, _, rfl⟩ := hu
      rfl
    go_enter Try.func46, Try.ntmps46
    go_wp2_with (at_builtin; refine app_vals rfl (.tmp 5) (.tmp 6) 22 rfl w.heap.size 5 i0 _ 1 1 Try.underlying22 hi0 hz0 hz1 hz2 rfl (by omega) (.slice (some ⟨w.heap.size, 0, none⟩) 0 0) 0 [] rfl (hown _) w.heap.size _ _ _ _ rfl hV Hone.out Hl1.out Hl2.out (by simp) ?_)
    intro v' w' h2 h3 h5
    obtain ⟨a', c', rfl, _, _, h6⟩ := Vals.of_own h2
    have hb : Below w.heap.size w w' := ((Only.refl (fun _ => False) w).alloc _ |>.trans (Only.of_grown (S := fun k => k = w.heap.size) h3 (fun b e => by simp [Value.ownBlock] at e; exact e.symm)) (fun b hb e => by omega)).below (fun _ _ h => h) (Nat.le_refl _)
    have hn := Vals.to_nums h6
    clear h2 h3 h5 h6
    go_wp2
    go_ret
    exact ⟨a', c', rfl, hn, hb⟩

/-- The writer's bytes: what it has written, padded with zero bits. -/
theorem wbytes_any (g N n : Nat) (v : Value) (w : World) (h : Wr w g v N n) (hn : n < 1000000000000) :
    Calls Try.prog 25 #[.pointer (some ⟨g, 0, none⟩)] w
      fun e w' => ∃ a c, e = .returned (.slice a (bytesOf N n).length c) ∧ Nums .u8 w' w'.heap.size a (bytesOf N n) ∧ Below w.heap.size w w' := by
  obtain ⟨hW, hown, hN, hne⟩ := h
  have hlen : (bytesOf N n).length ≤ 1000000000000 := by rw [bytesOf, bytesTo_length]; omega
  have hnil : v.ownBlock = none → v = .slice none 0 0 ∧ bytesOf N n = [] := by
    intro e
    obtain ⟨hl, (⟨rfl, h0⟩ | ⟨k, cap, cur, rfl, _⟩)⟩ := hown
    · exact ⟨rfl, List.eq_nil_of_length_eq_zero h0⟩
    · cases e
  obtain ⟨a, c, rfl, _, _, hV⟩ := Vals.of_own hown
  have hcl := Lib.hid (clone_any a c (bytesOf N n) w (Vals.to_nums hV) hlen (fun e => by subst e; obtain ⟨h1, h2⟩ := hnil rfl; injection h1 with _ _ h3; exact ⟨h3, h2⟩))
  have c0 := hW.cell 0
  have c0' : w.cell? ⟨g, 0, none⟩ = some (.slice a (bytesOf N n).length c) := c0
  clear c0 hnil hown hne hV hlen hN
  go_enter Try.func25, Try.ntmps25
  go_wp2_with (go_at_call 46; refine hcl.out.mono ?_; rintro e w' ⟨a', c', rfl, h1, h2⟩)
  go_ret
  exact ⟨a', c', rfl, h1, h2⟩

theorem newWriter_any (w : World) :
    Calls Try.prog 22 #[] w fun e w' => e = .returned (.pointer (some ⟨w.heap.size, 0, none⟩)) ∧ Wr w' w.heap.size (.slice none 0 0) 0 0 ∧ Below w.heap.size w w' := by
  go_enter Try.func22, Try.ntmps22
  go_wp2_with fail
  go_ret
  exact ⟨rfl, ⟨heap_alloc_new _ _, ⟨rfl, .inl ⟨rfl, rfl⟩⟩, by decide, by simp [Value.ownBlock]⟩, (Below.refl _ _).alloc (Nat.le_refl _) _⟩
end Go.Proofs.Ytmheafadahdbfaa
