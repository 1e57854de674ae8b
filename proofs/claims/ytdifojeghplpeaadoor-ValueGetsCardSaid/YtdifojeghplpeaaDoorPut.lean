/- Walks over layer 7: Put. -/
import Derived.Test.YtdifojeghplpeaaDoorPutAll

namespace Go.Proofs.YtdifojeghplpeaaDoor
open Go.RowKit Var
set_option linter.unusedVariables false
set_option maxRecDepth 100000

/-- A field as Go holds it. -/
structure G where
  num : Int
  kind : Int
  int : Nat
  data : List Nat
def G.ok (g : G) : Prop := (-9223372036854775808 ≤ g.num ∧ g.num < 9223372036854775808) ∧ (-9223372036854775808 ≤ g.kind ∧ g.kind < 9223372036854775808) ∧ g.int < 18446744073709551616 ∧ g.data.length ≤ 100000000 ∧ ∀ x ∈ g.data, x < 256
def Var.F.g (f : F) : G := ⟨f.num, f.kind, f.int, f.data⟩
def G.bytes (g : G) : List Nat := pfI g.num g.kind g.int g.data
def pgs (l : List G) : List Nat := (l.map G.bytes).flatten
theorem pgs_snoc (l : List G) (f : G) : pgs (l ++ [f]) = pgs l ++ f.bytes := by simp [pgs]
theorem fbytes (f : F) (m : Nat) (h : FOk f m) : f.g.bytes = pf f := by
  have hh : headOf (f.num : Int) f.kind = hdN f := by
    have := h.num
    unfold headOf hdN
    have : ((f.num : Int) % 536870912).toNat = f.num := by omega
    rw [this]
  unfold G.bytes F.g pfI pf
  rcases h.kind with e | e | e | e <;> simp only [e] at hh ⊢ <;> simp [hh]
theorem pgs_pfs (m : Nat) : ∀ (l : List F), (∀ f ∈ l, FOk f m) → pgs (l.map F.g) = pfs l
  | [], _ => rfl
  | f :: l, h => by
    have h1 := pgs_pfs m l (fun x hx => h x (List.mem_cons_of_mem _ hx))
    have h2 := fbytes f m (h f (List.mem_cons_self ..))
    simp only [pgs, List.map_cons, List.flatten_cons] at h1 ⊢
    rw [pfs_cons, h1, h2]
theorem fgok (f : F) (m : Nat) (h : FOk f m) (hm : m ≤ 100000000) : f.g.ok := by
  have h1 := h.num
  have h2 : f.kind ≤ 5 := by rcases h.kind with e | e | e | e <;> omega
  refine ⟨?_, ?_, h.int, Nat.le_trans h.data.2 hm, h.data.1⟩
  · show -9223372036854775808 ≤ (f.num : Int) ∧ (f.num : Int) < 9223372036854775808; omega
  · show -9223372036854775808 ≤ (f.kind : Int) ∧ (f.kind : Int) < 9223372036854775808; omega

/-- The slice that begins at a reads as the fields gs. -/
def GAt (w : World) (B : Nat) (a : Option Addr) (gs : List G) : Prop :=
  ∀ i (h : i < gs.length), ∃ b off ad cc, a = some ⟨b, off, none⟩ ∧ b < B ∧ w.cell? ⟨b, off + i * 4, none⟩ = some (.int .i64 gs[i].num) ∧ w.cell? ⟨b, off + i * 4 + 1, none⟩ = some (.int .i64 gs[i].kind) ∧
    w.cell? ⟨b, off + i * 4 + 2, none⟩ = some (.int .u64 (gs[i].int : Int)) ∧ w.cell? ⟨b, off + i * 4 + 3, none⟩ = some (.slice ad gs[i].data.length cc) ∧ Nums .u8 w B ad gs[i].data
theorem GAt.below {w w' : World} {B : Nat} {a : Option Addr} {fs : List G} (h : GAt w B a fs) (hb : Below B w w') : GAt w' B a fs := fun i hi => by
  obtain ⟨b, off, ad, cc, e, hbl, c0, c1, c2, c3, hd⟩ := h i hi
  exact ⟨b, off, ad, cc, e, hbl, (hb.cell hbl).trans c0, (hb.cell hbl).trans c1, (hb.cell hbl).trans c2, (hb.cell hbl).trans c3, hd.below hb⟩
theorem GAt.more {w : World} {B B' : Nat} {a : Option Addr} {fs : List G} (h : GAt w B a fs) (hB : B ≤ B') : GAt w B' a fs := fun i hi => by
  obtain ⟨b, off, ad, cc, e, hbl, c0, c1, c2, c3, hd⟩ := h i hi
  exact ⟨b, off, ad, cc, e, by omega, c0, c1, c2, c3, hd.more hB⟩

theorem pgs_take (l : List G) (k : Nat) (h : k < l.length) : pgs (l.take (k + 1)) = pgs (l.take k) ++ l[k].bytes := by
  rw [List.take_succ_eq_append_getElem h, pgs_snoc]
theorem pgs_take_le (l : List G) (k : Nat) : (pgs (l.take k)).length ≤ (pgs l).length := by
  have : pgs l = pgs (l.take k) ++ pgs (l.drop k) := by
    unfold pgs; rw [← List.flatten_append, ← List.map_append, List.take_append_drop]
  rw [this]; simp

set_option maxHeartbeats 4000000 in
theorem put_any (a : Option Addr) (c : Nat) (l : List G) (w : World) (h : GAt w w.heap.size a l) (hok : ∀ g ∈ l, g.ok) (hlen : l.length ≤ 1000000) (hl : (pgs l).length ≤ 100000000) :
    Calls Tryd.prog 24 #[.slice a l.length c] w (PutPost w (pgs l)) := by
  obtain ⟨L, hL⟩ : ∃ L, L = l.length := ⟨_, rfl⟩
  have HL : Hid (L = l.length) := hL
  have HA := Lib.hid h
  have HO := Lib.hid hok
  have Hp : Hid (∀ k, (pgs (l.take k)).length ≤ 100000000) := fun k => Nat.le_trans (pgs_take_le l k) hl
  have He : Hid (l.take L = l) := by show _ = _; rw [hL]; simp
  rw [← hL] at hlen ⊢
  clear hL h hok hl
  go_enter Tryd.func24, Tryd.ntmps24
  go_wp2_with fail
  go_loopw [3, 8] (fun u i W => ∃ k : Nat, k ≤ L ∧ i = .int .i64 (k : Int) ∧ Hid (Gone w w.heap.size (.slice none 0 0) (pgs (l.take k)) u W)) (fun _ i _ => L - (intOf i).toNat)
  case atStart => exact ⟨0, Nat.zero_le _, rfl, Gone.refl (Own8.nil_ _ _)⟩
  case round =>
    obtain ⟨k, hk, rfl, hg⟩ := hrel
    have hb : Hid (Below w.heap.size w wr) := hg.out.below (Own8.nil_ w _) (Nat.le_refl _)
    by_cases hlt : k < L
    · have hkl : k < l.length := by have := HL.out; omega
      obtain ⟨b, off, ad, cc, rfl, hbl, c0, c1, c2, c3, hd⟩ := (HA.out.below hb.out) k hkl
      obtain ⟨o1, o2, o3, o4, o5⟩ := HO.out l[k] (List.getElem_mem hkl)
      have hs := Lib.hid (pgs_take l k hkl)
      have hkk := Hp.out k
      generalize l[k]'hkl = g at *
      have hwb := hg.out.only.size
      have Hput : Hid (∀ W, Below wr.heap.size wr W → Calls Tryd.prog 38 #[u3, .agg #[.int .i64 g.num, .int .i64 g.kind, .int .u64 (g.int : Int), .slice ad g.data.length cc]] W (AddPost W w.heap.size u3 (pgs (l.take k) ++ g.bytes))) := fun W hW =>
        putField_any w.heap.size u3 _ g.num g.kind g.int ad cc g.data W (hg.out.own.below hW) hkk (Nat.le_trans hwb hW.size) (hd.below (hW.mono hwb)) o4 o3 o1 o2
      generalize g.data.length = m at *
      generalize g.num = g1 at *
      generalize g.kind = g2 at *
      generalize g.int = g3 at *
      clear hkk o1 o2 o3 o4 o5 hd
      go_wp2_with fail
      refine (Hput.out _ (by go_grown)).mono ?_
      rintro e W1 ⟨v1, rfl, hg1⟩
      rw [← hs.out] at hg1
      have Hg1 := Lib.hid (hg.out.trans (hg1.boxed hg.out.own))
      clear hg1 Hput c0 c1 c2 c3
      go_wp2_with fail
      go_roundw
      case rel => exact ⟨k + 1, hlt, by go_num, Hg1⟩
      case measure => simp [intOf]; omega
    · obtain rfl : k = L := by omega
      have Hg1 : Hid (Gone w w.heap.size (.slice none 0 0) (pgs l) u3 wr) := by have := hg.out; rw [He.out] at this; exact this
      clear hg
      go_wp2_with fail
      go_ret
      exact ⟨_, rfl, Hg1.out.own, hb.out⟩
end Go.Proofs.YtdifojeghplpeaaDoor
