/- Walks over layer 7: the reference's Same of equal fields. -/
import Derived.Test.YtnlbhlobnafggaaFields
import Derived.Test.YtnlbhlobnafggaaSameInts
namespace Go.Proofs.Ytnlbhlobnafggaa
open Go.RowKit Var
set_option linter.unusedVariables false
set_option maxRecDepth 100000

/-- The slice that begins at a reads as the fields fs. -/
def FAt (w : World) (B : Nat) (a : Option Addr) (fs : List F) : Prop :=
  ∀ i (h : i < fs.length), ∃ b off ad cc, a = some ⟨b, off, none⟩ ∧ b < B ∧ w.cell? ⟨b, off + i * 4, none⟩ = some (.int .i64 (fs[i].num : Int)) ∧ w.cell? ⟨b, off + i * 4 + 1, none⟩ = some (.int .i64 (fs[i].kind : Int)) ∧
    w.cell? ⟨b, off + i * 4 + 2, none⟩ = some (.int .u64 (fs[i].int : Int)) ∧ w.cell? ⟨b, off + i * 4 + 3, none⟩ = some (.slice ad fs[i].data.length cc) ∧ Nums .u8 w B ad fs[i].data
theorem FAt.below {w w' : World} {B : Nat} {a : Option Addr} {fs : List F} (h : FAt w B a fs) (hb : Below B w w') : FAt w' B a fs := fun i hi => by
  obtain ⟨b, off, ad, cc, e, hbl, c0, c1, c2, c3, hd⟩ := h i hi
  exact ⟨b, off, ad, cc, e, hbl, (hb.cell hbl).trans c0, (hb.cell hbl).trans c1, (hb.cell hbl).trans c2, (hb.cell hbl).trans c3, hd.below hb⟩
theorem FAt.more {w : World} {B B' : Nat} {a : Option Addr} {fs : List F} (h : FAt w B a fs) (hB : B ≤ B') : FAt w B' a fs := fun i hi => by
  obtain ⟨b, off, ad, cc, e, hbl, c0, c1, c2, c3, hd⟩ := h i hi
  exact ⟨b, off, ad, cc, e, by omega, c0, c1, c2, c3, hd.more hB⟩
theorem OwnF.fat {w : World} {base : Nat} {v : Value} {fs : List F} (h : OwnF w base v fs) : ∃ a c, v = .slice a fs.length c ∧ fs.length ≤ c ∧ FAt w w.heap.size a fs := by
  obtain ⟨xs, h1, h2⟩ := h
  obtain ⟨a, c, rfl, h3, _, hV⟩ := Vals.of_own h1
  refine ⟨a, c, rfl, h3, fun i hi => ?_⟩
  obtain ⟨ad, cc, e0, e1, e2, e3, hd⟩ := h2 i hi
  have hl := hV.1
  obtain ⟨b, off, rfl, hb, hc⟩ := hV.2 (by omega)
  refine ⟨b, off, ad, cc, rfl, hb, ?_, ?_, ?_, ?_, hd.nums⟩
  · rw [hc (i * 4) (by omega), Nat.mul_comm i 4]; exact e0
  · rw [Nat.add_assoc, hc (i * 4 + 1) (by omega), Nat.mul_comm i 4]; exact e1
  · rw [Nat.add_assoc, hc (i * 4 + 2) (by omega), Nat.mul_comm i 4]; exact e2
  · rw [Nat.add_assoc, hc (i * 4 + 3) (by omega), Nat.mul_comm i 4]; exact e3

theorem str_drew {w : World} {B : Nat} {a : Option Addr} {c : Nat} {l : List Nat} (h : Nums .u8 w B a l) (hl : ∀ x ∈ l, x < 256) : ∀ n, (convert 23 9 (.slice a l.length c)).run Try.prog (w.drewN n) = .ok (.string (strOf l)) (w.drewN n) := fun n =>
  str_of_nums (w.drewN n) B 23 9 5 a c l Try.underlying23 Try.underlying5 Try.underlying9 h hl

set_option maxHeartbeats 8000000 in
theorem sameF_eq (a b : Option Addr) (c d : Nat) (l : List F) (w : World) (ha : FAt w w.heap.size a l) (hb : FAt w w.heap.size b l) (hl : l.length ≤ 1000000) (hd : ∀ f ∈ l, ∀ x ∈ f.data, x < 256) :
    Calls Try.prog 20 #[.slice a l.length c, .slice b l.length d] w (Yes w) := by
  obtain ⟨L, hL⟩ : ∃ L, L = l.length := ⟨_, rfl⟩
  have HA := Lib.hid ha
  have HB := Lib.hid hb
  have HD := Lib.hid hd
  have HL := Lib.hid hL
  rw [← hL] at hl ⊢
  clear hL ha hb hd
  go_enter Try.func20, Try.ntmps20
  go_wp2_with fail
  go_loopw [5] (fun i W => ∃ k : Nat, k ≤ L ∧ i = .int .i64 (k : Int) ∧ Hid (Below w.heap.size w W)) (fun i _ => L - (intOf i).toNat)
  case atStart => exact ⟨0, Nat.zero_le _, rfl, Below.refl _ _⟩
  case round =>
    obtain ⟨k, hk, rfl, hbw⟩ := hrel
    by_cases hlt : k < L
    · have hkl : k < l.length := by have := HL.out; omega
      obtain ⟨b1, o1, ad1, cc1, rfl, h1, p0, p1, p2, p3, pd⟩ := (HA.out.below hbw.out) k hkl
      obtain ⟨b2, o2, ad2, cc2, rfl, h2, q0, q1, q2, q3, qd⟩ := (HB.out.below hbw.out) k hkl
      have hdd := HD.out l[k] (List.getElem_mem hkl)
      generalize l[k]'hkl = f at *
      have S1 := Lib.hid (str_drew (c := cc1) pd hdd)
      have S2 := Lib.hid (str_drew (c := cc2) qd hdd)
      obtain ⟨num, kind, int, data⟩ := f
      simp only at p0 p1 p2 p3 q0 q1 q2 q3 S1 S2
      have hk0 : (0 : Int) ≤ (k : Int) := by omega
      have hk1 : (k : Int) < (L : Int) := by omega
      have hnn : ((num : Int) != (num : Int)) = false := by simp
      have hkk : ((kind : Int) != (kind : Int)) = false := by simp
      have hii : ((int : Int) != (int : Int)) = false := by simp
      generalize data.length = m at *
      clear pd qd hdd
      go_wp2_with fail
      go_quiet (fail)
      go_wp2_with fail
      by_cases hk2 : kind = 2
      · subst hk2
        have s1 := S1.out
        have s2 := S2.out
        have hss : ((strOf data).toList != (strOf data).toList) = false := by simp
        go_quiet (fail)
        clear s1 s2 hss
        go_wp2_with fail
        go_roundw
        case rel => exact ⟨k + 1, hlt, by go_num, belowDrewN hbw.out _⟩
        case measure => simp [intOf]; omega
      · have hk3 : ((kind : Int) == 2) = false := by simp; omega
        have hk4 : ((kind : Int) != 2) = true := by simp; omega
        go_quiet (fail)
        go_wp2_with fail
        go_roundw
        case rel => exact ⟨k + 1, hlt, by go_num, belowDrewN hbw.out _⟩
        case measure => simp [intOf]; omega
    · obtain rfl : k = L := by omega
      go_wp2_with fail
      go_ret
      exact ⟨rfl, hbw.out⟩
end Go.Proofs.Ytnlbhlobnafggaa
