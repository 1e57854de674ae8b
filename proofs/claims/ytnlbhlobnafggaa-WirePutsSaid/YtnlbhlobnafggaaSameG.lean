/- Walks over layer 7: Same of any two lists of fields, the program's and the reference's. -/
import Derived.Test.YtnlbhlobnafggaaPut
import Derived.Test.YtnlbhlobnafggaaHeld
namespace Go.Proofs.Ytnlbhlobnafggaa
open Go.RowKit Var
set_option linter.unusedVariables false
set_option maxRecDepth 100000

/-- Are two texts the same, as Go asks. -/
def sb (d e : List Nat) : Bool := (strOf d).toList == (strOf e).toList
def sm1 (f g : G) : Bool := if f.num ≠ g.num then false else if f.kind ≠ g.kind then false else if f.kind = 2 then sb f.data g.data else decide (f.int = g.int)
def sm : List G → List G → Bool
  | [], [] => true
  | f :: fs, g :: gs => sm1 f g && sm fs gs
  | _, _ => false
theorem sm_len : ∀ (l m : List G), l.length ≠ m.length → sm l m = false
  | [], [], h => by simp at h
  | [], _ :: _, _ => rfl
  | _ :: _, [], _ => rfl
  | f :: l, g :: m, h => by simp only [sm]; rw [sm_len l m (by simpa using h)]; simp
theorem sm_drop {l m : List G} {k : Nat} (h : k < l.length) (h' : k < m.length) : sm (l.drop k) (m.drop k) = (sm1 l[k] m[k] && sm (l.drop (k + 1)) (m.drop (k + 1))) := by
  rw [List.drop_eq_getElem_cons h, List.drop_eq_getElem_cons h', sm]

def Says (b : Bool) (w : World) (e : Ending) (w' : World) : Prop := e = .returned (.bool b) ∧ Below w.heap.size w w'

theorem bytesEqual_any (a b : Option Addr) (c d : Nat) (l m : List Nat) (w : World) (ha : Nums .u8 w w.heap.size a l) (hb : Nums .u8 w w.heap.size b m) (hl : ∀ x ∈ l, x < 256) (hm : ∀ x ∈ m, x < 256) :
    Calls Try.prog 40 #[.slice a l.length c, .slice b m.length d] w (Says (sb l m) w) := by
  have h1 := str_of_nums (P := Try.prog) w w.heap.size 23 9 5 a c l Try.underlying23 Try.underlying5 Try.underlying9 ha hl
  have h2 := str_of_nums (P := Try.prog) w w.heap.size 23 9 5 b d m Try.underlying23 Try.underlying5 Try.underlying9 hb hm
  have hs : Hid (((strOf l).toList == (strOf m).toList) = sb l m) := rfl
  generalize sb l m = S at *
  clear ha hb hl hm
  go_enter Try.func40, Try.ntmps40
  go_wp2_with fail
  go_ret
  exact ⟨ret_bool hs.out, Below.refl _ _⟩

set_option maxHeartbeats 2000000 in
theorem sameField_any (f g : G) (a b : Option Addr) (c d : Nat) (w : World) (ha : Nums .u8 w w.heap.size a f.data) (hb : Nums .u8 w w.heap.size b g.data) (hl : ∀ x ∈ f.data, x < 256) (hm : ∀ x ∈ g.data, x < 256) :
    Calls Try.prog 37 #[.agg #[.int .i64 f.num, .int .i64 f.kind, .int .u64 (f.int : Int), .slice a f.data.length c], .agg #[.int .i64 g.num, .int .i64 g.kind, .int .u64 (g.int : Int), .slice b g.data.length d]] w (Says (sm1 f g) w) := by
  obtain ⟨n1, k1, i1, d1⟩ := f
  obtain ⟨n2, k2, i2, d2⟩ := g
  simp only at *
  have Hbe : Hid (∀ W, Below w.heap.size w W → Calls Try.prog 40 #[.slice a d1.length c, .slice b d2.length d] W (Says (sb d1 d2) W)) := fun W h => bytesEqual_any a b c d d1 d2 W ((ha.below h).more h.size) ((hb.below h).more h.size) hl hm
  have hb2 : Below w.heap.size w ((w.alloc (.cells #[.int .i64 n1, .int .i64 k1, .int .u64 (i1 : Int), .slice a d1.length c] 55)).alloc (.cells #[.int .i64 n2, .int .i64 k2, .int .u64 (i2 : Int), .slice b d2.length d] 55)) := ((Below.refl _ _).alloc (Nat.le_refl _) _).alloc (by simp) _
  have Hb2 := Lib.hid hb2
  generalize d1.length = m1 at *
  generalize d2.length = m2 at *
  clear ha hb hl hm hb2
  by_cases hn : n1 = n2
  · subst hn
    by_cases hk : k1 = k2
    · subst hk
      have q1 : (n1 != n1) = false := by simp
      have q2 : (k1 != k1) = false := by simp
      by_cases h2 : k1 = 2
      · subst h2
        have e : sm1 ⟨n1, 2, i1, d1⟩ ⟨n1, 2, i2, d2⟩ = sb d1 d2 := by simp [sm1]
        rw [e]
        go_enter Try.func37, Try.ntmps37
        go_wp2_with fail
        refine (Hbe.out _ Hb2.out).mono ?_
        rintro e W ⟨rfl, hbw⟩
        go_wp2_with fail
        go_ret
        exact ⟨rfl, keepBelow hbw Hb2.out⟩
      · have e : sm1 ⟨n1, k1, i1, d1⟩ ⟨n1, k1, i2, d2⟩ = decide (i1 = i2) := by simp [sm1, h2]
        have q3 : (k1 == 2) = false := by simp [h2]
        have e2 : Hid (((i1 : Int) == (i2 : Int)) = decide (i1 = i2)) := by show _ = _; rw [Bool.eq_iff_iff]; simp; omega
        rw [e]
        generalize decide (i1 = i2) = S at *
        clear h2 e
        go_enter Try.func37, Try.ntmps37
        go_wp2_with fail
        go_ret
        exact ⟨ret_bool e2.out, Hb2.out⟩
    · have e : sm1 ⟨n1, k1, i1, d1⟩ ⟨n1, k2, i2, d2⟩ = false := by simp [sm1, hk]
      have q1 : (n1 != n1) = false := by simp
      have q2 : (k1 != k2) = true := by simp [hk]
      rw [e]
      clear hk e
      go_enter Try.func37, Try.ntmps37
      go_wp2_with fail
      go_ret
      exact ⟨rfl, Hb2.out⟩
  · have e : sm1 ⟨n1, k1, i1, d1⟩ ⟨n2, k2, i2, d2⟩ = false := by simp [sm1, hn]
    have q1 : (n1 != n2) = true := by simp [hn]
    rw [e]
    clear hn e
    go_enter Try.func37, Try.ntmps37
    go_wp2_with fail
    go_ret
    exact ⟨rfl, Hb2.out⟩

set_option maxHeartbeats 4000000 in
theorem equalFunc_any (a b : Option Addr) (c d : Nat) (l m : List G) (w : World) (ha : GAt w w.heap.size a l) (hb : GAt w w.heap.size b m) (hl : l.length ≤ 1000000) (hm : m.length ≤ 1000000) (hld : ∀ g ∈ l, ∀ x ∈ g.data, x < 256) (hmd : ∀ g ∈ m, ∀ x ∈ g.data, x < 256) :
    Calls Try.prog 36 #[.slice a l.length c, .slice b m.length d, .func (.func 37) #[] #[]] w (Says (sm l m) w) := by
  by_cases hlen : l.length = m.length
  · obtain ⟨L, hL⟩ : ∃ L, L = l.length := ⟨_, rfl⟩
    have HL : Hid (L = l.length) := hL
    have HM : Hid (L = m.length) := hL.trans hlen
    have HA := Lib.hid ha
    have HB := Lib.hid hb
    have HLD := Lib.hid hld
    have HMD := Lib.hid hmd
    have He : Hid (sm (l.drop L) (m.drop L) = true) := by show _ = _; rw [List.drop_eq_nil_of_le (by omega), List.drop_eq_nil_of_le (by omega)]; rfl
    obtain ⟨R, hR⟩ : ∃ R, sm l m = R := ⟨_, rfl⟩
    have H0 : Hid (sm (l.drop 0) (m.drop 0) = R) := by show _ = _; simpa using hR
    rw [hR, ← hlen, ← hL]
    rw [← hL] at hl
    clear hL ha hb hld hmd hlen hm hR
    have hLL : ((L : Int) != (L : Int)) = false := by simp
    go_enter Try.func36, Try.ntmps36
    go_wp2_with fail
    go_loopw [17] (fun i W => ∃ k : Nat, k ≤ L ∧ i = .int .i64 (k : Int) ∧ Hid (sm (l.drop k) (m.drop k) = R) ∧ Hid (Below w.heap.size w W)) (fun i _ => L - (intOf i).toNat)
    case atStart => exact ⟨0, Nat.zero_le _, rfl, H0, Below.refl _ _⟩
    case round =>
      obtain ⟨k, hk, rfl, hs, hbw⟩ := hrel
      by_cases hlt : k < L
      · have hkl : k < l.length := by have := HL.out; omega
        have hkm : k < m.length := by have := HM.out; omega
        obtain ⟨b1, o1, ad1, cc1, rfl, h1, p0, p1, p2, p3, pd⟩ := (HA.out.below hbw.out) k hkl
        obtain ⟨b2, o2, ad2, cc2, rfl, h2, q0, q1, q2, q3, qd⟩ := (HB.out.below hbw.out) k hkm
        have hd1 := HLD.out l[k] (List.getElem_mem hkl)
        have hd2 := HMD.out m[k] (List.getElem_mem hkm)
        have hs2 := hs.out
        rw [sm_drop hkl hkm] at hs2
        have hwb := hbw.out.size
        have h1' : b1 < wr.heap.size := by omega
        have h2' : b2 < wr.heap.size := by omega
        generalize l[k]'hkl = f at *
        generalize m[k]'hkm = g at *
        have Hsf : Hid (∀ W, Below wr.heap.size wr W → Calls Try.prog 37 #[.agg #[.int .i64 f.num, .int .i64 f.kind, .int .u64 (f.int : Int), .slice ad1 f.data.length cc1], .agg #[.int .i64 g.num, .int .i64 g.kind, .int .u64 (g.int : Int), .slice ad2 g.data.length cc2]] W (Says (sm1 f g) W)) := fun W h =>
          sameField_any f g ad1 ad2 cc1 cc2 W ((pd.below (h.mono hwb)).more (Nat.le_trans hwb h.size)) ((qd.below (h.mono hwb)).more (Nat.le_trans hwb h.size)) hd1 hd2
        have Hs2 := Lib.hid hs2
        have hk0 : (0 : Int) ≤ (k : Int) := by omega
        have hk1 : (k : Int) < (L : Int) := by omega
        generalize f.num = fn at *
        generalize f.kind = fk at *
        generalize f.int = fi at *
        generalize f.data.length = fd at *
        generalize g.num = gn at *
        generalize g.kind = gk at *
        generalize g.int = gi at *
        generalize g.data.length = gd at *
        generalize sm1 f g = S at *
        clear pd qd hd1 hd2 hs hs2
        go_wp2_with fail
        refine (Hsf.out _ (by go_grown)).mono ?_
        rintro e W ⟨rfl, hw2⟩
        have HW : Hid (Below w.heap.size w W) := keepBelow hw2 (by have := hbw.out; go_grown)
        clear hw2 p0 p1 p2 p3 q0 q1 q2 q3
        cases S
        · have hR : false = R := by have := Hs2.out; simpa using this
          have HR := Lib.hid hR
          clear hR
          go_wp2_with fail
          go_ret
          exact ⟨by rw [← HR.out]; rfl, HW.out⟩
        · have hR : Hid (sm (l.drop (k + 1)) (m.drop (k + 1)) = R) := by have := Hs2.out; simpa [Hid] using this
          go_wp2_with fail
          go_roundw
          case rel => exact ⟨k + 1, hlt, by go_num, hR, HW⟩
          case measure => simp [intOf]; omega
      · obtain rfl : k = L := by omega
        have hR : true = R := by have := hs.out; rw [He.out] at this; exact this
        have HR := Lib.hid hR
        clear hR hs
        go_wp2_with fail
        go_ret
        exact ⟨by rw [← HR.out]; rfl, hbw.out⟩
  · rw [sm_len l m hlen]
    have hne : ((l.length : Int) != (m.length : Int)) = true := by simp; omega
    generalize l.length = L at *
    generalize m.length = M at *
    clear hlen ha hb hld hmd
    go_enter Try.func36, Try.ntmps36
    go_wp2_with fail
    go_ret
    exact ⟨rfl, Below.refl _ _⟩

theorem same_any (a b : Option Addr) (c d : Nat) (l m : List G) (w : World) (ha : GAt w w.heap.size a l) (hb : GAt w w.heap.size b m) (hl : l.length ≤ 1000000) (hm : m.length ≤ 1000000) (hld : ∀ g ∈ l, ∀ x ∈ g.data, x < 256) (hmd : ∀ g ∈ m, ∀ x ∈ g.data, x < 256) :
    Calls Try.prog 24 #[.slice a l.length c, .slice b m.length d] w (Says (sm l m) w) := by
  have H := Lib.hid (equalFunc_any a b c d l m w ha hb hl hm hld hmd)
  generalize sm l m = R at *
  generalize l.length = L at *
  generalize m.length = M at *
  clear ha hb hld hmd
  go_enter Try.func24, Try.ntmps24
  go_wp2_with fail
  refine H.out.mono ?_
  rintro e W ⟨rfl, hw⟩
  go_wp2_with fail
  go_ret
  exact ⟨rfl, hw⟩
end Go.Proofs.Ytnlbhlobnafggaa
