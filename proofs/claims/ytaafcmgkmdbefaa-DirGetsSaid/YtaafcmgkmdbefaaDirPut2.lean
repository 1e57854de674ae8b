/- Walks over layer 12: Put. -/
import Derived.Test.YtaafcmgkmdbefaaDirPut1
namespace Go.Proofs.Ytaafcmgkmdbefaa
open Go.RowKit Var
set_option linter.unusedVariables false
set_option maxRecDepth 100000

def vbs (l : List Nat) : List Nat := l.flatMap vb
theorem vbs_cons (x : Nat) (l : List Nat) : vbs (x :: l) = vb x ++ vbs l := by simp [vbs]
def gaps : Nat → List En → List Nat
  | _, [] => []
  | b, e :: l => (e.id - b) :: gaps e.id l
/-- The number that stands for an offset. -/
def offE (p : Option En) (e : En) : Nat := match p with
  | none => e.off + 1
  | some q => if e.off = q.off + q.len then 0 else e.off + 1
def offs : Option En → List En → List Nat
  | _, [] => []
  | p, e :: l => offE p e :: offs (some e) l
def putE (l : List En) : List Nat := vb l.length ++ vbs (gaps 0 l) ++ vbs (l.map En.run) ++ vbs (l.map En.len) ++ vbs (offs none l)
theorem wtr_alloc {w : World} {base g : Nat} {v : Value} {l : List Nat} (h : Wtr w base g v l) (o : Obj) : Wtr (w.alloc o) base g v l := ⟨h.1.alloc o, h.2.1.alloc o, h.2.2⟩
theorem wtr_below {w X : World} {base g : Nat} {v : Value} {l : List Nat} (h : Wtr w base g v l) (hg : base ≤ g) (hO : Only (touchW g v) w X) (hB : base ≤ w.heap.size) : Below base w X :=
  hO.below (fun b hb e => by
    rcases e with e | e
    · omega
    · have := (h.2.1.lt b e).1; omega) hB
theorem wtr_step {w W X : World} {g : Nat} {v : Value} {l m : List Nat} {t : TypeId} {cs : Array Value} {e : Ending} (h : Wtr W w.heap.size g v l) (hg : w.heap.size ≤ g) (hb : Below w.heap.size w W) (hp : WPost (W.alloc (.cells cs t)) w.heap.size g v m e X) :
    ∃ v', Wtr X w.heap.size g v' m ∧ Below w.heap.size w X ∧ Whole X W.heap.size t cs := by
  obtain ⟨_, v', h1, h2, _⟩ := hp
  have ha := wtr_alloc h (.cells cs t)
  have hba : Below w.heap.size w (W.alloc (.cells cs t)) := below_then hb ((Below.refl _ _).alloc (Nat.le_refl _) _) hb.size
  refine ⟨v', h1, hba.trans (wtr_below ha hg h2 hba.size), (Whole.new W t cs).only h2 (fun e => ?_)⟩
  rcases e with e | e
  · have := h.1.lt; omega
  · have := (h.2.1.lt _ e).2; omega
theorem idok {l : List En} (h : ∀ s ∈ l, s.ok) (i : Nat) (hi : i < l.length) : (l[i]).ok := h _ (List.getElem_mem hi)
def before (l : List En) (k : Nat) : Nat := match prv l k with
  | none => 0
  | some q => q.id
theorem before_le {l : List En} (hs : srt l) (k : Nat) (hk : k < l.length) : before l k ≤ (l[k]).id := by
  cases k with
  | zero => exact Nat.zero_le _
  | succ k =>
    have : before l (k + 1) = (l[k]'(by omega)).id := by unfold before; rw [prv_next l k (by omega)]
    rw [this]
    exact Nat.le_of_lt (hs k (k + 1) (by omega) hk (by omega))
theorem before_next {l : List En} (k : Nat) (hk : k < l.length) : before l (k + 1) = (l[k]).id := by unfold before; rw [prv_next l k hk]

theorem wtr_drewn {w : World} {base g : Nat} {v : Value} {l : List Nat} (h : Wtr w base g v l) (n : Nat) : Wtr (w.drewN n) base g v l := h
theorem wtr_step4 {w W X : World} {g n : Nat} {v : Value} {l m : List Nat} {t : TypeId} {cs : Array Value} {e : Ending} (h : Wtr W w.heap.size g v l) (hg : w.heap.size ≤ g) (hb : Below w.heap.size w W) (hp : WPost ((W.alloc (.cells cs t)).drewN n) w.heap.size g v m e X) :
    ∃ v', Wtr X w.heap.size g v' m ∧ Below w.heap.size w X := by
  obtain ⟨_, v', h1, h2, _⟩ := hp
  have ha := wtr_drewn (wtr_alloc h (.cells cs t)) n
  have hba : Below w.heap.size w ((W.alloc (.cells cs t)).drewN n) := below_drawnE (below_then hb ((Below.refl _ _).alloc (Nat.le_refl _) _) hb.size) n
  exact ⟨v', h1, hba.trans (wtr_below ha hg h2 hba.size)⟩
def PutOut (w : World) (l : List Nat) (r : Int) (e : Ending) (w' : World) : Prop := ∃ v, e = .returned (.tuple #[v, .int .i64 r]) ∧ Own8 w' w.heap.size v l ∧ Below w.heap.size w w'
set_option maxHeartbeats 4000000 in
theorem dput_no (v : Value) (l : List En) (w : World) (h : RdE w w.heap.size v l) (hl : l.length ≤ 100000000) (hr : rightE l = false) : Calls Try.prog 7 #[v] w (PutOut w [] 3) := by
  have Hr := Lib.hid (right_any v l w h hl false hr)
  obtain ⟨a, c, rfl, _, _, ha, hok⟩ := h
  clear ha hok hr hl
  go_enter Try.func7, Try.ntmps7
  go_wp2_with fail
  refine Hr.out.mono ?_
  rintro e X1 ⟨rfl, hX⟩
  have HX := Lib.hid hX
  clear hX
  go_wp2_with fail
  go_ret2
  exact ⟨_, rfl, Own8.nil_ _ _, HX.out⟩

set_option maxHeartbeats 16000000 in
theorem dput_yes (v : Value) (l : List En) (w : World) (h : RdE w w.heap.size v l) (hr : rightE l = true) (hl1 : l.length ≤ 10000) (R : List Nat) (hR : putE l = R) : Calls Try.prog 7 #[v] w (PutOut w R 0) := by
  obtain ⟨hlen, hone, hsrt⟩ := right_all hr
  have Hr := Lib.hid (right_any v l w h (by omega) true hr)
  obtain ⟨a, c, rfl, _, _, ha, hok⟩ := h
  obtain ⟨L, hL⟩ : ∃ L, L = l.length := ⟨_, rfl⟩
  have HA := Lib.hid ha
  have HL := Lib.hid hL
  have Hone := Lib.hid hone
  have Hsrt := Lib.hid hsrt
  have HR := Lib.hid hR
  rw [← hL] at Hr hlen hl1 ⊢
  have n0 : IntKind.u64.wrap (L : Int) = (L : Int) := IntWalk.u64_in _ ⟨by omega, by omega⟩
  clear ha hok hr hL hone hsrt hR
  go_enter Try.func7, Try.ntmps7
  go_wp2_with fail
  refine Hr.out.mono ?_
  rintro e X1 ⟨rfl, hX⟩
  have HX1 := Lib.hid hX
  clear hX Hr
  go_upto_region 4 with (fail)
  obtain ⟨g, hg⟩ : ∃ g, g = X1.heap.size := ⟨_, rfl⟩
  obtain ⟨X2, hX2⟩ : ∃ X, X = X1.alloc (.cells #[.slice none 0 0] 45) := ⟨_, rfl⟩
  have HW0 : Hid (Wtr X2 w.heap.size g (.slice none 0 0) []) := by rw [hX2, hg]; exact ⟨Whole.new X1 _ _, Own8.nil_ _ _, by simp [Value.ownBlock]⟩
  have HB0 : Hid (Below w.heap.size w X2) := by rw [hX2]; exact below_then HX1.out ((Below.refl _ _).alloc (Nat.le_refl _) _) HX1.out.size
  have Hg : Hid (w.heap.size ≤ g) := by show _ ≤ _; rw [hg]; exact HX1.out.size
  rw [← hX2, ← hg]
  clear hX2 hg
  go_wp2_with fail
  refine (put_any w.heap.size g _ [] L X2 HW0.out (by simp) (by omega) HB0.out.size).mono ?_
  rintro e X3 hp
  have he := hp.1
  subst he
  obtain ⟨_, v3, hw3, hO3, _⟩ := hp
  have HB3 := Lib.hid (HB0.out.trans (wtr_below HW0.out Hg.out hO3 HB0.out.size))
  have HW3 := Lib.hid hw3
  have Hv3 := Lib.hid (vb_len10 (v := L) (by omega))
  simp only [List.nil_append] at HW3
  obtain ⟨T1, hT1⟩ : ∃ T, vb L ++ vbs (gaps 0 l) = T := ⟨_, rfl⟩
  obtain ⟨T2, hT2⟩ : ∃ T, T1 ++ vbs (l.map En.run) = T := ⟨_, rfl⟩
  obtain ⟨T3, hT3⟩ : ∃ T, T2 ++ vbs (l.map En.len) = T := ⟨_, rfl⟩
  have HT1 := Lib.hid hT1
  have HT2 := Lib.hid hT2
  have HT3 := Lib.hid hT3
  have HT4 : Hid (T3 ++ vbs (offs none l) = R) := by
    show _ = _
    rw [← hT3, ← hT2, ← hT1, HL.out]; exact HR.out
  clear hw3 hO3 hT1 hT2 hT3 HR
  go_wp2_with fail
  go_loopw [26, 5] (fun i b W => ∃ (k : Nat) (m : List Nat) (v : Value), k ≤ L ∧ i = .int .i64 (k : Int) ∧ b = .int .u64 (before l k : Int) ∧ Hid (Wtr W w.heap.size g v m) ∧ m.length ≤ 10 + 10 * k ∧ Hid (Below w.heap.size w W) ∧ Hid (m ++ vbs (gaps (before l k) (l.drop k)) = T1)) (fun i _ _ => L - (intOf i).toNat)
  case atStart => exact ⟨0, _, _, Nat.zero_le _, rfl, rfl, HW3, Hv3.out, HB3, HT1⟩
  case round =>
    obtain ⟨k, m, v, hk, rfl, rfl, HW, hm, HBW, HS⟩ := hrel
    by_cases hlt : k < L
    · have hkl : k < l.length := by have := HL.out; omega
      have hdr : l.drop k = l[k] :: l.drop (k + 1) := List.drop_eq_getElem_cons hkl
      obtain ⟨b1, o1, rfl, hb1, p0, p1, p2, p3⟩ := (HA.out.below HBW.out).at k hkl
      have hek := oneE_yes (Hone.out k hkl)
      have hs2 := HS.out
      rw [hdr] at hs2
      have hbe := before_le Hsrt.out k hkl
      have hbn := before_next (l := l) k hkl
      generalize l[k]'hkl = e at *
      obtain ⟨id, off, len, run⟩ := e
      simp only at p0 p1 p2 p3 hek hbe hbn
      obtain ⟨g0, g1, g3, g4, g5⟩ := hek
      have hk0 : (0 : Int) ≤ (k : Int) := by omega
      have hk1 : (k : Int) < (L : Int) := by omega
      have HWA := Lib.hid (wtr_alloc HW.out (.cells #[.int .u64 (id : Int), .int .u64 (off : Int), .int .u64 (len : Int), .int .u64 (run : Int)] 39))
      have HBA : Hid (w.heap.size ≤ (wr.alloc (.cells #[.int .u64 (id : Int), .int .u64 (off : Int), .int .u64 (len : Int), .int .u64 (run : Int)] 39)).heap.size) := by show _ ≤ _; have := HBW.out.size; simp; omega
      have Hm := Lib.hid hm
      obtain ⟨B, hBB⟩ : ∃ B, before l k = B := ⟨_, rfl⟩
      rw [hBB] at hbe hs2 ⊢
      have w1 : IntKind.u64.wrap ((id : Int) - (B : Int)) = ((id - B : Nat) : Int) := by rw [IntWalk.u64_in _ ⟨by omega, by omega⟩]; omega
      have Hs2 : Hid ((m ++ vb (id - B)) ++ vbs (gaps (before l (k + 1)) (l.drop (k + 1))) = T1) := by
        show _ = _
        rw [hbn, ← hs2]; simp [gaps, vbs_cons]
      have Hbn := Lib.hid hbn
      clear hs2 hdr hbn hBB HS
      go_wp2_with fail
      refine (put_any w.heap.size g v m (id - B) _ HWA.out (by have := Hm.out; omega) (by omega) HBA.out).mono ?_
      rintro e X hp
      have he := hp.1
      subst he
      obtain ⟨v2, hw2, hb2, hN⟩ := wtr_step HW.out Hg.out HBW.out hp
      have HW2 := Lib.hid hw2
      have HB2 := Lib.hid hb2
      have HN := Lib.hid hN
      have Hv10 := Lib.hid (vb_len10 (v := id - B) (by omega))
      clear hp hw2 hb2 hN
      have r0 := HN.out.cell 0
      simp only [List.getElem?_toArray, List.getElem?_cons_zero, List.getElem?_cons_succ] at r0
      go_wp2_with fail
      go_roundw
      case rel => exact ⟨k + 1, _, v2, hlt, by go_num, by rw [Hbn.out], HW2, by have := Hm.out; have := Hv10.out; rw [List.length_append]; omega, HB2, Hs2⟩
      case measure => simp [intOf]; omega
    · obtain rfl : L = k := by omega
      rw [List.drop_of_length_le (by have := HL.out; omega)] at HS
      have e1 : m = T1 := by have := HS.out; simpa [gaps, vbs] using this
      subst e1
      have Hm1 := Lib.hid hm
      clear HS hm
      have HW5 := HW
      have HB5 := HBW
      clear HW HBW
      go_wp2_with fail
      go_loopw [41] (fun i W => ∃ (k : Nat) (m : List Nat) (v : Value), k ≤ L ∧ i = .int .i64 (k : Int) ∧ Hid (Wtr W w.heap.size g v m) ∧ m.length ≤ 100010 + 10 * k ∧ Hid (Below w.heap.size w W) ∧ Hid (m ++ vbs ((l.drop k).map En.run) = T2)) (fun i _ => L - (intOf i).toNat)
      case atStart => exact ⟨0, _, _, Nat.zero_le _, rfl, HW5, by have := Hm1.out; omega, HB5, HT2⟩
      case round =>
        obtain ⟨k, m, v, hk, rfl, HW, hm, HBW, HS⟩ := hrel
        by_cases hlt : k < L
        · have hkl : k < l.length := by have := HL.out; omega
          have hdr : l.drop k = l[k] :: l.drop (k + 1) := List.drop_eq_getElem_cons hkl
          obtain ⟨b1, o1, rfl, hb1, p0, p1, p2, p3⟩ := (HA.out.below HBW.out).at k hkl
          have hek := oneE_yes (Hone.out k hkl)
          have hs2 := HS.out
          rw [hdr] at hs2

          generalize l[k]'hkl = e at *
          obtain ⟨id, off, len, run⟩ := e
          simp only at p0 p1 p2 p3 hek
          obtain ⟨g0, g1, g3, g4, g5⟩ := hek
          have hk0 : (0 : Int) ≤ (k : Int) := by omega
          have hk1 : (k : Int) < (L : Int) := by omega
          have HWA := Lib.hid (wtr_alloc HW.out (.cells #[.int .u64 (id : Int), .int .u64 (off : Int), .int .u64 (len : Int), .int .u64 (run : Int)] 39))
          have HBA : Hid (w.heap.size ≤ (wr.alloc (.cells #[.int .u64 (id : Int), .int .u64 (off : Int), .int .u64 (len : Int), .int .u64 (run : Int)] 39)).heap.size) := by show _ ≤ _; have := HBW.out.size; simp; omega
          have Hm := Lib.hid hm
          have Hs2 : Hid ((m ++ vb run) ++ vbs ((l.drop (k + 1)).map En.run) = T2) := by
            show _ = _
            rw [← hs2]; simp [vbs_cons]
          clear hs2 hdr HS
          go_wp2_with fail
          refine (put_any w.heap.size g v m (run) _ HWA.out (by have := Hm.out; omega) (by omega) HBA.out).mono ?_
          rintro e X hp
          have he := hp.1
          subst he
          obtain ⟨v2, hw2, hb2, hN⟩ := wtr_step HW.out Hg.out HBW.out hp
          have HW2 := Lib.hid hw2
          have HB2 := Lib.hid hb2
          have HN := Lib.hid hN
          have Hv10 := Lib.hid (vb_len10 (v := run) (by omega))
          clear hp hw2 hb2 hN
          go_wp2_with fail
          go_roundw
          case rel => exact ⟨k + 1, _, v2, hlt, by go_num, HW2, by have := Hm.out; have := Hv10.out; rw [List.length_append]; omega, HB2, Hs2⟩
          case measure => simp [intOf]; omega
        · obtain rfl : L = k := by omega
          rw [List.drop_of_length_le (by have := HL.out; omega)] at HS
          have e1 : m = T2 := by have := HS.out; simpa [vbs] using this
          subst e1
          have Hm1 := Lib.hid hm
          clear HS hm HW5 HB5
          have HW5 := HW
          have HB5 := HBW
          clear HW HBW
          go_wp2_with fail
          go_loopw [52] (fun i W => ∃ (k : Nat) (m : List Nat) (v : Value), k ≤ L ∧ i = .int .i64 (k : Int) ∧ Hid (Wtr W w.heap.size g v m) ∧ m.length ≤ 200010 + 10 * k ∧ Hid (Below w.heap.size w W) ∧ Hid (m ++ vbs ((l.drop k).map En.len) = T3)) (fun i _ => L - (intOf i).toNat)
          case atStart => exact ⟨0, _, _, Nat.zero_le _, rfl, HW5, by have := Hm1.out; omega, HB5, HT3⟩
          case round =>
            obtain ⟨k, m, v, hk, rfl, HW, hm, HBW, HS⟩ := hrel
            by_cases hlt : k < L
            · have hkl : k < l.length := by have := HL.out; omega
              have hdr : l.drop k = l[k] :: l.drop (k + 1) := List.drop_eq_getElem_cons hkl
              obtain ⟨b1, o1, rfl, hb1, p0, p1, p2, p3⟩ := (HA.out.below HBW.out).at k hkl
              have hek := oneE_yes (Hone.out k hkl)
              have hs2 := HS.out
              rw [hdr] at hs2

              generalize l[k]'hkl = e at *
              obtain ⟨id, off, len, run⟩ := e
              simp only at p0 p1 p2 p3 hek
              obtain ⟨g0, g1, g3, g4, g5⟩ := hek
              have hk0 : (0 : Int) ≤ (k : Int) := by omega
              have hk1 : (k : Int) < (L : Int) := by omega
              have HWA := Lib.hid (wtr_alloc HW.out (.cells #[.int .u64 (id : Int), .int .u64 (off : Int), .int .u64 (len : Int), .int .u64 (run : Int)] 39))
              have HBA : Hid (w.heap.size ≤ (wr.alloc (.cells #[.int .u64 (id : Int), .int .u64 (off : Int), .int .u64 (len : Int), .int .u64 (run : Int)] 39)).heap.size) := by show _ ≤ _; have := HBW.out.size; simp; omega
              have Hm := Lib.hid hm
              have Hs2 : Hid ((m ++ vb len) ++ vbs ((l.drop (k + 1)).map En.len) = T3) := by
                show _ = _
                rw [← hs2]; simp [vbs_cons]
              clear hs2 hdr HS
              go_wp2_with fail
              refine (put_any w.heap.size g v m (len) _ HWA.out (by have := Hm.out; omega) (by omega) HBA.out).mono ?_
              rintro e X hp
              have he := hp.1
              subst he
              obtain ⟨v2, hw2, hb2, hN⟩ := wtr_step HW.out Hg.out HBW.out hp
              have HW2 := Lib.hid hw2
              have HB2 := Lib.hid hb2
              have HN := Lib.hid hN
              have Hv10 := Lib.hid (vb_len10 (v := len) (by omega))
              clear hp hw2 hb2 hN
              go_wp2_with fail
              go_roundw
              case rel => exact ⟨k + 1, _, v2, hlt, by go_num, HW2, by have := Hm.out; have := Hv10.out; rw [List.length_append]; omega, HB2, Hs2⟩
              case measure => simp [intOf]; omega
            · obtain rfl : L = k := by omega
              rw [List.drop_of_length_le (by have := HL.out; omega)] at HS
              have e1 : m = T3 := by have := HS.out; simpa [vbs] using this
              subst e1
              have Hm1 := Lib.hid hm
              clear HS hm HW5 HB5
              have HW5 := HW
              have HB5 := HBW
              clear HW HBW
              go_wp2_with fail
              go_loopw [63] (fun i W => ∃ (k : Nat) (m : List Nat) (v : Value), k ≤ L ∧ i = .int .i64 (k : Int) ∧ Hid (Wtr W w.heap.size g v m) ∧ m.length ≤ 300010 + 10 * k ∧ Hid (Below w.heap.size w W) ∧ Hid (m ++ vbs (offs (prv l k) (l.drop k)) = R)) (fun i _ => L - (intOf i).toNat)
              case atStart => exact ⟨0, _, _, Nat.zero_le _, rfl, HW5, by have := Hm1.out; omega, HB5, HT4⟩
              case round =>
                obtain ⟨k, m, v, hk, rfl, HW, hm, HBW, HS⟩ := hrel
                by_cases hlt : k < L
                · have hkl : k < l.length := by have := HL.out; omega
                  have hdr : l.drop k = l[k] :: l.drop (k + 1) := List.drop_eq_getElem_cons hkl
                  obtain ⟨b1, o1, rfl, hb1, p0, p1, p2, p3⟩ := (HA.out.below HBW.out).at k hkl
                  have hek := oneE_yes (Hone.out k hkl)
                  have hs2 := HS.out
                  rw [hdr] at hs2
                  have hnext := prv_next l k hkl
                  generalize l[k]'hkl = e at *
                  obtain ⟨id, off, len, run⟩ := e
                  simp only at p0 p1 p2 p3 hek
                  obtain ⟨g0, g1, g3, g4, g5⟩ := hek
                  have hk0 : (0 : Int) ≤ (k : Int) := by omega
                  have hk1 : (k : Int) < (L : Int) := by omega
                  have HWA := Lib.hid (wtr_alloc HW.out (.cells #[.int .u64 (id : Int), .int .u64 (off : Int), .int .u64 (len : Int), .int .u64 (run : Int)] 39))
                  have HBA : Hid (w.heap.size ≤ (wr.alloc (.cells #[.int .u64 (id : Int), .int .u64 (off : Int), .int .u64 (len : Int), .int .u64 (run : Int)] 39)).heap.size) := by show _ ≤ _; have := HBW.out.size; simp; omega
                  have Hm := Lib.hid hm
                  have w2 : IntKind.u64.wrap ((off : Int) + 1) = ((off + 1 : Nat) : Int) := by rw [IntWalk.u64_in _ ⟨by omega, by omega⟩]; omega
                  obtain ⟨F, hF⟩ : ∃ F, off + 1 = F := ⟨_, rfl⟩
                  rw [hF] at w2
                  have Hs2 : Hid ((m ++ vb (offE (prv l k) ⟨id, off, len, run⟩)) ++ vbs (offs (prv l (k + 1)) (l.drop (k + 1))) = R) := by
                    show _ = _
                    rw [hnext, ← hs2]; simp [offs, vbs_cons]
                  clear hs2 hdr HS
                  rcases Nat.eq_zero_or_pos k with hz | hz
                  · have n1 : decide ((0 : Int) < (k : Int)) = false := decide_eq_false (by omega)
                    have n2 : decide (0 < k) = false := decide_eq_false (by omega)
                    have hof : offE (prv l k) ⟨id, off, len, run⟩ = F := by unfold prv; rw [if_pos hz]; exact hF
                    rw [hof] at Hs2
                    clear hof hz hnext
                    go_wp2_with fail
                    go_quiet (fail)
                    go_wp2_with fail
                    refine (put_any w.heap.size g v m (F) _ (wtr_drewn HWA.out _) (by have := Hm.out; omega) (by omega) HBA.out).mono ?_
                    rintro e X hp
                    have he := hp.1
                    subst he
                    obtain ⟨v2, hw2, hb2⟩ := wtr_step4 HW.out Hg.out HBW.out hp
                    have HW2 := Lib.hid hw2
                    have HB2 := Lib.hid hb2
                    have Hv10 := Lib.hid (vb_len10 (v := F) (by omega))
                    clear hp hw2 hb2
                    go_wp2_with fail
                    go_roundw
                    case rel => exact ⟨k + 1, _, v2, hlt, by go_num, HW2, by have := Hm.out; have := Hv10.out; rw [List.length_append]; omega, HB2, Hs2⟩
                    case measure => simp [intOf]; omega
                  · have n1 : decide ((0 : Int) < (k : Int)) = true := decide_eq_true (by omega)
                    have n2 : decide (0 < k) = true := decide_eq_true hz
                    obtain ⟨j, hj⟩ : ∃ j, j + 1 = k := ⟨k - 1, by omega⟩
                    have hjl : j < l.length := by have := HL.out; omega
                    have hpv : prv l k = some l[j] := by rw [← hj]; exact prv_next l j hjl
                    have hqo := oneE_yes (Hone.out j hjl)
                    have HBX : Hid (Below w.heap.size w (wr.alloc (.cells #[.int .u64 (id : Int), .int .u64 (off : Int), .int .u64 (len : Int), .int .u64 (run : Int)] 39))) := below_then HBW.out ((Below.refl _ _).alloc (Nat.le_refl _) _) HBW.out.size
                    obtain ⟨b2, o2, e2, h2, q0, q1, q2, q3⟩ := (HA.out.below HBX.out).at j hjl
                    injection e2 with e2
                    injection e2 with e3 e4
                    subst e3 e4
                    rw [hpv] at Hs2
                    generalize l[j]'hjl = q at *
                    obtain ⟨qid, qoff, qlen, qrun⟩ := q
                    simp only at q0 q1 q2 q3 hqo
                    obtain ⟨j0, j1, j2, j3, j4⟩ := hqo
                    have n3 : IntKind.i64.wrap ((k : Int) - 1) = (j : Int) := by rw [IntWalk.i64_in _ ⟨by omega, by omega⟩]; omega
                    have n4 : (0 : Int) ≤ (j : Int) := by omega
                    have n5 : (j : Int) < (L : Int) := by omega
                    have w3 : IntKind.u64.wrap ((qoff : Int) + (qlen : Int)) = ((qoff + qlen : Nat) : Int) := by rw [IntWalk.u64_in _ ⟨by omega, by omega⟩]; omega
                    obtain ⟨S, hS⟩ : ∃ S, qoff + qlen = S := ⟨_, rfl⟩
                    rw [hS] at w3
                    by_cases hc : off = S
                    · subst hc
                      have hof : offE (some ⟨qid, qoff, qlen, qrun⟩) ⟨id, off, len, run⟩ = 0 := if_pos hS.symm
                      rw [hof] at Hs2
                      clear hof hS hj hpv hnext
                      go_wp2_with fail
                      go_quiet (fail)
                      go_wp2_with fail
                      refine (put_any w.heap.size g v m (0) _ (wtr_drewn HWA.out _) (by have := Hm.out; omega) (by omega) HBA.out).mono ?_
                      rintro e X hp
                      have he := hp.1
                      subst he
                      obtain ⟨v2, hw2, hb2⟩ := wtr_step4 HW.out Hg.out HBW.out hp
                      have HW2 := Lib.hid hw2
                      have HB2 := Lib.hid hb2
                      have Hv10 := Lib.hid (vb_len10 (v := 0) (by omega))
                      clear hp hw2 hb2
                      go_wp2_with fail
                      go_roundw
                      case rel => exact ⟨k + 1, _, v2, hlt, by go_num, HW2, by have := Hm.out; have := Hv10.out; rw [List.length_append]; omega, HB2, Hs2⟩
                      case measure => simp [intOf]; omega
                    · have m1 : ((off : Int) == (S : Int)) = false := beq_eq_false_iff_ne.mpr (by omega)
                      have hof : offE (some ⟨qid, qoff, qlen, qrun⟩) ⟨id, off, len, run⟩ = F := by rw [← hF]; exact if_neg (by show ¬ off = qoff + qlen; omega)
                      rw [hof] at Hs2
                      clear hof hS hj hpv hc hnext
                      go_wp2_with fail
                      go_quiet (fail)
                      go_wp2_with fail
                      refine (put_any w.heap.size g v m (F) _ (wtr_drewn HWA.out _) (by have := Hm.out; omega) (by omega) HBA.out).mono ?_
                      rintro e X hp
                      have he := hp.1
                      subst he
                      obtain ⟨v2, hw2, hb2⟩ := wtr_step4 HW.out Hg.out HBW.out hp
                      have HW2 := Lib.hid hw2
                      have HB2 := Lib.hid hb2
                      have Hv10 := Lib.hid (vb_len10 (v := F) (by omega))
                      clear hp hw2 hb2
                      go_wp2_with fail
                      go_roundw
                      case rel => exact ⟨k + 1, _, v2, hlt, by go_num, HW2, by have := Hm.out; have := Hv10.out; rw [List.length_append]; omega, HB2, Hs2⟩
                      case measure => simp [intOf]; omega
                · obtain rfl : L = k := by omega
                  rw [List.drop_of_length_le (by have := HL.out; omega)] at HS
                  have e1 : m = R := by have := HS.out; simpa [vbs, offs] using this
                  subst e1
                  have r0 := HW.out.1.cell 0
                  simp only [List.getElem?_toArray, List.getElem?_cons_zero, List.getElem?_cons_succ] at r0
                  go_wp2_with fail
                  go_ret2
                  exact ⟨v, rfl, HW.out.2.1, HBW.out⟩
end Go.Proofs.Ytaafcmgkmdbefaa
