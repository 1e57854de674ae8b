/- Layer 8: the reference's Get. -/
import Derived.Test.YtdifojeghplpeaaDoorVal16
import Derived.Test.YtdifojeghplpeaaDoorRefGet
import Derived.BigQuiet
import Derived.Deep.QuietTactic
namespace Go.Proofs.YtdifojeghplpeaaDoor
open Go.RowKit Var
set_option linter.unusedVariables false
set_option maxRecDepth 100000

/-- What at and n stand for before the turn k. -/
def AtN (l : List G) (k A : Nat) : Prop := knTo l k ≠ [] → ∃ h : A < l.length, lastG (knTo l k) = l[A]
theorem from_plain (nm kd int vn : Nat) (data : List Nat) (hv : vn = (fromV (nm : Int) int data).2.2) (h : kd = 2 → int = 0) : (((kd : Nat) : Int) = fk (nm : Int) → plain ((nm : Int), strOf data, vn) = fromV (nm : Int) int data) ∧ rightV ((nm : Int), strOf data, vn) = rightV (fromV (nm : Int) int data) := by
  subst hv
  by_cases h1 : nm = 1
  · subst h1
    refine ⟨fun e => ?_, ?_⟩
    · have e2 : kd = 2 := by simp [fk] at e; omega
      rw [h e2]
      simp [plain, fromV]
    · simp [rightV, fromV]
  · have h1' : ¬ (nm : Int) = 1 := by omega
    refine ⟨fun _ => ?_, ?_⟩
    · simp only [plain, fromV, if_neg h1']
    · simp only [rightV, fromV, if_neg h1']
set_option maxHeartbeats 16000000 in
theorem rvalueGet_any (a : Option Addr) (c : Nat) (l : List Nat) (w : World) (hT : Tabs w) (h : Nums .u8 w w.heap.size a l) (hd : ∀ x ∈ l, x < 256) (hlc : l.length ≤ c) (hl : l.length ≤ 100000) :
    Calls Tryd.prog 17 #[.slice a l.length c] w fun e w' => e = .returned (.tuple #[vv (getW l).1, .int .i64 ((getW l).2 : Int)]) ∧ Below w.heap.size w w' := by
  obtain ⟨X, E, hX⟩ : ∃ X E, gets l (l.length + 1) 0 [] = (X, E) := ⟨_, _, rfl⟩
  have HG := Lib.hid fun W (hb : Below w.heap.size w W) => refGet_any a c l W ((h.below hb).more hb.size) hd hlc hl (l.length + 1) X E (by omega) hX
  have HOk := Lib.hid fun (g : F) (hg : g ∈ X) => (by have := gets_ok l hd (l.length + 1) 0 [] (by simp) g; rw [hX] at this; exact this hg : FOk g l.length)
  have HXl := Lib.hid (by have := gets_len l (l.length + 1) 0 []; rw [hX] at this; simpa using this : X.length ≤ l.length + 1)
  have HLl := Lib.hid hl
  obtain ⟨r, hr⟩ : ∃ r, r = getW l := ⟨_, rfl⟩
  rw [← hr]
  unfold getW at hr
  rw [hX] at hr
  have HR := Lib.hid hr
  obtain ⟨L, hL⟩ : ∃ z, z = l.length := ⟨_, rfl⟩
  have HL := Lib.hid hL
  rw [← hL] at HG ⊢
  have HT := Lib.hid hT
  have hB : Hid (Below w.heap.size w (w.alloc (.cells #[.int .i64 0, .string ⟨#[]⟩, .int .u64 0] 24))) := (Below.refl _ _).alloc (Nat.le_refl _) _
  clear hL h hd hlc hl hX hT hr
  unfold vv
  go_enter Tryd.func17, Tryd.ntmps17
  go_upto_region 1 with (fail)
  obtain ⟨b2, hb2⟩ : ∃ z, z = w.heap.size := ⟨_, rfl⟩
  obtain ⟨Y, hY⟩ : ∃ z, z = w.alloc (.cells #[.int .i64 0, .string ⟨#[]⟩, .int .u64 0] 24) := ⟨_, rfl⟩
  have hW : Whole Y b2 24 #[.int .i64 0, .string ⟨#[]⟩, .int .u64 0] := by rw [hY, hb2]; exact Whole.new w _ _
  have hlo : w.heap.size ≤ b2 := by omega
  rw [← hY] at hB ⊢
  rw [← hb2]
  have HW := Lib.hid hW
  clear hY hb2 hW
  go_wp2_with fail
  refine (HG.out _ hB.out).mono ?_
  rintro e Z ⟨v, rfl, hO, hZ⟩
  obtain ⟨va, vc, rfl, hcap⟩ := hO.len
  have HWZ := Lib.hid (HW.out.below hZ HW.out.lt)
  have HBZ := Lib.hid (hB.out.trans (hZ.mono hB.out.size))
  have HO := Lib.hid hO.gat
  clear hO hZ HG HW hB
  by_cases hE : E = 0
  · subst hE
    rw [if_neg (by simp)] at HR
    obtain ⟨gs, hgs⟩ : ∃ gs, gs = X.map F.g := ⟨_, rfl⟩
    have HGok : Hid (∀ g ∈ gs, ∃ (nm kd : Nat), g.num = nm ∧ 1 ≤ nm ∧ nm ≤ 536870911 ∧ g.kind = kd ∧ kd ≤ 5 ∧ g.int < 18446744073709551616 ∧ (∀ x ∈ g.data, x < 256) ∧ g.data.length ≤ 100000 ∧ (kd = 2 → g.int = 0)) := by
      intro g hg
      rw [hgs] at hg
      obtain ⟨f, hf, rfl⟩ := List.mem_map.1 hg
      have hk := HOk.out f hf
      have hl := HLl.out
      exact ⟨f.num, f.kind, rfl, hk.num.1, hk.num.2, rfl, by have := hk.kind; omega, hk.int, hk.data.1, Nat.le_trans hk.data.2 hl, hk.none_⟩
    have hXg : X.length = gs.length := by rw [hgs]; simp
    have hgl : gs.length ≤ 100001 := by rw [← hXg]; have h1 := HXl.out; have h2 := HLl.out; omega
    rw [← hgs] at HR HO
    rw [hXg]
    obtain ⟨M, hM⟩ : ∃ z, z = gs.length := ⟨_, rfl⟩
    have HM := Lib.hid hM
    rw [← hM] at HR hgl ⊢
    clear hgs hXg hM HOk HXl HLl HL hcap
    go_wp2_with fail
    go_loopw [6, 7, 8] (fun at_ n i W => ∃ k A : Nat, k ≤ M ∧ i = .int .i64 (k : Int) ∧ n = .int .i64 ((knTo gs k).length : Int) ∧ at_ = .int .i64 (A : Int) ∧ Hid (AtN gs k A) ∧ W = Z) (fun _ _ i _ => M - (intOf i).toNat)
    case atStart => exact ⟨0, 0, Nat.zero_le _, rfl, rfl, rfl, fun h => absurd rfl h, rfl⟩
    case round =>
      obtain ⟨k, A, hk, rfl, rfl, rfl, HA, rfl⟩ := hrel
      have hkn := knTo_len gs k
      by_cases hlt : k < M
      · have hkl : k < gs.length := by have := HM.out; omega
        obtain ⟨b1, o1, ad, cc, rfl, hb1, c0, c1, c2, c3, hN⟩ := HO.out k hkl
        obtain ⟨nm, kd, hnm, hn1, hn2, -⟩ := HGok.out _ (List.getElem_mem hkl)
        have hyes := fun h => knTo_yes (l := gs) hkl h
        have hno := fun h => knTo_no (l := gs) hkl h
        rw [hnm] at c0
        have hk0 : (0 : Int) ≤ (k : Int) := by omega
        have hk1 : (k : Int) < (M : Int) := by omega
        by_cases h8 : nm < 8
        · have hkk : kn gs[k] = true := by unfold kn; rw [hnm]; exact decide_eq_true (by omega)
          have hst := hyes hkk
          have d8 : decide ((nm : Int) < 8) = true := decide_eq_true (by omega)
          have hAN : Hid (AtN gs (k + 1) k) := fun _ => ⟨hkl, by rw [hst, lastG_snoc]⟩
          have hlen1 : (knTo gs (k + 1)).length = (knTo gs k).length + 1 := by rw [hst]; simp
          have HLN := Lib.hid hlen1
          clear hyes hno hst c1 c2 c3 hN hkk hlen1 HA
          go_wp2_with fail
          go_roundw
          case rel => exact ⟨k + 1, k, by omega, by go_num, by rw [HLN.out]; go_num, rfl, hAN, trivial⟩
          case measure => simp [intOf] <;> omega
        · have hkk : kn gs[k] = false := by unfold kn; rw [hnm]; exact decide_eq_false (by omega)
          have hst := hno hkk
          have d8 : decide ((nm : Int) < 8) = false := decide_eq_false (by omega)
          have hAN : Hid (AtN gs (k + 1) A) := by unfold Hid AtN; rw [hst]; exact HA.out
          have HLN := Lib.hid hst
          clear hyes hno hst c1 c2 c3 hN hkk HA
          go_wp2_with fail
          go_roundw
          case rel => exact ⟨k + 1, A, by omega, by go_num, by rw [HLN.out], rfl, hAN, trivial⟩
          case measure => simp [intOf] <;> omega
      · have hkM : k = M := by omega
        subst hkM
        by_cases h1 : (knTo gs k).length = 1
        · rw [if_neg (by simpa using h1)] at HR
          rw [h1]
          obtain ⟨hAl, hlast⟩ := HA.out (fun e => by rw [e] at h1; simp at h1)
          obtain ⟨b1, o1, ad, cc, rfl, hb1, c0, c1, c2, c3, hN⟩ := HO.out A hAl
          obtain ⟨nm, kd, hnm, hn1, hn2, hkd, hk5, hgi, hgd, hgl2, hnone⟩ := HGok.out _ (List.getElem_mem hAl)
          have hknown : kn gs[A] = true := by
            have hm : lastG (knTo gs k) ∈ knTo gs k := by
              obtain ⟨y, hy⟩ := List.length_eq_one_iff.1 h1
              rw [hy]; simp [lastG]
            rw [hlast] at hm
            exact (List.mem_filter.1 hm).2
          rw [hlast] at HR
          have hA0 : (0 : Int) ≤ (A : Int) := by omega
          have hA1 : (A : Int) < (k : Int) := by have := HM.out; omega
          generalize gs[A]'hAl = g at *
          obtain ⟨num, kind, int, data⟩ := g
          simp only at hnm hkd hgi hgd hgl2 hnone c0 c1 c2 c3 hN
          subst hnm hkd
          have hn7 : nm ≤ 7 := by have : 1 ≤ (nm : Int) ∧ (nm : Int) ≤ 7 := of_decide_eq_true hknown; omega
          have HN := Lib.hid hN
          have HGD := Lib.hid hgd
          have HNone := Lib.hid hnone
          obtain ⟨dl, hdl⟩ : ∃ z, z = data.length := ⟨_, rfl⟩
          have HDL := Lib.hid hdl
          rw [← hdl] at c3 hgl2
          clear hlast hknown hN hgd hnone hdl HA HO HGok
          go_upto_region 15 with (fail)
          obtain ⟨b9, hb9⟩ : ∃ z, z = wr.heap.size := ⟨_, rfl⟩
          obtain ⟨T1, hT1⟩ : ∃ z, z = wr.alloc (.cells #[.int .i64 (nm : Int), .int .i64 (kd : Int), .int .u64 (int : Int), .slice ad dl cc] 43) := ⟨_, rfl⟩
          obtain ⟨b10, hb10⟩ : ∃ z, z = wr.heap.size + 1 := ⟨_, rfl⟩
          obtain ⟨F0, hF0⟩ : ∃ z, z = T1.alloc (.cells #[.int .i64 0, .int .i64 2, .int .i64 5, .int .i64 1, .int .i64 0, .int .i64 0, .int .i64 0, .int .i64 0] 3) := ⟨_, rfl⟩
          have hB1 : Below wr.heap.size wr T1 := by rw [hT1]; exact (Below.refl _ _).alloc (Nat.le_refl _) _
          have hs1 : T1.heap.size = wr.heap.size + 1 := by rw [hT1]; simp
          have hB2 : Below T1.heap.size T1 F0 := by rw [hF0]; exact (Below.refl _ _).alloc (Nat.le_refl _) _
          have hW9 : Whole T1 b9 43 #[.int .i64 (nm : Int), .int .i64 (kd : Int), .int .u64 (int : Int), .slice ad dl cc] := by rw [hT1, hb9]; exact Whole.new wr _ _
          have hW9 := hW9.below hB2 hW9.lt
          have hW10 : Whole F0 b10 3 #[.int .i64 0, .int .i64 2, .int .i64 5, .int .i64 1, .int .i64 0, .int .i64 0, .int .i64 0, .int .i64 0] := by rw [hF0, hb10, ← hs1]; exact Whole.new T1 _ _
          have hwF : Below wr.heap.size wr F0 := hB1.trans (hB2.mono hB1.size)
          have HWF := Lib.hid (HWZ.out.below hwF HWZ.out.lt)
          have HBF := Lib.hid (HBZ.out.trans (hwF.mono HBZ.out.size))
          have HNF := Lib.hid ((HN.out.below hwF).more hwF.size)
          have hst : (convert 26 9 (.slice ad dl cc)).run Tryd.prog F0 = .ok (.string (strOf data)) F0 := by
            rw [HDL.out]
            exact str_of_nums _ _ 26 9 5 ad cc data Tryd.underlying26 Tryd.underlying5 Tryd.underlying9 HNF.out HGD.out
          have x0 : F0.cell? ⟨b9, 0, none⟩ = some (.int .i64 (nm : Int)) := hW9.cell 0
          have x1 : F0.cell? ⟨b9, 1, none⟩ = some (.int .i64 (kd : Int)) := hW9.cell 1
          have x2 : F0.cell? ⟨b9, 2, none⟩ = some (.int .u64 (int : Int)) := hW9.cell 2
          have x3 : F0.cell? ⟨b9, 3, none⟩ = some (.slice ad dl cc) := hW9.cell 3
          have HW9 := Lib.hid hW9
          have HW10 := Lib.hid hW10
          rw [← hT1, ← hF0, ← hb10, ← hb9]
          clear hT1 hF0 hb9 hb10 hB1 hB2 hs1 hW9 hW10 hwF HWZ HBZ HN c0 c1 c2 c3
          have hzz := zag_in int hgi
          go_upto_region 16 with (fail)
          obtain ⟨b11, hb11⟩ : ∃ z, z = F0.heap.size := ⟨_, rfl⟩
          obtain ⟨O, hO⟩ : ∃ z, z = F0.alloc (.cells #[.int .i64 (nm : Int), .string (strOf data), .int .u64 (int : Int)] 24) := ⟨_, rfl⟩
          have hFO : Below F0.heap.size F0 O := by rw [hO]; exact (Below.refl _ _).alloc (Nat.le_refl _) _
          have hWO : Whole O b11 24 #[.int .i64 (nm : Int), .string (strOf data), .int .u64 (int : Int)] := by rw [hO, hb11]; exact Whole.new F0 _ _
          have h911 : b9 ≠ b11 := by have := HW9.out.lt; omega
          have h1011 : b10 ≠ b11 := by have := HW10.out.lt; omega
          have h211 : b2 ≠ b11 := by have := HWF.out.lt; omega
          have hlo11 : w.heap.size ≤ b11 := by have := HBF.out.size; omega
          have HW9 := Lib.hid (HW9.out.below hFO HW9.out.lt)
          have HW10 := Lib.hid (HW10.out.below hFO HW10.out.lt)
          have HWF := Lib.hid (HWF.out.below hFO HWF.out.lt)
          have HBF := Lib.hid (HBF.out.trans (hFO.mono HBF.out.size))
          have HWO := Lib.hid hWO
          rw [← hO, ← hb11]
          clear hO hb11 hFO hst x0 x1 x2 x3 HNF hWO
          have x0 : O.cell? ⟨b9, 0, none⟩ = some (.int .i64 (nm : Int)) := HW9.out.cell 0
          have x2 : O.cell? ⟨b9, 2, none⟩ = some (.int .u64 (int : Int)) := HW9.out.cell 2
          by_cases h6 : nm = 6
          · subst h6
            obtain ⟨z, hz⟩ : ∃ z, z = zag int := ⟨_, rfl⟩
            have HZ := Lib.hid fun W => rzag_any int W hgi
            rw [← hz] at HZ hzz
            obtain ⟨m, hm⟩ : ∃ m, m = (if z < 0 then (z + 18446744073709551616).toNat else z.toNat) := ⟨_, rfl⟩
            have hwz : IntKind.u64.wrap z = (m : Int) := by
              rw [hm]
              show z % 18446744073709551616 = _
              split <;> omega
            have hml : m < 18446744073709551616 := by rw [hm]; split <;> omega
            have HVN : Hid (m = (fromV ((6 : Nat) : Int) int data).2.2) := by show _ = _; rw [hm, hz]; rfl
            have k2 : O.cell? ⟨b11, 2, none⟩ = some (.int .u64 (int : Int)) := HWO.out.cell 2
            have kf : O.frozen? ⟨b11, 2, none⟩ = false := HWO.out.frozen 2
            clear hz hm hzz
            go_wp2_with (go_at_call 32; refine (HZ.out _).mono ?_; rintro e Z9 ⟨rfl, rfl⟩)
            obtain ⟨O2, hO2⟩ : ∃ z, z = O.setCell ⟨b11, 2, none⟩ (.int .u64 (m : Int)) := ⟨_, rfl⟩
            have hWO2 : Whole O2 b11 24 #[.int .i64 6, .string (strOf data), .int .u64 (m : Int)] := by rw [hO2]; simpa using HWO.out.set 2 (.int .u64 (m : Int))
            have ho : Only (fun b => b = b11) O O2 := by rw [hO2]; exact Only.setCell (S := fun b => b = b11) (Only.refl _ O) (p := ⟨b11, 2, none⟩) (fun _ => rfl) _
            have HW9 := Lib.hid (HW9.out.only ho h911)
            have HW10 := Lib.hid (HW10.out.only ho h1011)
            have HWF := Lib.hid (HWF.out.only ho h211)
            have HBF : Hid (Below w.heap.size w O2) := by rw [hO2]; exact HBF.out.setCell (p := ⟨b11, 2, none⟩) hlo11 _
            have HWO := Lib.hid hWO2
            rw [← hO2]
            clear hO2 hWO2 ho k2 kf x0 x2 HZ hwz
            obtain ⟨v', hv'⟩ : ∃ z : V3, z = (6, strOf data, m) := ⟨_, rfl⟩
            have hfr : ((kd : Int) = fk 6 → plain v' = fromV 6 int data) ∧ rightV v' = rightV (fromV 6 int data) := by
              rw [hv']
              exact from_plain 6 kd int m data HVN.out (fun e => HNone.out e)
            have HFR := Lib.hid hfr
            have hok : v'.2.1.size ≤ 9223372036854775807 ∧ v'.2.2 < 18446744073709551616 := by
              rw [hv']
              exact ⟨by rw [strOf_size, ← HDL.out]; omega, hml⟩
            have HV := Lib.hid fun W (hb : Below O2.heap.size O2 W) => rright_any v' W (HT.out.below (HBF.out.trans (hb.mono HBF.out.size))) hok.1 hok.2
            have HPL := Lib.hid (rplain_any v')
            have hvv : vv v' = .agg #[.int .i64 6, .string (strOf data), .int .u64 (m : Int)] := by rw [hv']; rfl
            rw [hvv] at HV HPL
            have HOK := Lib.hid hok
            clear hok hml hfr hvv
            have hr : r = oneV ⟨6, kd, int, data⟩ := HR.out
            obtain ⟨fkn, hfkn⟩ : ∃ z, z = fk 6 := ⟨_, rfl⟩
            have y0 : O2.cell? ⟨b9, 0, none⟩ = some (.int .i64 6) := HW9.out.cell 0
            have y1 : O2.cell? ⟨b9, 1, none⟩ = some (.int .i64 (kd : Int)) := HW9.out.cell 1
            have yk : O2.cell? ⟨b10, 6, none⟩ = some (.int .i64 fkn) := by
              rw [hfkn]
              exact HW10.out.cell 6
            have o0 : O2.cell? ⟨b11, 0, none⟩ = some (.int .i64 6) := HWO.out.cell 0
            have o1 : O2.cell? ⟨b11, 1, none⟩ = some (.string (strOf data)) := HWO.out.cell 1
            have o2 : O2.cell? ⟨b11, 2, none⟩ = some (.int .u64 (m : Int)) := HWO.out.cell 2
            have hl9 : b9 < O2.heap.size := HW9.out.lt
            have hl10 : b10 < O2.heap.size := HW10.out.lt
            have hl11 : b11 < O2.heap.size := HWO.out.lt
            have hn0 : (0 : Int) ≤ 6 := by omega
            have hn8 : (6 : Int) < 8 := by omega
            by_cases hk : (kd : Int) = fkn
            · have dk : ((kd : Int) != fkn) = false := by simp [hk]
              have hr2 : r = if rightV v' = true then (plain v', 0) else (zeroV, 3) := by
                rw [hr]
                unfold oneV
                rw [if_neg (by simp only [ne_eq, Decidable.not_not]; rw [← hfkn]; exact hk), HFR.out.2, HFR.out.1 (by rw [← hfkn]; exact hk)]
              have HR2 := Lib.hid hr2
              obtain ⟨rv, hrv⟩ : ∃ z, z = rightV v' := ⟨_, rfl⟩
              rw [← hrv] at HV HR2
              obtain ⟨⟨pk, ps, pn⟩, hpl⟩ : ∃ z, z = plain v' := ⟨_, rfl⟩
              rw [← hpl] at HR2 HPL
              simp only [vv] at HPL
              clear hr hr2 hrv hpl HR HFR hfkn hk hv' HOK
              refine held_start (by kernel_rfl) ?_
              refine wpAnyH_take (i := 0) (oi := { dst := some 60, op := Go.Op.fieldAddr 43 (Go.Operand.tmp 9) 1, type := 0, pos := "ref.go:104", after := #[], guard := none }) (v := ?_) rfl (by kernel_rfl) (by kernel_rfl) (by kernel_rfl) (fun _ _ _ h => h) (Or.inl ⟨by rfl, ?_⟩) (Kp.refl _) ?_
              rotate_left 1
              · intro w5 hSw
                go_simp; all_goals (with_reducible rfl)
              try simp only [Act.put, List.setIfInBounds_toArray, List.set_cons_zero, List.set_cons_succ]
              refine wpAnyH_take (i := 1) (oi := { dst := some 61, op := Go.Op.load 3 (Go.Operand.tmp 60), type := 3, pos := "ref.go:104", after := #[{ on := 0, ground := Go.Ground.data }], guard := none }) (v := ?_) rfl (by kernel_rfl) (by kernel_rfl) (by kernel_rfl) (fun _ _ _ h => h) (Or.inl ⟨by rfl, ?_⟩) (Kp.refl _) ?_
              rotate_left 1
              · intro w5 hSw
                have qy1 := (hSw.cell hl9).trans y1
                go_simp; all_goals (with_reducible rfl)
              try simp only [Act.put, List.setIfInBounds_toArray, List.set_cons_zero, List.set_cons_succ]
              refine wpAnyH_take (i := 2) (oi := { dst := some 62, op := Go.Op.move (Go.Operand.tmp 10), type := 55, pos := "ref.go:104", after := #[], guard := none }) (v := ?_) rfl (by kernel_rfl) (by kernel_rfl) (by kernel_rfl) (fun _ _ _ h => h) (Or.inl ⟨by rfl, ?_⟩) (Kp.refl _) ?_
              rotate_left 1
              · intro w5 hSw
                go_simp; all_goals (with_reducible rfl)
              try simp only [Act.put, List.setIfInBounds_toArray, List.set_cons_zero, List.set_cons_succ]
              refine wpAnyH_take (i := 3) (oi := { dst := some 63, op := Go.Op.fieldAddr 43 (Go.Operand.tmp 9) 0, type := 0, pos := "ref.go:104", after := #[], guard := none }) (v := ?_) rfl (by kernel_rfl) (by kernel_rfl) (by kernel_rfl) (fun _ _ _ h => h) (Or.inl ⟨by rfl, ?_⟩) (Kp.refl _) ?_
              rotate_left 1
              · intro w5 hSw
                go_simp; all_goals (with_reducible rfl)
              try simp only [Act.put, List.setIfInBounds_toArray, List.set_cons_zero, List.set_cons_succ]
              refine wpAnyH_take (i := 4) (oi := { dst := some 64, op := Go.Op.load 3 (Go.Operand.tmp 63), type := 3, pos := "ref.go:104", after := #[{ on := 3, ground := Go.Ground.data }], guard := none }) (v := ?_) rfl (by kernel_rfl) (by kernel_rfl) (by kernel_rfl) (fun _ _ _ h => h) (Or.inl ⟨by rfl, ?_⟩) (Kp.refl _) ?_
              rotate_left 1
              · intro w5 hSw
                have qy0 := (hSw.cell hl9).trans y0
                go_simp; all_goals (with_reducible rfl)
              try simp only [Act.put, List.setIfInBounds_toArray, List.set_cons_zero, List.set_cons_succ]
              refine wpAnyH_take (i := 5) (oi := { dst := some 65, op := Go.Op.indexAddr 55 (Go.Operand.tmp 62) (Go.Operand.tmp 64), type := 0, pos := "ref.go:104", after := #[{ on := 2, ground := Go.Ground.data }, { on := 4, ground := Go.Ground.data }], guard := none }) (v := ?_) rfl (by kernel_rfl) (by kernel_rfl) (by kernel_rfl) (fun _ _ _ h => h) (Or.inl ⟨by rfl, ?_⟩) (Kp.refl _) ?_
              rotate_left 1
              · intro w5 hSw
                go_simp; all_goals (with_reducible rfl)
              try simp only [Act.put, List.setIfInBounds_toArray, List.set_cons_zero, List.set_cons_succ]
              refine wpAnyH_take (i := 6) (oi := { dst := some 66, op := Go.Op.load 3 (Go.Operand.tmp 65), type := 3, pos := "ref.go:104", after := #[{ on := 5, ground := Go.Ground.data }], guard := none }) (v := ?_) rfl (by kernel_rfl) (by kernel_rfl) (by kernel_rfl) (fun _ _ _ h => h) (Or.inl ⟨by rfl, ?_⟩) (Kp.refl _) ?_
              rotate_left 1
              · intro w5 hSw
                have qyk := (hSw.cell hl10).trans yk
                go_simp; all_goals (with_reducible rfl)
              try simp only [Act.put, List.setIfInBounds_toArray, List.set_cons_zero, List.set_cons_succ]
              refine wpAnyH_take (i := 7) (oi := { dst := some 67, op := Go.Op.binOp Go.BinOp.neq 3 (Go.Operand.tmp 61) (Go.Operand.tmp 66) 3, type := 4, pos := "ref.go:104", after := #[{ on := 1, ground := Go.Ground.data }, { on := 6, ground := Go.Ground.data }], guard := none }) (v := ?_) rfl (by kernel_rfl) (by kernel_rfl) (by kernel_rfl) (fun _ _ _ h => h) (Or.inl ⟨by rfl, ?_⟩) (Kp.refl _) ?_
              rotate_left 1
              · intro w5 hSw
                go_simp; all_goals (with_reducible rfl)
              try simp only [Act.put, List.setIfInBounds_toArray, List.set_cons_zero, List.set_cons_succ]
              refine wpAnyH_take (i := 8) (oi := { dst := some 68, op := Go.Op.move (Go.Operand.tmp 67), type := 4, pos := "ref.go:104", after := #[{ on := 7, ground := Go.Ground.data }], guard := none }) (v := ?_) rfl (by kernel_rfl) (by kernel_rfl) (by kernel_rfl) (fun _ _ _ h => h) (Or.inl ⟨by rfl, ?_⟩) (Kp.refl _) ?_
              rotate_left 1
              · intro w5 hSw
                go_simp; all_goals (with_reducible rfl)
              try simp only [Act.put, List.setIfInBounds_toArray, List.set_cons_zero, List.set_cons_succ]
              refine wpAnyH_take (i := 9) (oi := { dst := some 69, op := Go.Op.load 24 (Go.Operand.tmp 11), type := 24, pos := "ref.go:104", after := #[{ on := 8, ground := Go.Ground.guard }], guard := some (8, false) }) (v := ?_) rfl (by kernel_rfl) (by kernel_rfl) (by kernel_rfl) (fun _ _ _ h => h) (Or.inl ⟨by rfl, ?_⟩) (Kp.refl _) ?_
              rotate_left 1
              · intro w5 hSw
                have qo0 := (hSw.cell hl11).trans o0
                have qo1 := (hSw.cell hl11).trans o1
                have qo2 := (hSw.cell hl11).trans o2
                go_simp; all_goals (with_reducible rfl)
              try simp only [Act.put, List.setIfInBounds_toArray, List.set_cons_zero, List.set_cons_succ]
              refine wpAnyH_ready (rs := [10]) (by kernel_rfl) (by simp) ?_
              refine AllReadyH.cons (o := { dst := some 70, op := Go.Op.call { callee := Go.Callee.value (Go.Operand.func 9), args := #[Go.Operand.tmp 69], argTypes := #[24] }, type := 4, pos := "ref.go:104", after := #[{ on := 9, ground := Go.Ground.data }, { on := 8, ground := Go.Ground.chain }, { on := 8, ground := Go.Ground.guard }], guard := some (8, false) }) rfl (fun K hK => ?_) AllReadyH.nil
              go_simp
              refine (HV.out O2.drew ⟨rfl, rfl, rfl, Nat.le_refl _, fun _ _ => rfl⟩).mono ?_; rintro e U ⟨rfl, hb9⟩
              go_wp2_with fail
              refine hK.out _ _ (hb9) (fun _ => ?_)
              clear hK K
              try simp only [Act.put, List.setIfInBounds_toArray, List.set_cons_zero, List.set_cons_succ]
              refine wpAnyH_take (i := 11) (oi := { dst := some 71, op := Go.Op.unOp Go.UnOp.not 4 (Go.Operand.tmp 70), type := 4, pos := "ref.go:104", after := #[{ on := 10, ground := Go.Ground.data }, { on := 8, ground := Go.Ground.guard }], guard := some (8, false) }) (v := ?_) rfl (by kernel_rfl) (by kernel_rfl) (by kernel_rfl) (fun _ _ _ h => h) (Or.inl ⟨by rfl, ?_⟩) (hb9) ?_
              rotate_left 1
              · intro w5 hSw
                go_simp; all_goals (with_reducible rfl)
              try simp only [Act.put, List.setIfInBounds_toArray, List.set_cons_zero, List.set_cons_succ]
              refine wpAnyH_take (i := 12) (oi := { dst := some 72, op := Go.Op.pick (Go.Operand.tmp 68) (Go.Operand.const (Go.Value.bool true)) (Go.Operand.tmp 71), type := 4, pos := "ref.go:104", after := #[{ on := 8, ground := Go.Ground.data }, { on := 11, ground := Go.Ground.data }], guard := none }) (v := ?_) rfl (by kernel_rfl) (by kernel_rfl) (by kernel_rfl) (fun _ _ _ h => h) (Or.inl ⟨by rfl, ?_⟩) (hb9) ?_
              rotate_left 1
              · intro w5 hSw
                go_simp; all_goals (with_reducible rfl)
              try simp only [Act.put, List.setIfInBounds_toArray, List.set_cons_zero, List.set_cons_succ]
              refine wpAnyH_done (by kernel_rfl) ?_ _
              have hbY : Below O2.heap.size O2 U := ⟨hb9.os, hb9.tape, hb9.output, hb9.size, hb9.block⟩
              have HWU := Lib.hid (HWF.out.below hbY HWF.out.lt)
              have HBU := Lib.hid (HBF.out.trans (hbY.mono HBF.out.size))
              have HW11 := HWO.out.below hbY HWO.out.lt
              have p0 : U.cell? ⟨b11, 0, none⟩ = some (.int .i64 6) := HW11.cell 0
              have p1 : U.cell? ⟨b11, 1, none⟩ = some (.string (strOf data)) := HW11.cell 1
              have p2 : U.cell? ⟨b11, 2, none⟩ = some (.int .u64 (m : Int)) := HW11.cell 2
              clear y0 y1 yk o0 o1 o2 hl9 hl10 hl11 hbY hb9 HW11 HWF HBF HW9 HW10 HWO HV
              cases hrv : rv with
              | false =>
                subst hrv
                have hr : r = (zeroV, 3) := by rw [HR2.out]; rfl
                clear HR2 HPL p0 p1 p2
                subst hr
                have e0 : (U).cell? ⟨b2, 0, none⟩ = some (.int .i64 0) := HWU.out.cell 0
                have e1 : (U).cell? ⟨b2, 1, none⟩ = some (.string ⟨#[]⟩) := HWU.out.cell 1
                have e2 : (U).cell? ⟨b2, 2, none⟩ = some (.int .u64 0) := HWU.out.cell 2
                have f0 : (U).frozen? ⟨b2, 0, none⟩ = false := HWU.out.frozen 0
                have f1 : (U).frozen? ⟨b2, 1, none⟩ = false := HWU.out.frozen 1
                have f2 : (U).frozen? ⟨b2, 2, none⟩ = false := HWU.out.frozen 2
                go_wp2_with fail
                obtain ⟨V, hV⟩ : ∃ z, z = (((U).setCell ⟨b2, 0, none⟩ (.int .i64 0)).setCell ⟨b2, 1, none⟩ (.string ⟨#[]⟩)).setCell ⟨b2, 2, none⟩ (.int .u64 0) := ⟨_, rfl⟩
                have hWV : Whole V b2 24 #[.int .i64 0, .string ⟨#[]⟩, .int .u64 0] := by
                  rw [hV]
                  simpa using ((HWU.out.set 0 (.int .i64 0)).set 1 (.string ⟨#[]⟩)).set 2 (.int .u64 0)
                have hBV : Below w.heap.size w V := by
                  rw [hV]
                  exact ((HBU.out.setCell (p := ⟨b2, 0, none⟩) hlo _).setCell (p := ⟨b2, 1, none⟩) hlo _).setCell (p := ⟨b2, 2, none⟩) hlo _
                have v0 : V.cell? ⟨b2, 0, none⟩ = some (.int .i64 0) := hWV.cell 0
                have v1 : V.cell? ⟨b2, 1, none⟩ = some (.string ⟨#[]⟩) := hWV.cell 1
                have v2 : V.cell? ⟨b2, 2, none⟩ = some (.int .u64 0) := hWV.cell 2
                rw [← hV]
                exact bodyPost_ret (v := .tuple #[.agg #[.int .i64 0, .string ⟨#[]⟩, .int .u64 0], .int .i64 3]) (by simp [results, Tryd.results17, asAddr, go_sem, v0, v1, v2]) rfl ⟨rfl, hBV⟩
              | true =>
                subst hrv
                have hr : r = ((pk, ps, pn), 0) := by rw [HR2.out]; rfl
                clear HR2
                subst hr
                go_wp2_with fail
                refine (HPL.out _).mono ?_
                rintro e U2 ⟨rfl, hU2⟩
                have HWU := Lib.hid (HWU.out.below hU2 HWU.out.lt)
                have HBU := Lib.hid (HBU.out.trans (hU2.mono HBU.out.size))
                clear hU2 p0 p1 p2
                have e0 : (U2).cell? ⟨b2, 0, none⟩ = some (.int .i64 0) := HWU.out.cell 0
                have e1 : (U2).cell? ⟨b2, 1, none⟩ = some (.string ⟨#[]⟩) := HWU.out.cell 1
                have e2 : (U2).cell? ⟨b2, 2, none⟩ = some (.int .u64 0) := HWU.out.cell 2
                have f0 : (U2).frozen? ⟨b2, 0, none⟩ = false := HWU.out.frozen 0
                have f1 : (U2).frozen? ⟨b2, 1, none⟩ = false := HWU.out.frozen 1
                have f2 : (U2).frozen? ⟨b2, 2, none⟩ = false := HWU.out.frozen 2
                go_wp2_with fail
                obtain ⟨V, hV⟩ : ∃ z, z = (((U2).setCell ⟨b2, 0, none⟩ (.int .i64 pk)).setCell ⟨b2, 1, none⟩ (.string ps)).setCell ⟨b2, 2, none⟩ (.int .u64 (pn : Int)) := ⟨_, rfl⟩
                have hWV : Whole V b2 24 #[.int .i64 pk, .string ps, .int .u64 (pn : Int)] := by
                  rw [hV]
                  simpa using ((HWU.out.set 0 (.int .i64 pk)).set 1 (.string ps)).set 2 (.int .u64 (pn : Int))
                have hBV : Below w.heap.size w V := by
                  rw [hV]
                  exact ((HBU.out.setCell (p := ⟨b2, 0, none⟩) hlo _).setCell (p := ⟨b2, 1, none⟩) hlo _).setCell (p := ⟨b2, 2, none⟩) hlo _
                have v0 : V.cell? ⟨b2, 0, none⟩ = some (.int .i64 pk) := hWV.cell 0
                have v1 : V.cell? ⟨b2, 1, none⟩ = some (.string ps) := hWV.cell 1
                have v2 : V.cell? ⟨b2, 2, none⟩ = some (.int .u64 (pn : Int)) := hWV.cell 2
                rw [← hV]
                exact bodyPost_ret (v := .tuple #[.agg #[.int .i64 pk, .string ps, .int .u64 (pn : Int)], .int .i64 0]) (by simp [results, Tryd.results17, asAddr, go_sem, v0, v1, v2]) rfl ⟨rfl, hBV⟩
            · have dk : ((kd : Int) != fkn) = true := by simpa using hk
              have hr2 : r = (zeroV, 3) := by
                rw [hr]
                unfold oneV
                rw [if_pos (by rw [← hfkn]; exact hk)]
              clear hr HR HFR hfkn hk hv' HOK HV HPL
              subst hr2
              go_quiet (fail)
              have HWD : Hid (Whole (O2.drewN nq) b2 24 #[.int .i64 0, .string ⟨#[]⟩, .int .u64 0]) := HWF.out
              have HBD : Hid (Below w.heap.size w (O2.drewN nq)) := ⟨HBF.out.os, HBF.out.tape, HBF.out.output, HBF.out.size, HBF.out.block⟩
              obtain ⟨D, hD⟩ : ∃ z, z = O2.drewN nq := ⟨_, rfl⟩
              rw [← hD] at HWD HBD ⊢
              clear hD y0 y1 yk o0 o1 o2 hl9 hl10 hl11
              have e0 : (D).cell? ⟨b2, 0, none⟩ = some (.int .i64 0) := HWD.out.cell 0
              have e1 : (D).cell? ⟨b2, 1, none⟩ = some (.string ⟨#[]⟩) := HWD.out.cell 1
              have e2 : (D).cell? ⟨b2, 2, none⟩ = some (.int .u64 0) := HWD.out.cell 2
              have f0 : (D).frozen? ⟨b2, 0, none⟩ = false := HWD.out.frozen 0
              have f1 : (D).frozen? ⟨b2, 1, none⟩ = false := HWD.out.frozen 1
              have f2 : (D).frozen? ⟨b2, 2, none⟩ = false := HWD.out.frozen 2
              go_wp2_with fail
              obtain ⟨V, hV⟩ : ∃ z, z = (((D).setCell ⟨b2, 0, none⟩ (.int .i64 0)).setCell ⟨b2, 1, none⟩ (.string ⟨#[]⟩)).setCell ⟨b2, 2, none⟩ (.int .u64 0) := ⟨_, rfl⟩
              have hWV : Whole V b2 24 #[.int .i64 0, .string ⟨#[]⟩, .int .u64 0] := by
                rw [hV]
                simpa using ((HWD.out.set 0 (.int .i64 0)).set 1 (.string ⟨#[]⟩)).set 2 (.int .u64 0)
              have hBV : Below w.heap.size w V := by
                rw [hV]
                exact ((HBD.out.setCell (p := ⟨b2, 0, none⟩) hlo _).setCell (p := ⟨b2, 1, none⟩) hlo _).setCell (p := ⟨b2, 2, none⟩) hlo _
              have v0 : V.cell? ⟨b2, 0, none⟩ = some (.int .i64 0) := hWV.cell 0
              have v1 : V.cell? ⟨b2, 1, none⟩ = some (.string ⟨#[]⟩) := hWV.cell 1
              have v2 : V.cell? ⟨b2, 2, none⟩ = some (.int .u64 0) := hWV.cell 2
              rw [← hV]
              exact bodyPost_ret (v := .tuple #[.agg #[.int .i64 0, .string ⟨#[]⟩, .int .u64 0], .int .i64 3]) (by simp [results, Tryd.results17, asAddr, go_sem, v0, v1, v2]) rfl ⟨rfl, hBV⟩
          · have d6 : ((nm : Int) == 6) = false := by simp; omega
            have HVN : Hid (int = (fromV (nm : Int) int data).2.2) := by show _ = _; unfold fromV; simp only; rw [if_neg (by omega)]
            have hml := hgi
            go_upto_region 18 with (fail)
            clear x0 x2 hzz
            obtain ⟨v', hv'⟩ : ∃ z : V3, z = ((nm : Int), strOf data, int) := ⟨_, rfl⟩
            have hfr : ((kd : Int) = fk (nm : Int) → plain v' = fromV (nm : Int) int data) ∧ rightV v' = rightV (fromV (nm : Int) int data) := by
              rw [hv']
              exact from_plain nm kd int int data HVN.out (fun e => HNone.out e)
            have HFR := Lib.hid hfr
            have hok : v'.2.1.size ≤ 9223372036854775807 ∧ v'.2.2 < 18446744073709551616 := by
              rw [hv']
              exact ⟨by rw [strOf_size, ← HDL.out]; omega, hml⟩
            have HV := Lib.hid fun W (hb : Below O.heap.size O W) => rright_any v' W (HT.out.below (HBF.out.trans (hb.mono HBF.out.size))) hok.1 hok.2
            have HPL := Lib.hid (rplain_any v')
            have hvv : vv v' = .agg #[.int .i64 (nm : Int), .string (strOf data), .int .u64 (int : Int)] := by rw [hv']; rfl
            rw [hvv] at HV HPL
            have HOK := Lib.hid hok
            clear hok hml hfr hvv
            have hr : r = oneV ⟨(nm : Int), kd, int, data⟩ := HR.out
            obtain ⟨fkn, hfkn⟩ : ∃ z, z = fk (nm : Int) := ⟨_, rfl⟩
            have y0 : O.cell? ⟨b9, 0, none⟩ = some (.int .i64 (nm : Int)) := HW9.out.cell 0
            have y1 : O.cell? ⟨b9, 1, none⟩ = some (.int .i64 (kd : Int)) := HW9.out.cell 1
            have yk : O.cell? ⟨b10, nm, none⟩ = some (.int .i64 fkn) := by
              rw [hfkn]
              have hyk : ∀ m : Nat, (m = 1 ∨ m = 2 ∨ m = 3 ∨ m = 4 ∨ m = 5 ∨ m = 7) → O.cell? ⟨b10, m, none⟩ = some (.int .i64 (fk (m : Int))) := by
                rintro m (rfl | rfl | rfl | rfl | rfl | rfl)
                · exact HW10.out.cell 1
                · exact HW10.out.cell 2
                · exact HW10.out.cell 3
                · exact HW10.out.cell 4
                · exact HW10.out.cell 5
                · exact HW10.out.cell 7
              exact hyk nm (by omega)
            have o0 : O.cell? ⟨b11, 0, none⟩ = some (.int .i64 (nm : Int)) := HWO.out.cell 0
            have o1 : O.cell? ⟨b11, 1, none⟩ = some (.string (strOf data)) := HWO.out.cell 1
            have o2 : O.cell? ⟨b11, 2, none⟩ = some (.int .u64 (int : Int)) := HWO.out.cell 2
            have hl9 : b9 < O.heap.size := HW9.out.lt
            have hl10 : b10 < O.heap.size := HW10.out.lt
            have hl11 : b11 < O.heap.size := HWO.out.lt
            have hn0 : (0 : Int) ≤ (nm : Int) := by omega
            have hn8 : ((nm : Int) : Int) < 8 := by omega
            by_cases hk : (kd : Int) = fkn
            · have dk : ((kd : Int) != fkn) = false := by simp [hk]
              have hr2 : r = if rightV v' = true then (plain v', 0) else (zeroV, 3) := by
                rw [hr]
                unfold oneV
                rw [if_neg (by simp only [ne_eq, Decidable.not_not]; rw [← hfkn]; exact hk), HFR.out.2, HFR.out.1 (by rw [← hfkn]; exact hk)]
              have HR2 := Lib.hid hr2
              obtain ⟨rv, hrv⟩ : ∃ z, z = rightV v' := ⟨_, rfl⟩
              rw [← hrv] at HV HR2
              obtain ⟨⟨pk, ps, pn⟩, hpl⟩ : ∃ z, z = plain v' := ⟨_, rfl⟩
              rw [← hpl] at HR2 HPL
              simp only [vv] at HPL
              clear hr hr2 hrv hpl HR HFR hfkn hk hv' HOK
              refine held_start (by kernel_rfl) ?_
              refine wpAnyH_take (i := 0) (oi := { dst := some 60, op := Go.Op.fieldAddr 43 (Go.Operand.tmp 9) 1, type := 0, pos := "ref.go:104", after := #[], guard := none }) (v := ?_) rfl (by kernel_rfl) (by kernel_rfl) (by kernel_rfl) (fun _ _ _ h => h) (Or.inl ⟨by rfl, ?_⟩) (Kp.refl _) ?_
              rotate_left 1
              · intro w5 hSw
                go_simp; all_goals (with_reducible rfl)
              try simp only [Act.put, List.setIfInBounds_toArray, List.set_cons_zero, List.set_cons_succ]
              refine wpAnyH_take (i := 1) (oi := { dst := some 61, op := Go.Op.load 3 (Go.Operand.tmp 60), type := 3, pos := "ref.go:104", after := #[{ on := 0, ground := Go.Ground.data }], guard := none }) (v := ?_) rfl (by kernel_rfl) (by kernel_rfl) (by kernel_rfl) (fun _ _ _ h => h) (Or.inl ⟨by rfl, ?_⟩) (Kp.refl _) ?_
              rotate_left 1
              · intro w5 hSw
                have qy1 := (hSw.cell hl9).trans y1
                go_simp; all_goals (with_reducible rfl)
              try simp only [Act.put, List.setIfInBounds_toArray, List.set_cons_zero, List.set_cons_succ]
              refine wpAnyH_take (i := 2) (oi := { dst := some 62, op := Go.Op.move (Go.Operand.tmp 10), type := 55, pos := "ref.go:104", after := #[], guard := none }) (v := ?_) rfl (by kernel_rfl) (by kernel_rfl) (by kernel_rfl) (fun _ _ _ h => h) (Or.inl ⟨by rfl, ?_⟩) (Kp.refl _) ?_
              rotate_left 1
              · intro w5 hSw
                go_simp; all_goals (with_reducible rfl)
              try simp only [Act.put, List.setIfInBounds_toArray, List.set_cons_zero, List.set_cons_succ]
              refine wpAnyH_take (i := 3) (oi := { dst := some 63, op := Go.Op.fieldAddr 43 (Go.Operand.tmp 9) 0, type := 0, pos := "ref.go:104", after := #[], guard := none }) (v := ?_) rfl (by kernel_rfl) (by kernel_rfl) (by kernel_rfl) (fun _ _ _ h => h) (Or.inl ⟨by rfl, ?_⟩) (Kp.refl _) ?_
              rotate_left 1
              · intro w5 hSw
                go_simp; all_goals (with_reducible rfl)
              try simp only [Act.put, List.setIfInBounds_toArray, List.set_cons_zero, List.set_cons_succ]
              refine wpAnyH_take (i := 4) (oi := { dst := some 64, op := Go.Op.load 3 (Go.Operand.tmp 63), type := 3, pos := "ref.go:104", after := #[{ on := 3, ground := Go.Ground.data }], guard := none }) (v := ?_) rfl (by kernel_rfl) (by kernel_rfl) (by kernel_rfl) (fun _ _ _ h => h) (Or.inl ⟨by rfl, ?_⟩) (Kp.refl _) ?_
              rotate_left 1
              · intro w5 hSw
                have qy0 := (hSw.cell hl9).trans y0
                go_simp; all_goals (with_reducible rfl)
              try simp only [Act.put, List.setIfInBounds_toArray, List.set_cons_zero, List.set_cons_succ]
              refine wpAnyH_take (i := 5) (oi := { dst := some 65, op := Go.Op.indexAddr 55 (Go.Operand.tmp 62) (Go.Operand.tmp 64), type := 0, pos := "ref.go:104", after := #[{ on := 2, ground := Go.Ground.data }, { on := 4, ground := Go.Ground.data }], guard := none }) (v := ?_) rfl (by kernel_rfl) (by kernel_rfl) (by kernel_rfl) (fun _ _ _ h => h) (Or.inl ⟨by rfl, ?_⟩) (Kp.refl _) ?_
              rotate_left 1
              · intro w5 hSw
                go_simp; all_goals (with_reducible rfl)
              try simp only [Act.put, List.setIfInBounds_toArray, List.set_cons_zero, List.set_cons_succ]
              refine wpAnyH_take (i := 6) (oi := { dst := some 66, op := Go.Op.load 3 (Go.Operand.tmp 65), type := 3, pos := "ref.go:104", after := #[{ on := 5, ground := Go.Ground.data }], guard := none }) (v := ?_) rfl (by kernel_rfl) (by kernel_rfl) (by kernel_rfl) (fun _ _ _ h => h) (Or.inl ⟨by rfl, ?_⟩) (Kp.refl _) ?_
              rotate_left 1
              · intro w5 hSw
                have qyk := (hSw.cell hl10).trans yk
                go_simp; all_goals (with_reducible rfl)
              try simp only [Act.put, List.setIfInBounds_toArray, List.set_cons_zero, List.set_cons_succ]
              refine wpAnyH_take (i := 7) (oi := { dst := some 67, op := Go.Op.binOp Go.BinOp.neq 3 (Go.Operand.tmp 61) (Go.Operand.tmp 66) 3, type := 4, pos := "ref.go:104", after := #[{ on := 1, ground := Go.Ground.data }, { on := 6, ground := Go.Ground.data }], guard := none }) (v := ?_) rfl (by kernel_rfl) (by kernel_rfl) (by kernel_rfl) (fun _ _ _ h => h) (Or.inl ⟨by rfl, ?_⟩) (Kp.refl _) ?_
              rotate_left 1
              · intro w5 hSw
                go_simp; all_goals (with_reducible rfl)
              try simp only [Act.put, List.setIfInBounds_toArray, List.set_cons_zero, List.set_cons_succ]
              refine wpAnyH_take (i := 8) (oi := { dst := some 68, op := Go.Op.move (Go.Operand.tmp 67), type := 4, pos := "ref.go:104", after := #[{ on := 7, ground := Go.Ground.data }], guard := none }) (v := ?_) rfl (by kernel_rfl) (by kernel_rfl) (by kernel_rfl) (fun _ _ _ h => h) (Or.inl ⟨by rfl, ?_⟩) (Kp.refl _) ?_
              rotate_left 1
              · intro w5 hSw
                go_simp; all_goals (with_reducible rfl)
              try simp only [Act.put, List.setIfInBounds_toArray, List.set_cons_zero, List.set_cons_succ]
              refine wpAnyH_take (i := 9) (oi := { dst := some 69, op := Go.Op.load 24 (Go.Operand.tmp 11), type := 24, pos := "ref.go:104", after := #[{ on := 8, ground := Go.Ground.guard }], guard := some (8, false) }) (v := ?_) rfl (by kernel_rfl) (by kernel_rfl) (by kernel_rfl) (fun _ _ _ h => h) (Or.inl ⟨by rfl, ?_⟩) (Kp.refl _) ?_
              rotate_left 1
              · intro w5 hSw
                have qo0 := (hSw.cell hl11).trans o0
                have qo1 := (hSw.cell hl11).trans o1
                have qo2 := (hSw.cell hl11).trans o2
                go_simp; all_goals (with_reducible rfl)
              try simp only [Act.put, List.setIfInBounds_toArray, List.set_cons_zero, List.set_cons_succ]
              refine wpAnyH_ready (rs := [10]) (by kernel_rfl) (by simp) ?_
              refine AllReadyH.cons (o := { dst := some 70, op := Go.Op.call { callee := Go.Callee.value (Go.Operand.func 9), args := #[Go.Operand.tmp 69], argTypes := #[24] }, type := 4, pos := "ref.go:104", after := #[{ on := 9, ground := Go.Ground.data }, { on := 8, ground := Go.Ground.chain }, { on := 8, ground := Go.Ground.guard }], guard := some (8, false) }) rfl (fun K hK => ?_) AllReadyH.nil
              go_simp
              refine (HV.out O.drew ⟨rfl, rfl, rfl, Nat.le_refl _, fun _ _ => rfl⟩).mono ?_; rintro e U ⟨rfl, hb9⟩
              go_wp2_with fail
              refine hK.out _ _ (hb9) (fun _ => ?_)
              clear hK K
              try simp only [Act.put, List.setIfInBounds_toArray, List.set_cons_zero, List.set_cons_succ]
              refine wpAnyH_take (i := 11) (oi := { dst := some 71, op := Go.Op.unOp Go.UnOp.not 4 (Go.Operand.tmp 70), type := 4, pos := "ref.go:104", after := #[{ on := 10, ground := Go.Ground.data }, { on := 8, ground := Go.Ground.guard }], guard := some (8, false) }) (v := ?_) rfl (by kernel_rfl) (by kernel_rfl) (by kernel_rfl) (fun _ _ _ h => h) (Or.inl ⟨by rfl, ?_⟩) (hb9) ?_
              rotate_left 1
              · intro w5 hSw
                go_simp; all_goals (with_reducible rfl)
              try simp only [Act.put, List.setIfInBounds_toArray, List.set_cons_zero, List.set_cons_succ]
              refine wpAnyH_take (i := 12) (oi := { dst := some 72, op := Go.Op.pick (Go.Operand.tmp 68) (Go.Operand.const (Go.Value.bool true)) (Go.Operand.tmp 71), type := 4, pos := "ref.go:104", after := #[{ on := 8, ground := Go.Ground.data }, { on := 11, ground := Go.Ground.data }], guard := none }) (v := ?_) rfl (by kernel_rfl) (by kernel_rfl) (by kernel_rfl) (fun _ _ _ h => h) (Or.inl ⟨by rfl, ?_⟩) (hb9) ?_
              rotate_left 1
              · intro w5 hSw
                go_simp; all_goals (with_reducible rfl)
              try simp only [Act.put, List.setIfInBounds_toArray, List.set_cons_zero, List.set_cons_succ]
              refine wpAnyH_done (by kernel_rfl) ?_ _
              have hbY : Below O.heap.size O U := ⟨hb9.os, hb9.tape, hb9.output, hb9.size, hb9.block⟩
              have HWU := Lib.hid (HWF.out.below hbY HWF.out.lt)
              have HBU := Lib.hid (HBF.out.trans (hbY.mono HBF.out.size))
              have HW11 := HWO.out.below hbY HWO.out.lt
              have p0 : U.cell? ⟨b11, 0, none⟩ = some (.int .i64 (nm : Int)) := HW11.cell 0
              have p1 : U.cell? ⟨b11, 1, none⟩ = some (.string (strOf data)) := HW11.cell 1
              have p2 : U.cell? ⟨b11, 2, none⟩ = some (.int .u64 (int : Int)) := HW11.cell 2
              clear y0 y1 yk o0 o1 o2 hl9 hl10 hl11 hbY hb9 HW11 HWF HBF HW9 HW10 HWO HV
              cases hrv : rv with
              | false =>
                subst hrv
                have hr : r = (zeroV, 3) := by rw [HR2.out]; rfl
                clear HR2 HPL p0 p1 p2
                subst hr
                have e0 : (U).cell? ⟨b2, 0, none⟩ = some (.int .i64 0) := HWU.out.cell 0
                have e1 : (U).cell? ⟨b2, 1, none⟩ = some (.string ⟨#[]⟩) := HWU.out.cell 1
                have e2 : (U).cell? ⟨b2, 2, none⟩ = some (.int .u64 0) := HWU.out.cell 2
                have f0 : (U).frozen? ⟨b2, 0, none⟩ = false := HWU.out.frozen 0
                have f1 : (U).frozen? ⟨b2, 1, none⟩ = false := HWU.out.frozen 1
                have f2 : (U).frozen? ⟨b2, 2, none⟩ = false := HWU.out.frozen 2
                go_wp2_with fail
                obtain ⟨V, hV⟩ : ∃ z, z = (((U).setCell ⟨b2, 0, none⟩ (.int .i64 0)).setCell ⟨b2, 1, none⟩ (.string ⟨#[]⟩)).setCell ⟨b2, 2, none⟩ (.int .u64 0) := ⟨_, rfl⟩
                have hWV : Whole V b2 24 #[.int .i64 0, .string ⟨#[]⟩, .int .u64 0] := by
                  rw [hV]
                  simpa using ((HWU.out.set 0 (.int .i64 0)).set 1 (.string ⟨#[]⟩)).set 2 (.int .u64 0)
                have hBV : Below w.heap.size w V := by
                  rw [hV]
                  exact ((HBU.out.setCell (p := ⟨b2, 0, none⟩) hlo _).setCell (p := ⟨b2, 1, none⟩) hlo _).setCell (p := ⟨b2, 2, none⟩) hlo _
                have v0 : V.cell? ⟨b2, 0, none⟩ = some (.int .i64 0) := hWV.cell 0
                have v1 : V.cell? ⟨b2, 1, none⟩ = some (.string ⟨#[]⟩) := hWV.cell 1
                have v2 : V.cell? ⟨b2, 2, none⟩ = some (.int .u64 0) := hWV.cell 2
                rw [← hV]
                exact bodyPost_ret (v := .tuple #[.agg #[.int .i64 0, .string ⟨#[]⟩, .int .u64 0], .int .i64 3]) (by simp [results, Tryd.results17, asAddr, go_sem, v0, v1, v2]) rfl ⟨rfl, hBV⟩
              | true =>
                subst hrv
                have hr : r = ((pk, ps, pn), 0) := by rw [HR2.out]; rfl
                clear HR2
                subst hr
                go_wp2_with fail
                refine (HPL.out _).mono ?_
                rintro e U2 ⟨rfl, hU2⟩
                have HWU := Lib.hid (HWU.out.below hU2 HWU.out.lt)
                have HBU := Lib.hid (HBU.out.trans (hU2.mono HBU.out.size))
                clear hU2 p0 p1 p2
                have e0 : (U2).cell? ⟨b2, 0, none⟩ = some (.int .i64 0) := HWU.out.cell 0
                have e1 : (U2).cell? ⟨b2, 1, none⟩ = some (.string ⟨#[]⟩) := HWU.out.cell 1
                have e2 : (U2).cell? ⟨b2, 2, none⟩ = some (.int .u64 0) := HWU.out.cell 2
                have f0 : (U2).frozen? ⟨b2, 0, none⟩ = false := HWU.out.frozen 0
                have f1 : (U2).frozen? ⟨b2, 1, none⟩ = false := HWU.out.frozen 1
                have f2 : (U2).frozen? ⟨b2, 2, none⟩ = false := HWU.out.frozen 2
                go_wp2_with fail
                obtain ⟨V, hV⟩ : ∃ z, z = (((U2).setCell ⟨b2, 0, none⟩ (.int .i64 pk)).setCell ⟨b2, 1, none⟩ (.string ps)).setCell ⟨b2, 2, none⟩ (.int .u64 (pn : Int)) := ⟨_, rfl⟩
                have hWV : Whole V b2 24 #[.int .i64 pk, .string ps, .int .u64 (pn : Int)] := by
                  rw [hV]
                  simpa using ((HWU.out.set 0 (.int .i64 pk)).set 1 (.string ps)).set 2 (.int .u64 (pn : Int))
                have hBV : Below w.heap.size w V := by
                  rw [hV]
                  exact ((HBU.out.setCell (p := ⟨b2, 0, none⟩) hlo _).setCell (p := ⟨b2, 1, none⟩) hlo _).setCell (p := ⟨b2, 2, none⟩) hlo _
                have v0 : V.cell? ⟨b2, 0, none⟩ = some (.int .i64 pk) := hWV.cell 0
                have v1 : V.cell? ⟨b2, 1, none⟩ = some (.string ps) := hWV.cell 1
                have v2 : V.cell? ⟨b2, 2, none⟩ = some (.int .u64 (pn : Int)) := hWV.cell 2
                rw [← hV]
                exact bodyPost_ret (v := .tuple #[.agg #[.int .i64 pk, .string ps, .int .u64 (pn : Int)], .int .i64 0]) (by simp [results, Tryd.results17, asAddr, go_sem, v0, v1, v2]) rfl ⟨rfl, hBV⟩
            · have dk : ((kd : Int) != fkn) = true := by simpa using hk
              have hr2 : r = (zeroV, 3) := by
                rw [hr]
                unfold oneV
                rw [if_pos (by rw [← hfkn]; exact hk)]
              clear hr HR HFR hfkn hk hv' HOK HV HPL
              subst hr2
              go_quiet (fail)
              have HWD : Hid (Whole (O.drewN nq) b2 24 #[.int .i64 0, .string ⟨#[]⟩, .int .u64 0]) := HWF.out
              have HBD : Hid (Below w.heap.size w (O.drewN nq)) := ⟨HBF.out.os, HBF.out.tape, HBF.out.output, HBF.out.size, HBF.out.block⟩
              obtain ⟨D, hD⟩ : ∃ z, z = O.drewN nq := ⟨_, rfl⟩
              rw [← hD] at HWD HBD ⊢
              clear hD y0 y1 yk o0 o1 o2 hl9 hl10 hl11
              have e0 : (D).cell? ⟨b2, 0, none⟩ = some (.int .i64 0) := HWD.out.cell 0
              have e1 : (D).cell? ⟨b2, 1, none⟩ = some (.string ⟨#[]⟩) := HWD.out.cell 1
              have e2 : (D).cell? ⟨b2, 2, none⟩ = some (.int .u64 0) := HWD.out.cell 2
              have f0 : (D).frozen? ⟨b2, 0, none⟩ = false := HWD.out.frozen 0
              have f1 : (D).frozen? ⟨b2, 1, none⟩ = false := HWD.out.frozen 1
              have f2 : (D).frozen? ⟨b2, 2, none⟩ = false := HWD.out.frozen 2
              go_wp2_with fail
              obtain ⟨V, hV⟩ : ∃ z, z = (((D).setCell ⟨b2, 0, none⟩ (.int .i64 0)).setCell ⟨b2, 1, none⟩ (.string ⟨#[]⟩)).setCell ⟨b2, 2, none⟩ (.int .u64 0) := ⟨_, rfl⟩
              have hWV : Whole V b2 24 #[.int .i64 0, .string ⟨#[]⟩, .int .u64 0] := by
                rw [hV]
                simpa using ((HWD.out.set 0 (.int .i64 0)).set 1 (.string ⟨#[]⟩)).set 2 (.int .u64 0)
              have hBV : Below w.heap.size w V := by
                rw [hV]
                exact ((HBD.out.setCell (p := ⟨b2, 0, none⟩) hlo _).setCell (p := ⟨b2, 1, none⟩) hlo _).setCell (p := ⟨b2, 2, none⟩) hlo _
              have v0 : V.cell? ⟨b2, 0, none⟩ = some (.int .i64 0) := hWV.cell 0
              have v1 : V.cell? ⟨b2, 1, none⟩ = some (.string ⟨#[]⟩) := hWV.cell 1
              have v2 : V.cell? ⟨b2, 2, none⟩ = some (.int .u64 0) := hWV.cell 2
              rw [← hV]
              exact bodyPost_ret (v := .tuple #[.agg #[.int .i64 0, .string ⟨#[]⟩, .int .u64 0], .int .i64 3]) (by simp [results, Tryd.results17, asAddr, go_sem, v0, v1, v2]) rfl ⟨rfl, hBV⟩
        · have hr : r = (zeroV, 3) := by rw [HR.out, if_pos h1]
          subst hr
          obtain ⟨n, hn⟩ : ∃ z, z = (knTo gs k).length := ⟨_, rfl⟩
          rw [← hn] at h1 hkn ⊢
          have dn : ((n : Int) == 1) = false := by simp; omega
          have e0 : (wr).cell? ⟨b2, 0, none⟩ = some (.int .i64 0) := HWZ.out.cell 0
          have e1 : (wr).cell? ⟨b2, 1, none⟩ = some (.string ⟨#[]⟩) := HWZ.out.cell 1
          have e2 : (wr).cell? ⟨b2, 2, none⟩ = some (.int .u64 0) := HWZ.out.cell 2
          have f0 : (wr).frozen? ⟨b2, 0, none⟩ = false := HWZ.out.frozen 0
          have f1 : (wr).frozen? ⟨b2, 1, none⟩ = false := HWZ.out.frozen 1
          have f2 : (wr).frozen? ⟨b2, 2, none⟩ = false := HWZ.out.frozen 2
          clear HO HR HGok HA h1
          go_wp2_with fail
          obtain ⟨V, hV⟩ : ∃ z, z = (((wr).setCell ⟨b2, 0, none⟩ (.int .i64 0)).setCell ⟨b2, 1, none⟩ (.string ⟨#[]⟩)).setCell ⟨b2, 2, none⟩ (.int .u64 0) := ⟨_, rfl⟩
          have hWV : Whole V b2 24 #[.int .i64 0, .string ⟨#[]⟩, .int .u64 0] := by
            rw [hV]
            simpa using ((HWZ.out.set 0 (.int .i64 0)).set 1 (.string ⟨#[]⟩)).set 2 (.int .u64 0)
          have hBV : Below w.heap.size w V := by
            rw [hV]
            exact ((HBZ.out.setCell (p := ⟨b2, 0, none⟩) hlo _).setCell (p := ⟨b2, 1, none⟩) hlo _).setCell (p := ⟨b2, 2, none⟩) hlo _
          have v0 : V.cell? ⟨b2, 0, none⟩ = some (.int .i64 0) := hWV.cell 0
          have v1 : V.cell? ⟨b2, 1, none⟩ = some (.string ⟨#[]⟩) := hWV.cell 1
          have v2 : V.cell? ⟨b2, 2, none⟩ = some (.int .u64 0) := hWV.cell 2
          rw [← hV]
          exact bodyPost_ret (v := .tuple #[.agg #[.int .i64 0, .string ⟨#[]⟩, .int .u64 0], .int .i64 3]) (by simp [results, Tryd.results17, asAddr, go_sem, v0, v1, v2]) rfl ⟨rfl, hBV⟩
  · have hr : r = (zeroV, E) := by rw [HR.out, if_pos hE]
    subst hr
    have he : ((E : Int) == 0) = false := by simpa using hE
    have e0 : (Z).cell? ⟨b2, 0, none⟩ = some (.int .i64 0) := HWZ.out.cell 0
    have e1 : (Z).cell? ⟨b2, 1, none⟩ = some (.string ⟨#[]⟩) := HWZ.out.cell 1
    have e2 : (Z).cell? ⟨b2, 2, none⟩ = some (.int .u64 0) := HWZ.out.cell 2
    have f0 : (Z).frozen? ⟨b2, 0, none⟩ = false := HWZ.out.frozen 0
    have f1 : (Z).frozen? ⟨b2, 1, none⟩ = false := HWZ.out.frozen 1
    have f2 : (Z).frozen? ⟨b2, 2, none⟩ = false := HWZ.out.frozen 2
    clear HO HR HOk HXl
    go_wp2_with fail
    obtain ⟨V, hV⟩ : ∃ z, z = (((Z).setCell ⟨b2, 0, none⟩ (.int .i64 0)).setCell ⟨b2, 1, none⟩ (.string ⟨#[]⟩)).setCell ⟨b2, 2, none⟩ (.int .u64 0) := ⟨_, rfl⟩
    have hWV : Whole V b2 24 #[.int .i64 0, .string ⟨#[]⟩, .int .u64 0] := by
      rw [hV]
      simpa using ((HWZ.out.set 0 (.int .i64 0)).set 1 (.string ⟨#[]⟩)).set 2 (.int .u64 0)
    have hBV : Below w.heap.size w V := by
      rw [hV]
      exact ((HBZ.out.setCell (p := ⟨b2, 0, none⟩) hlo _).setCell (p := ⟨b2, 1, none⟩) hlo _).setCell (p := ⟨b2, 2, none⟩) hlo _
    have v0 : V.cell? ⟨b2, 0, none⟩ = some (.int .i64 0) := hWV.cell 0
    have v1 : V.cell? ⟨b2, 1, none⟩ = some (.string ⟨#[]⟩) := hWV.cell 1
    have v2 : V.cell? ⟨b2, 2, none⟩ = some (.int .u64 0) := hWV.cell 2
    rw [← hV]
    exact bodyPost_ret (v := .tuple #[.agg #[.int .i64 0, .string ⟨#[]⟩, .int .u64 0], .int .i64 (E : Int)]) (by simp [results, Tryd.results17, asAddr, go_sem, v0, v1, v2]) rfl ⟨rfl, hBV⟩
end Go.Proofs.YtdifojeghplpeaaDoor
