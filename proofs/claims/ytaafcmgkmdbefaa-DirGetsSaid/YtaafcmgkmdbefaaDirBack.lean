/- Layer 12: what Put gives is got again; what Get gives is put no longer. Plain mathematics. -/
import Derived.Test.YtaafcmgkmdbefaaDirGetMath
namespace Go.Proofs.Ytaafcmgkmdbefaa
open Go.RowKit Var
set_option linter.unusedVariables false

theorem vres_at (P R : List Nat) (x : Nat) (hx : x < 18446744073709551616) : vres (P ++ (vb x ++ R)) (P.length : Nat) = (x, P.length + (vb x).length, 0) := by
  unfold vres
  rw [if_neg (by simp; omega)]
  simp [vd_vb0 hx]
theorem vbs_append (a b : List Nat) : vbs (a ++ b) = vbs a ++ vbs b := by simp [vbs]
theorem vbs_split (xs : List Nat) (t : Nat) (ht : t < xs.length) : vbs xs = vbs (xs.take t) ++ (vb xs[t] ++ vbs (xs.drop (t + 1))) := by
  have h : xs = xs.take t ++ (xs[t] :: xs.drop (t + 1)) := by rw [← List.drop_eq_getElem_cons ht, List.take_append_drop]
  conv => lhs; rw [h]
  rw [vbs_append, vbs_cons]
theorem pAt_vbs (P xs : List Nat) (h : ∀ x ∈ xs, x < 18446744073709551616) : ∀ t, t ≤ xs.length → pAt (P ++ vbs xs) P.length t = P.length + (vbs (xs.take t)).length ∧ (∀ (h : t < xs.length), vAt (P ++ vbs xs) P.length t = xs[t] ∧ eAt (P ++ vbs xs) P.length t = 0) := by
  have key : ∀ t (ht : t < xs.length), vres (P ++ vbs xs) ((P.length + (vbs (xs.take t)).length : Nat) : Int) = (xs[t], P.length + (vbs (xs.take t)).length + (vb xs[t]).length, 0) := by
    intro t ht
    have := vres_at (P ++ vbs (xs.take t)) (vbs (xs.drop (t + 1))) xs[t] (h _ (List.getElem_mem ht))
    rw [List.length_append] at this
    rw [← this, vbs_split xs t ht, List.append_assoc]
  intro t
  induction t with
  | zero =>
    intro _
    refine ⟨by simp [pAt, vbs], fun ht => ?_⟩
    have k := key 0 ht
    simp [vbs] at k
    unfold vAt eAt
    have e : pAt (P ++ vbs xs) P.length 0 = P.length := rfl
    rw [e]
    simp only [vbs]
    rw [k]
    exact ⟨rfl, rfl⟩
  | succ t ih =>
    intro ht
    obtain ⟨ih1, _⟩ := ih (by omega)
    have hp : pAt (P ++ vbs xs) P.length (t + 1) = P.length + (vbs (xs.take (t + 1))).length := by
      show (vres (P ++ vbs xs) (pAt (P ++ vbs xs) P.length t : Nat)).2.1 = _
      rw [ih1, key t (by omega)]
      rw [List.take_succ_eq_append_getElem (by omega), vbs_append, List.length_append]
      simp [vbs]
      omega
    refine ⟨hp, fun ht2 => ?_⟩
    unfold vAt eAt
    rw [hp, key (t + 1) ht2]
    exact ⟨rfl, rfl⟩

theorem gaps_length : ∀ (b : Nat) (l : List En), (gaps b l).length = l.length
  | _, [] => rfl
  | b, e :: l => by simp [gaps, gaps_length]
theorem offs_length : ∀ (p : Option En) (l : List En), (offs p l).length = l.length
  | _, [] => rfl
  | p, e :: l => by simp [offs, offs_length]
theorem gaps_at : ∀ (b : Nat) (l : List En) (i : Nat) (h : i < l.length), (gaps b l)[i]? = some ((l[i]).id - (if i = 0 then b else (l[i - 1]).id))
  | b, e :: l, 0, _ => by simp [gaps]
  | b, e :: l, i + 1, h => by
    have := gaps_at e.id l i (by simpa using h)
    simp only [gaps, List.getElem?_cons_succ, this]
    cases i with
    | zero => simp
    | succ i => simp
theorem offs_at : ∀ (p : Option En) (l : List En) (i : Nat) (h : i < l.length), (offs p l)[i]? = some (offE (if i = 0 then p else some l[i - 1]) l[i])
  | p, e :: l, 0, _ => by simp [offs]
  | p, e :: l, i + 1, h => by
    have := offs_at (some e) l i (by simpa using h)
    simp only [offs, List.getElem?_cons_succ, this]
    cases i with
    | zero => simp
    | succ i => simp
def nums (l : List En) : List Nat := gaps 0 l ++ (l.map En.run ++ (l.map En.len ++ offs none l))
theorem putE_nums (l : List En) : putE l = vb l.length ++ vbs (nums l) := by simp [putE, nums, vbs_append]
theorem nums_length (l : List En) : (nums l).length = 4 * l.length := by simp [nums, gaps_length, offs_length]; omega
theorem nums_0 (l : List En) (i : Nat) (h : i < l.length) : (nums l)[i]? = some ((l[i]).id - (if i = 0 then 0 else (l[i - 1]).id)) := by
  unfold nums
  rw [List.getElem?_append_left (by rw [gaps_length]; exact h)]
  exact gaps_at 0 l i h
theorem nums_1 (l : List En) (i : Nat) (h : i < l.length) : (nums l)[l.length + i]? = some (l[i]).run := by
  unfold nums
  rw [List.getElem?_append_right (by rw [gaps_length]; omega), gaps_length, List.getElem?_append_left (by simp; omega)]
  simp [h]
theorem nums_2 (l : List En) (i : Nat) (h : i < l.length) : (nums l)[2 * l.length + i]? = some (l[i]).len := by
  unfold nums
  rw [List.getElem?_append_right (by rw [gaps_length]; omega), gaps_length, List.getElem?_append_right (by simp; omega), List.length_map, List.getElem?_append_left (by simp; omega)]
  rw [show 2 * l.length + i - l.length - l.length = i by omega]
  simp [h]
theorem nums_3 (l : List En) (i : Nat) (h : i < l.length) : (nums l)[3 * l.length + i]? = some (offE (if i = 0 then none else some l[i - 1]) l[i]) := by
  unfold nums
  rw [List.getElem?_append_right (by rw [gaps_length]; omega), gaps_length, List.getElem?_append_right (by simp; omega), List.length_map, List.getElem?_append_right (by simp; omega), List.length_map]
  rw [show 3 * l.length + i - l.length - l.length - l.length = i by omega]
  exact offs_at none l i h
theorem getQ {l : List Nat} {i x : Nat} (h : l[i]? = some x) : ∃ hi : i < l.length, l[i] = x := by
  rw [List.getElem?_eq_some_iff] at h
  exact h
theorem one_of {l : List En} (hr : rightE l = true) (i : Nat) (h : i < l.length) : (l[i]).id < 4611686018427387904 ∧ (l[i]).run < 4294967296 ∧ 1 ≤ (l[i]).len ∧ (l[i]).len ≤ 4194304 ∧ (l[i]).off ≤ 4194304 := oneE_yes ((right_all hr).2.1 i h)
theorem id_rise {l : List En} (hr : rightE l = true) (i : Nat) (h : i + 1 < l.length) : (l[i]).id < (l[i + 1]).id := (right_all hr).2.2 i (i + 1) (by omega) h (by omega)
theorem nums_lt {l : List En} (hr : rightE l = true) : ∀ x ∈ nums l, x < 18446744073709551616 := by
  intro x hx
  obtain ⟨t, ht, rfl⟩ := List.mem_iff_getElem.1 hx
  rw [nums_length] at ht
  have hn := (right_all hr).1
  have key : ∀ y, (nums l)[t]? = some y → (nums l)[t]'(by rw [nums_length]; exact ht) = y := fun y hy => (getQ hy).2
  by_cases h0 : t < l.length
  · rw [key _ (nums_0 l t h0)]
    have := one_of hr t h0
    omega
  · by_cases h1 : t < 2 * l.length
    · obtain ⟨i, rfl⟩ : ∃ i, t = l.length + i := ⟨t - l.length, by omega⟩
      rw [key _ (nums_1 l i (by omega))]
      have := one_of hr i (by omega)
      omega
    · by_cases h2 : t < 3 * l.length
      · obtain ⟨i, rfl⟩ : ∃ i, t = 2 * l.length + i := ⟨t - 2 * l.length, by omega⟩
        rw [key _ (nums_2 l i (by omega))]
        have := one_of hr i (by omega)
        omega
      · obtain ⟨i, rfl⟩ : ∃ i, t = 3 * l.length + i := ⟨t - 3 * l.length, by omega⟩
        rw [key _ (nums_3 l i (by omega))]
        have := one_of hr i (by omega)
        unfold offE
        split
        · omega
        · split <;> omega

theorem fst_none (l : List Nat) (p0 n : Nat) : ∀ c t, (∀ s, t ≤ s → s < t + c → badE l p0 n s = 0) → fstE l p0 n c t = 0
  | 0, _, _ => rfl
  | c + 1, t, h => by
    have h0 := h t (Nat.le_refl _) (by omega)
    have : fstE l p0 n (c + 1) t = fstE l p0 n c (t + 1) := by
      show (if badE l p0 n t ≠ 0 then badE l p0 n t else fstE l p0 n c (t + 1)) = _
      rw [if_neg (by simp [h0])]
    rw [this]
    exact fst_none l p0 n c (t + 1) (fun s h1 h2 => h s (by omega) (by omega))
theorem fst_all (l : List Nat) (p0 n : Nat) : ∀ c t, fstE l p0 n c t = 0 → ∀ s, t ≤ s → s < t + c → badE l p0 n s = 0
  | 0, _, _, _, _, _ => by omega
  | c + 1, t, h, s, h1, h2 => by
    have h0 : (if badE l p0 n t ≠ 0 then badE l p0 n t else fstE l p0 n c (t + 1)) = 0 := h
    by_cases hb : badE l p0 n t = 0
    · rw [if_neg (by simp [hb])] at h0
      by_cases hs : s = t
      · rw [hs]; exact hb
      · exact fst_all l p0 n c (t + 1) h0 s (by omega) (by omega)
    · rw [if_pos hb] at h0; exact absurd h0 hb

/-- What was put is got. -/
theorem get_put {l : List En} (hr : rightE l = true) : getE (putE l) = (l, 0) := by
  have hn := (right_all hr).1
  have hlt := nums_lt hr
  have hv0 : vres (putE l) (0 : Nat) = (l.length, (vb l.length).length, 0) := by
    have := vres_at [] (vbs (nums l)) l.length (by omega)
    simp only [List.nil_append, List.length_nil, Nat.zero_add] at this
    rw [putE_nums]; exact this
  have hA := pAt_vbs (vb l.length) (nums l) hlt
  rw [← putE_nums] at hA
  have hnl := nums_length l
  generalize hP : (vb l.length).length = p0 at *
  have hv : ∀ t x, (nums l)[t]? = some x → vAt (putE l) p0 t = x ∧ eAt (putE l) p0 t = 0 := by
    intro t x hx
    obtain ⟨h1, h2⟩ := getQ hx
    have h3 : t < 4 * l.length := by rw [← nums_length]; exact h1
    have := (hA t (by omega)).2 h1
    exact ⟨by rw [this.1, h2], this.2⟩
  have he : ∀ t, t < 4 * l.length → eAt (putE l) p0 t = 0 := fun t ht => ((hA t (by omega)).2 (by omega)).2
  have hid : ∀ j (h : j < l.length), idAt (putE l) p0 j = (l[j]).id := by
    intro j
    induction j with
    | zero =>
      intro h
      have := (hv 0 _ (nums_0 l 0 h)).1
      simpa [idAt] using this
    | succ j ih =>
      intro h
      have h1 := (hv (j + 1) _ (nums_0 l (j + 1) h)).1
      rw [if_neg (by omega)] at h1
      show (idAt (putE l) p0 j + vAt (putE l) p0 (j + 1)) % 18446744073709551616 = _
      rw [ih (by omega), h1]
      have h2 := id_rise hr j h
      have h3 := one_of hr (j + 1) h
      simp only [Nat.add_sub_cancel] at *
      omega
  have hoff : ∀ j (h : j < l.length), offAt (putE l) p0 l.length j = (l[j]).off := by
    intro j
    induction j with
    | zero =>
      intro h
      have := (hv _ _ (nums_3 l 0 h)).1
      rw [if_pos rfl] at this
      show vAt (putE l) p0 (3 * l.length) - 1 = _
      have h0 : 3 * l.length + 0 = 3 * l.length := rfl
      rw [h0] at this
      rw [this]
      rfl
    | succ j ih =>
      intro h
      have h1 := (hv _ _ (nums_3 l (j + 1) h)).1
      rw [if_neg (by omega)] at h1
      have h2 := (hv _ _ (nums_2 l j (by omega))).1
      show (if vAt (putE l) p0 (3 * l.length + (j + 1)) = 0 then (offAt (putE l) p0 l.length j + vAt (putE l) p0 (2 * l.length + j)) % 18446744073709551616 else vAt (putE l) p0 (3 * l.length + (j + 1)) - 1) = _
      rw [ih (by omega), h1, h2]
      have h3 := one_of hr j (by omega)
      have h4 := one_of hr (j + 1) h
      unfold offE
      simp only [Nat.add_sub_cancel]
      by_cases ho : (l[j + 1]).off = (l[j]).off + (l[j]).len
      · rw [if_pos ho, if_pos rfl]; omega
      · rw [if_neg ho, if_neg (by omega)]; omega
  have hout : outE (putE l) p0 l.length = l := by
    apply List.ext_getElem
    · simp [outE]
    · intro j h1 h2
      simp only [outE, List.getElem_map, List.getElem_range, enAt]
      rw [hid j h2, hoff j h2, (hv _ _ (nums_2 l j h2)).1, (hv _ _ (nums_1 l j h2)).1]
  have hfst : fstE (putE l) p0 l.length (4 * l.length) 0 = 0 := by
    apply fst_none
    intro s _ hs
    unfold badE
    rw [if_neg (by simp [he s (by omega)]), if_neg]
    rintro ⟨rfl, h⟩
    have := (hv _ _ (nums_3 l 0 (by omega))).1
    rw [if_pos rfl] at this
    have h0 : 3 * l.length + 0 = 3 * l.length := rfl
    rw [h0, h] at this
    exact absurd this (by show ¬ 0 = _ + 1; omega)
  have hend : pAt (putE l) p0 (4 * l.length) = (putE l).length := by
    rw [(hA (4 * l.length) (by omega)).1, List.take_of_length_le (by rw [nums_length]; omega), putE_nums, List.length_append, hP]
  unfold getE
  rw [show (0 : Int) = ((0 : Nat) : Int) from rfl, hv0]
  simp only
  rw [if_neg (by simp), if_neg (by omega), if_neg (by simp [hfst]), if_neg, hout]
  rw [hend, hout, hr]
  simp

theorem vb_zero : vb 0 = [0] := vb_small (by omega)
theorem vd_leastD : ∀ (l : List Nat) (i v : Nat), v < 128 ^ i → (vd l i v).2.2 = 0 → (vd l i v).1 < 128 ^ (vd l i v).2.1 ∧ 1 ≤ (vd l i v).2.1
  | [], _, _, _, h => by simp [vd] at h
  | c :: r, i, v, hv, h => by
    by_cases h1 : i = 9 ∧ 1 < c
    · simp [vd, h1] at h
    · by_cases h2 : c < 128
      · rw [vd_last h1 h2]
        exact ⟨vd_step hv h2, by simp⟩
      · rw [vd_more h1 h2] at h ⊢
        exact vd_leastD r (i + 1) _ (vd_step hv (by omega)) h
theorem vres_least {l : List Nat} {p v q : Nat} (h : vres l (p : Nat) = (v, q, 0)) : p + (vb v).length ≤ q ∧ p ≤ q := by
  unfold vres at h
  split at h
  · next h1 => cases h
  · next h1 =>
    simp only [Int.toNat_natCast, Prod.mk.injEq] at h
    obtain ⟨h2, h3, h4⟩ := h
    rw [if_pos h4] at h3
    have h5 := vd_leastD (l.drop p) 0 0 (by simp) h4
    rw [h2] at h5
    obtain ⟨n, hn⟩ : ∃ n, (vd (l.drop p) 0 0).2.1 = n + 1 := ⟨(vd (l.drop p) 0 0).2.1 - 1, by omega⟩
    rw [hn] at h5 h3
    have := vb_len n v h5.1
    omega

theorem vbs_len_take (xs : List Nat) (t : Nat) (h : t < xs.length) : (vbs (xs.take (t + 1))).length = (vbs (xs.take t)).length + (vb xs[t]).length := by
  rw [List.take_succ_eq_append_getElem h, vbs_append, List.length_append]
  simp [vbs]
/-- What was got is put no longer. -/
theorem put_get {b : List Nat} (hb : ∀ x ∈ b, x < 256) {l : List En} (h : getE b = (l, 0)) : rightE l = true ∧ (putE l).length ≤ b.length := by
  unfold getE at h
  rw [show (0 : Int) = ((0 : Nat) : Int) from rfl] at h
  obtain ⟨⟨n, p0, e0⟩, hr0⟩ : ∃ r, vres b (0 : Nat) = r := ⟨_, rfl⟩
  rw [hr0] at h
  simp only at h
  by_cases h1 : e0 = 0
  · subst h1
    rw [if_neg (by simp)] at h
    by_cases h2 : 65536 < n
    · rw [if_pos h2] at h; cases h
    · rw [if_neg h2] at h
      by_cases h3 : fstE b p0 n (4 * n) 0 = 0
      · rw [if_neg (by simp [h3])] at h
        by_cases h4 : pAt b p0 (4 * n) < b.length ∨ rightE (outE b p0 n) = false
        · rw [if_pos h4] at h; cases h
        · rw [if_neg h4] at h
          injection h with hl _
          have hr : rightE l = true := by
            rw [← hl]
            cases hq : rightE (outE b p0 n)
            · exact absurd (.inr hq) h4
            · rfl
          refine ⟨hr, ?_⟩
          have hlen : l.length = n := by rw [← hl]; simp [outE]
          subst hlen
          have hbad := fst_all b p0 l.length (4 * l.length) 0 h3
          have he : ∀ t, t < 4 * l.length → eAt b p0 t = 0 := by
            intro t ht
            have := hbad t (by omega) (by omega)
            unfold badE at this
            by_cases h5 : eAt b p0 t = 0
            · exact h5
            · rw [if_pos h5] at this; exact absurd this h5
          have hfirst : 0 < l.length → vAt b p0 (3 * l.length) ≠ 0 := by
            intro hp h6
            have := hbad (3 * l.length) (by omega) (by omega)
            unfold badE at this
            rw [if_neg (by simp [he (3 * l.length) (by omega)]), if_pos ⟨rfl, h6⟩] at this
            omega
          have hin : ∀ j (h : j < l.length), l[j] = enAt b p0 l.length j := by
            intro j hj
            have : l[j]? = some (enAt b p0 l.length j) := by rw [← hl]; simp [outE, hj, hl]
            rw [List.getElem?_eq_getElem hj] at this
            exact Option.some.inj this
          have hvl : ∀ t, vAt b p0 t < 18446744073709551616 := fun t => vres_lt b _ hb
          have hstep : ∀ t, t < 4 * l.length → pAt b p0 t + (vb (vAt b p0 t)).length ≤ pAt b p0 (t + 1) := by
            intro t ht
            refine (vres_least (l := b) (p := pAt b p0 t) (v := vAt b p0 t) (q := pAt b p0 (t + 1)) ?_).1
            have := he t ht
            unfold vAt eAt at *
            show vres b (pAt b p0 t : Nat) = ((vres b (pAt b p0 t : Nat)).1, (vres b (pAt b p0 t : Nat)).2.1, 0)
            rw [← this]
          have hvb : ∀ t x, (nums l)[t]? = some x → (vb x).length ≤ (vb (vAt b p0 t)).length := by
            intro t x hx
            obtain ⟨ht, _⟩ := getQ hx
            rw [nums_length] at ht
            by_cases c0 : t < l.length
            · have e1 := nums_0 l t c0
              rw [hx] at e1
              injection e1 with e1
              have h5 := congrArg En.id (hin t c0)
              have h6 : (l[t]).id = idAt b p0 t := h5
              have e2 : x = vAt b p0 t := by
                rw [e1]
                cases t with
                | zero => rw [if_pos rfl, h6]; rfl
                | succ j =>
                  rw [if_neg (by omega)]
                  have h7 : (l[j]).id = idAt b p0 j := congrArg En.id (hin j (by omega))
                  have h8 := id_rise hr j c0
                  have h9 := one_of hr (j + 1) c0
                  have h10 : idAt b p0 (j + 1) = (idAt b p0 j + vAt b p0 (j + 1)) % 18446744073709551616 := rfl
                  have h11 := hvl (j + 1)
                  have h12 : (l[j + 1 - 1]'(by omega)).id = (l[j]).id := rfl
                  rw [h12]
                  omega
              rw [e2]; exact Nat.le_refl _
            · by_cases c1 : t < 2 * l.length
              · obtain ⟨i, rfl⟩ : ∃ i, t = l.length + i := ⟨t - l.length, by omega⟩
                have e1 := nums_1 l i (by omega)
                rw [hx] at e1
                injection e1 with e1
                have h6 : (l[i]).run = vAt b p0 (l.length + i) := congrArg En.run (hin i (by omega))
                rw [e1, h6]; exact Nat.le_refl _
              · by_cases c2 : t < 3 * l.length
                · obtain ⟨i, rfl⟩ : ∃ i, t = 2 * l.length + i := ⟨t - 2 * l.length, by omega⟩
                  have e1 := nums_2 l i (by omega)
                  rw [hx] at e1
                  injection e1 with e1
                  have h6 : (l[i]).len = vAt b p0 (2 * l.length + i) := congrArg En.len (hin i (by omega))
                  rw [e1, h6]; exact Nat.le_refl _
                · obtain ⟨i, rfl⟩ : ∃ i, t = 3 * l.length + i := ⟨t - 3 * l.length, by omega⟩
                  have hi : i < l.length := by omega
                  have e1 := nums_3 l i hi
                  rw [hx] at e1
                  injection e1 with e1
                  have h6 : (l[i]).off = offAt b p0 l.length i := congrArg En.off (hin i hi)
                  cases i with
                  | zero =>
                    rw [if_pos rfl] at e1
                    have e2 : x = (l[0]).off + 1 := e1
                    have h7 : offAt b p0 l.length 0 = vAt b p0 (3 * l.length) - 1 := rfl
                    have h8 := hfirst (by omega)
                    have e3 : x = vAt b p0 (3 * l.length + 0) := by show x = vAt b p0 (3 * l.length); omega
                    rw [e3]; exact Nat.le_refl _
                  | succ j =>
                    rw [if_neg (by omega)] at e1
                    have e2 : x = if (l[j + 1]).off = (l[j]).off + (l[j]).len then 0 else (l[j + 1]).off + 1 := e1
                    by_cases ho : (l[j + 1]).off = (l[j]).off + (l[j]).len
                    · rw [if_pos ho] at e2
                      rw [e2, vb_zero]
                      exact vb_pos _
                    · rw [if_neg ho] at e2
                      have h7 : offAt b p0 l.length (j + 1) = if vAt b p0 (3 * l.length + (j + 1)) = 0 then (offAt b p0 l.length j + vAt b p0 (2 * l.length + j)) % 18446744073709551616 else vAt b p0 (3 * l.length + (j + 1)) - 1 := rfl
                      by_cases hz : vAt b p0 (3 * l.length + (j + 1)) = 0
                      · rw [if_pos hz] at h7
                        have h8 : (l[j]).off = offAt b p0 l.length j := congrArg En.off (hin j (by omega))
                        have h9 : (l[j]).len = vAt b p0 (2 * l.length + j) := congrArg En.len (hin j (by omega))
                        have h10 := one_of hr j (by omega)
                        omega
                      · rw [if_neg hz] at h7
                        have e3 : x = vAt b p0 (3 * l.length + (j + 1)) := by omega
                        rw [e3]; exact Nat.le_refl _
          have hsum : ∀ t, t ≤ 4 * l.length → p0 + (vbs ((nums l).take t)).length ≤ pAt b p0 t := by
            intro t
            induction t with
            | zero => intro _; simp [vbs, pAt]
            | succ t ih =>
              intro ht
              have hlt : t < (nums l).length := by rw [nums_length]; omega
              rw [vbs_len_take _ _ hlt]
              have := hvb t _ (List.getElem?_eq_getElem hlt)
              have := hstep t (by omega)
              have := ih (by omega)
              omega
          have h20 := hsum (4 * l.length) (Nat.le_refl _)
          rw [List.take_of_length_le (by rw [nums_length]; omega)] at h20
          have h21 := (vres_least hr0).1
          have h22 : pAt b p0 (4 * l.length) ≤ b.length := by
            have hn := (right_all hr).1
            obtain ⟨m, hm⟩ : ∃ m, 4 * l.length = m + 1 := ⟨4 * l.length - 1, by omega⟩
            rw [hm]
            exact vres_place b _
          rw [putE_nums, List.length_append]
          omega
      · rw [if_pos h3] at h
        injection h with _ h
        exact absurd h h3
  · rw [if_pos h1] at h
    injection h with _ h
    exact absurd h h1
end Go.Proofs.Ytaafcmgkmdbefaa
