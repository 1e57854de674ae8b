/- Layer 18: plain mathematics: texts of tables, parsed. -/
import Derived.Test.YtceegpkgifflcaaDoorCsvMath
namespace Go.Proofs.YtceegpkgifflcaaDoor
open Go.RowKit
set_option linter.unusedVariables false

def okRow (L : Nat) (r : List ByteArray) : Bool := decide (1 ≤ r.length) && (decide (r.length = L) && !(decide (r.length = 1) && decide (r.getD 0 ByteArray.empty = ByteArray.empty)))
def rightT (R : List (List ByteArray)) : Bool := R.all (okRow (R.getD 0 []).length) && decide (R.length ≤ 65536)
theorem okRow_parts {L : Nat} {r : List ByteArray} (h : okRow L r = true) : 1 ≤ r.length ∧ r.length = L ∧ ¬ (r.length = 1 ∧ r.getD 0 ByteArray.empty = ByteArray.empty) := by
  unfold okRow at h
  simp only [Bool.and_eq_true, decide_eq_true_eq, Bool.not_eq_true', Bool.and_eq_false_iff, decide_eq_false_iff_not] at h
  exact ⟨h.1, h.2.1, fun q => by rcases h.2.2 with a | a; exact a q.1; exact a q.2⟩
/-- A field whose bytes are no marks. -/
def plain (l : List Nat) : Prop := ∀ c ∈ l, c ≠ 44 ∧ c ≠ 34 ∧ c ≠ 10 ∧ c ≠ 13
def rowTxt : List ByteArray → List Nat
  | [] => []
  | [t] => bs t
  | t :: u :: r => bs t ++ 44 :: rowTxt (u :: r)
theorem rowTxt_two (t u : ByteArray) (r : List ByteArray) : rowTxt (t :: u :: r) = bs t ++ 44 :: rowTxt (u :: r) := rfl
theorem rowTxt_snoc : ∀ (r : List ByteArray) (t : ByteArray), r ≠ [] → rowTxt (r ++ [t]) = rowTxt r ++ 44 :: bs t
  | [], t, h => absurd rfl h
  | [x], t, _ => rfl
  | x :: y :: r, t, _ => by
    have := rowTxt_snoc (y :: r) t (by simp)
    show bs x ++ 44 :: rowTxt ((y :: r) ++ [t]) = (bs x ++ 44 :: rowTxt (y :: r)) ++ 44 :: bs t
    rw [this]; simp
def linesTxt (e : List Nat) (last : Bool) : List (List ByteArray) → List Nat
  | [] => []
  | [r] => rowTxt r ++ (if last then e else [])
  | r :: q :: R => rowTxt r ++ (e ++ linesTxt e last (q :: R))
def preT (e : List Nat) (R : List (List ByteArray)) : List Nat := R.flatMap fun r => rowTxt r ++ e
theorem linesTxt_snoc (e : List Nat) (last : Bool) : ∀ (R : List (List ByteArray)) (r : List ByteArray), linesTxt e last (R ++ [r]) = preT e R ++ (rowTxt r ++ (if last then e else []))
  | [], r => rfl
  | [x], r => by simp [linesTxt, preT]
  | x :: y :: R, r => by
    have := linesTxt_snoc e last (y :: R) r
    show rowTxt x ++ (e ++ linesTxt e last ((y :: R) ++ [r])) = _
    rw [this]
    simp [preT]
theorem preT_snoc (e : List Nat) (R : List (List ByteArray)) (r : List ByteArray) : preT e (R ++ [r]) = preT e R ++ (rowTxt r ++ e) := by simp [preT]
section
variable {l : List Nat}
theorem drop_getD {i : Nat} {c : Nat} {r : List Nat} (h : l.drop i = c :: r) : i < l.length ∧ l.getD i 0 = c ∧ l.drop (i + 1) = r := by
  have h1 : i < l.length := by
    rcases Nat.lt_or_ge i l.length with h1 | h1
    · exact h1
    · rw [List.drop_eq_nil_of_le h1] at h; cases h
  rw [drop_head h1] at h
  injection h with h2 h3
  exact ⟨h1, h2, h3⟩
theorem drop_app {i : Nat} {a b : List Nat} (h : l.drop i = a ++ b) : l.drop (i + a.length) = b := by
  rw [← List.drop_drop, h]; simp
/-- What stands behind a row. -/
def endOk (rest : List Nat) : Prop := rest = [] ∨ (∃ r, rest = 10 :: r) ∨ ∃ r, rest = 13 :: 10 :: r
theorem over_end {i : Nat} {rest : List Nat} (h : l.drop i = rest) (he : endOk rest) : overA l i ∧ l.getD i 0 ≠ 44 ∧ l.getD i 0 ≠ 34 := by
  rcases he with rfl | ⟨r, rfl⟩ | ⟨r, rfl⟩
  · have h1 : l.length ≤ i := by
      rcases Nat.lt_or_ge i l.length with h1 | h1
      · rw [drop_head h1] at h; cases h
      · exact h1
    rw [getD_out h1]
    exact ⟨.inl h1, by omega, by omega⟩
  · obtain ⟨h1, h2, _⟩ := drop_getD h
    exact ⟨.inr (.inr (by unfold endA; rw [h2]; simp)), by omega, by omega⟩
  · obtain ⟨h1, h2, h3⟩ := drop_getD h
    obtain ⟨_, h4, _⟩ := drop_getD h3
    exact ⟨.inr (.inr (by unfold endA; rw [h2, h4]; simp)), by omega, by omega⟩
theorem bare_plain : ∀ (f : List Nat) (fuel i : Nat) (m rest : List Nat), plain f → l.drop i = f ++ rest → overA l (i + f.length) → l.length - i < fuel → bareE l fuel i m = (m ++ f, i + f.length, 0)
  | [], fuel, i, m, rest, hp, hd, ho, hf => by
    obtain ⟨fuel, rfl⟩ : ∃ g, fuel = g + 1 := ⟨fuel - 1, by omega⟩
    rw [bareE_over (by simpa using ho)]; simp
  | c :: f, fuel, i, m, rest, hp, hd, ho, hf => by
    obtain ⟨fuel, rfl⟩ : ∃ g, fuel = g + 1 := ⟨fuel - 1, by omega⟩
    obtain ⟨h1, h2, h3⟩ := drop_getD hd
    obtain ⟨p1, p2, p3, p4⟩ := hp c (by simp)
    have hn : ¬ overA l i := by
      unfold overA endA
      rw [h2, if_neg p3, if_neg (fun h => p4 h.1)]
      omega
    rw [bareE_more hn (by rw [h2]; omega), h2, bare_plain f fuel (i + 1) (m ++ [c]) rest (fun d hd => hp d (List.mem_cons_of_mem _ hd)) h3 (by rw [show i + 1 + f.length = i + (c :: f).length by simp; omega]; exact ho) (by omega)]
    simp; omega
theorem field_plain (f : List Nat) (i : Nat) (rest : List Nat) (hp : plain f) (hd : l.drop i = f ++ rest) (ho : overA l (i + f.length)) (hq : rest = [] ∨ ∃ c r, rest = c :: r ∧ c ≠ 34) : fieldE l i = (f, i + f.length, 0) := by
  have hne : l.getD i 0 ≠ 34 := by
    rcases f with _ | ⟨c, f⟩
    · rcases hq with rfl | ⟨c, r, rfl, hc⟩
      · rcases Nat.lt_or_ge i l.length with h1 | h1
        · rw [drop_head h1] at hd; cases hd
        · rw [getD_out h1]; omega
      · obtain ⟨_, h2, _⟩ := drop_getD hd
        rw [h2]; exact hc
    · obtain ⟨_, h2, _⟩ := drop_getD hd
      rw [h2]; exact (hp c (by simp)).2.1
  unfold fieldE
  rw [if_neg hne, bare_plain f _ i [] rest hp hd ho (by omega)]
  simp
theorem row_plain : ∀ (r : List ByteArray) (fuel i : Nat) (acc : List ByteArray) (rest : List Nat), r ≠ [] → (∀ t ∈ r, plain (bs t)) → l.drop i = rowTxt r ++ rest → endOk rest → l.length - i < fuel →
    rowE l fuel i acc = (acc ++ r, i + (rowTxt r).length + endA l (i + (rowTxt r).length), 0)
  | [], fuel, i, acc, rest, h, _, _, _, _ => absurd rfl h
  | [t], fuel, i, acc, rest, _, hp, hd, he, hf => by
    obtain ⟨fuel, rfl⟩ : ∃ g, fuel = g + 1 := ⟨fuel - 1, by omega⟩
    have hd' : l.drop i = bs t ++ rest := hd
    obtain ⟨o1, o2, o3⟩ := over_end (drop_app hd') he
    have hF := field_plain (bs t) i rest (hp t (by simp)) hd' o1 (by
      rcases he with rfl | ⟨r, rfl⟩ | ⟨r, rfl⟩
      · exact .inl rfl
      · exact .inr ⟨10, r, rfl, by omega⟩
      · exact .inr ⟨13, 10 :: r, rfl, by omega⟩)
    rw [rowE_end hF o2, strOf_bs]; rfl
  | t :: u :: r, fuel, i, acc, rest, _, hp, hd, he, hf => by
    obtain ⟨fuel, rfl⟩ : ∃ g, fuel = g + 1 := ⟨fuel - 1, by omega⟩
    have hd' : l.drop i = bs t ++ (44 :: (rowTxt (u :: r) ++ rest)) := by rw [hd, rowTxt_two]; simp
    obtain ⟨q1, q2, q3⟩ := drop_getD (drop_app hd')
    have hF := field_plain (bs t) i _ (hp t (by simp)) hd' (.inr (.inl q2)) (.inr ⟨44, _, rfl, by omega⟩)
    rw [rowE_more hF q2, strOf_bs, row_plain (u :: r) fuel (i + (bs t).length + 1) (acc ++ [t]) rest (by simp) (fun x hx => hp x (List.mem_cons_of_mem _ hx)) q3 he (by omega)]
    have hlen : (rowTxt (t :: u :: r)).length = (bs t).length + 1 + (rowTxt (u :: r)).length := by rw [rowTxt_two]; simp; omega
    rw [hlen, show i + ((bs t).length + 1 + (rowTxt (u :: r)).length) = i + (bs t).length + 1 + (rowTxt (u :: r)).length by omega]
    simp
theorem rowTxt_pos {L : Nat} {r : List ByteArray} (h : okRow L r = true) : 0 < (rowTxt r).length := by
  obtain ⟨h1, h2, h3⟩ := okRow_parts h
  rcases r with _ | ⟨t, _ | ⟨u, r⟩⟩
  · simp at h1
  · show 0 < (bs t).length
    rw [bs_length]
    rcases Nat.eq_zero_or_pos t.size with h4 | h4
    · exact absurd ⟨rfl, by
        show t = ByteArray.empty
        apply ByteArray.ext
        exact Array.eq_empty_of_size_eq_zero h4⟩ h3
    · exact h4
  · rw [rowTxt_two]; simp; omega
theorem end_two {e : List Nat} (he : e = [10] ∨ e = [13, 10]) {i : Nat} {rest : List Nat} (h : l.drop i = e ++ rest) : endOk (e ++ rest) ∧ endA l i = e.length := by
  rcases he with rfl | rfl
  · obtain ⟨_, h2, _⟩ := drop_getD h
    exact ⟨.inr (.inl ⟨rest, rfl⟩), by unfold endA; rw [h2]; rfl⟩
  · obtain ⟨_, h2, h3⟩ := drop_getD h
    obtain ⟨_, h4, _⟩ := drop_getD h3
    exact ⟨.inr (.inr ⟨rest, rfl⟩), by unfold endA; rw [h2, h4]; rfl⟩
theorem parse_plain (e : List Nat) (he : e = [10] ∨ e = [13, 10]) (last : Bool) (L : Nat) : ∀ (R : List (List ByteArray)) (fuel i : Nat) (acc : List (List ByteArray)), l.drop i = linesTxt e last R → i ≤ l.length → (∀ r ∈ R, okRow L r = true) → (∀ r ∈ R, ∀ t ∈ r, plain (bs t)) → (∀ r ∈ acc, r.length = L) → acc.length + R.length ≤ 65536 → l.length - i < fuel →
    parseE l fuel i acc = (acc ++ R, l.length, 0)
  | [], fuel, i, acc, hd, hi, hok, hp, hacc, hn, hf => by
    have h1 : ¬ i < l.length := fun h1 => by rw [drop_head h1] at hd; cases hd
    rw [parseE_end h1]; simp
  | r :: R, fuel, i, acc, hd, hi, hok, hp, hacc, hn, hf => by
    obtain ⟨fuel, rfl⟩ : ∃ g, fuel = g + 1 := ⟨fuel - 1, by omega⟩
    have hr := hok r (by simp)
    have hpos := rowTxt_pos hr
    obtain ⟨k1, k2, k3⟩ := okRow_parts hr
    have hrne : r ≠ [] := by rintro rfl; simp at k1
    obtain ⟨rest, hrest, hend, hnext⟩ : ∃ rest, l.drop i = rowTxt r ++ rest ∧ endOk rest ∧ l.drop (i + (rowTxt r).length + endA l (i + (rowTxt r).length)) = linesTxt e last R := by
      rcases R with _ | ⟨q, R⟩
      · have hd' : l.drop i = rowTxt r ++ (if last then e else []) := hd
        cases last with
        | false =>
          have hd2 : l.drop i = rowTxt r ++ [] := hd'
          refine ⟨[], hd2, .inl rfl, ?_⟩
          have h2 := drop_app hd2
          have h3 : l.length ≤ i + (rowTxt r).length := by
            rcases Nat.lt_or_ge (i + (rowTxt r).length) l.length with h1 | h1
            · rw [drop_head h1] at h2; cases h2
            · exact h1
          show l.drop _ = []
          exact List.drop_eq_nil_of_le (by omega)
        | true =>
          have hd2 : l.drop i = rowTxt r ++ (e ++ []) := by rw [hd']; simp
          have h2 := drop_app hd2
          obtain ⟨h3, h4⟩ := end_two he h2
          exact ⟨e ++ [], hd2, h3, by rw [h4]; exact drop_app h2⟩
      · have hd2 : l.drop i = rowTxt r ++ (e ++ linesTxt e last (q :: R)) := hd
        have h2 := drop_app hd2
        obtain ⟨h3, h4⟩ := end_two he h2
        exact ⟨_, hd2, h3, by rw [h4]; exact drop_app h2⟩
    have hil : i < l.length := by
      rcases Nat.lt_or_ge i l.length with h1 | h1
      · exact h1
      · rw [List.drop_eq_nil_of_le h1] at hrest
        have := congrArg List.length hrest
        simp at this
        omega
    have hlen : i + (rowTxt r).length ≤ l.length := by
      have := congrArg List.length hrest
      simp at this
      omega
    have hW := row_plain r (l.length + 1) i [] rest hrne (hp r (by simp)) hrest hend (by omega)
    rw [List.nil_append] at hW
    rw [parseE_more hil (by simp at hn; omega) hW (fun h => by
      have h0 : (acc.getD 0 []).length = L := by
        rcases acc with _ | ⟨a, acc⟩
        · simp at h
        · exact hacc a (by simp)
      omega)]
    have hEl := endA_le hlen
    rw [parse_plain e he last L R fuel _ (acc ++ [r]) hnext hEl (fun x hx => hok x (List.mem_cons_of_mem _ hx)) (fun x hx => hp x (List.mem_cons_of_mem _ hx)) (fun x hx => by
      rcases List.mem_append.1 hx with h | h
      · exact hacc x h
      · rw [List.mem_singleton.1 h]; exact k2) (by simp at hn ⊢; omega) (by omega)]
    simp
end
end Go.Proofs.YtceegpkgifflcaaDoor
