/- Words put together as lines, lines as a text: there and back. No program is named here. -/
import Derived.Test.YtmbafdnickeikaaLxN
namespace Go.Proofs.Ytmbafdnickeikaa

/-- words with a blank between -/
def glue : List By → By
  | [] => []
  | [a] => a
  | a :: b :: r => a ++ 32 :: glue (b :: r)
theorem glue_cons (a : By) {r : List By} (h : r ≠ []) : glue (a :: r) = a ++ 32 :: glue r := by
  cases r with
  | nil => exact absurd rfl h
  | cons b r => rfl
theorem glue_push (x : UInt8) (q : By) (qs : List By) : glue ((x :: q) :: qs) = x :: glue (q :: qs) := by
  cases qs <;> rfl
theorem glue_snoc {r : List By} (a : By) (h : r ≠ []) : glue (r ++ [a]) = glue r ++ 32 :: a := by
  induction r with
  | nil => exact absurd rfl h
  | cons b r ih =>
    cases r with
    | nil => rfl
    | cons d r =>
      rw [List.cons_append, glue_cons b (by simp), glue_cons b (by simp), ih (by simp)]
      simp
theorem glue_pcs (a : By) : glue (pcs 32 a) = a := by
  induction a with
  | nil => rfl
  | cons x r ih =>
    unfold pcs
    cases hr : pcs 32 r with
    | nil => exact absurd hr (pcs_ne _ _)
    | cons q qs =>
      rw [hr] at ih
      split
      · rename_i h
        rw [glue_cons [] (by simp), ih, h]
        rfl
      · rw [List.headD_cons, List.tail_cons, glue_push, ih]
theorem pcs_glue {r : List By} (h : r ≠ []) (hn : ∀ a ∈ r, (32 : UInt8) ∉ a) : pcs 32 (glue r) = r := by
  induction r with
  | nil => exact absurd rfl h
  | cons a r ih =>
    cases r with
    | nil => exact pcs_none _ _ (hn a (by simp))
    | cons b r =>
      rw [glue_cons a (by simp), pcs_at _ _ _ (hn a (by simp)), ih (by simp) (fun x hx => hn x (List.mem_cons_of_mem _ hx))]

/-- how many bytes a line of these texts has -/
def sumOf (r : List By) : Nat := (r.map List.length).sum
def longOf (r : List By) : Nat := (r.length - 1) + sumOf r
theorem glue_length (r : List By) : (glue r).length = longOf r := by
  induction r with
  | nil => rfl
  | cons a r ih =>
    cases r with
    | nil => simp [glue, longOf, sumOf]
    | cons b r =>
      rw [glue_cons a (by simp), List.length_append, List.length_cons, ih]
      simp [longOf, sumOf]
      omega
theorem sumOf_take (r : List By) {i : Nat} (h : i < r.length) : sumOf (r.take (i + 1)) = sumOf (r.take i) + r[i].length := by
  unfold sumOf
  rw [List.take_succ_eq_append_getElem h, List.map_append, List.sum_append]
  simp
theorem sumOf_le (r : List By) (i : Nat) : sumOf (r.take i) ≤ sumOf r := by
  conv => rhs; rw [← List.take_append_drop i r]
  unfold sumOf
  rw [List.map_append, List.sum_append]
  omega
theorem glue_take (r : List By) {i : Nat} (h : i < r.length) : glue (r.take (i + 1)) = if i = 0 then r[i] else glue (r.take i) ++ 32 :: r[i] := by
  rw [List.take_succ_eq_append_getElem h]
  split
  · rename_i h0
    subst h0
    rfl
  · rw [glue_snoc]
    intro e
    have := congrArg List.length e
    rw [List.length_take, List.length_nil] at this
    omega

def rowOk (r : List By) : Bool := decide (longOf r ≤ 4096) && !r.isEmpty && r.all isW
theorem rowOk_iff {r : List By} : rowOk r = true ↔ longOf r ≤ 4096 ∧ r ≠ [] ∧ r.all isW = true := by
  unfold rowOk
  simp only [Bool.and_eq_true, decide_eq_true_eq, Bool.not_eq_true', List.isEmpty_eq_false_iff, and_assoc]
theorem isW_not {l : By} (h : isW l = true) {u : UInt8} (hu : okB u = false) : u ∉ l := fun hm => by
  have := List.all_eq_true.1 (isW_all h) u hm
  rw [hu] at this
  cases this
theorem rowOk_no32 {r : List By} (h : rowOk r = true) : ∀ a ∈ r, (32 : UInt8) ∉ a := fun a ha =>
  isW_not (List.all_eq_true.1 (rowOk_iff.1 h).2.2 a ha) rfl
theorem glue_no10 {r : List By} (h : r.all isW = true) : (10 : UInt8) ∉ glue r := by
  induction r with
  | nil => simp [glue]
  | cons a r ih =>
    rw [List.all_cons, Bool.and_eq_true] at h
    have ha := isW_not (u := 10) h.1 rfl
    cases r with
    | nil => exact ha
    | cons b r =>
      rw [glue_cons a (by simp), List.mem_append, List.mem_cons]
      rintro (h1 | h1 | h1)
      · exact ha h1
      · cases h1
      · exact ih h.2 h1

/-- lines as a text -/
def text (R : List (List By)) : By := R.flatMap fun r => glue r ++ [10]
theorem text_nil : text [] = [] := rfl
theorem text_cons (r : List By) (R : List (List By)) : text (r :: R) = glue r ++ 10 :: text R := by simp [text]
theorem text_snoc (R : List (List By)) (r : List By) : text (R ++ [r]) = text R ++ (glue r ++ [10]) := by simp [text]
theorem text_take (R : List (List By)) {i : Nat} (h : i < R.length) : text (R.take (i + 1)) = text (R.take i) ++ (glue R[i] ++ [10]) := by
  rw [List.take_succ_eq_append_getElem h, text_snoc]

theorem lines_text : ∀ (R acc : List (List By)), acc.length + R.length ≤ 1000 → (∀ r ∈ R, rowOk r = true) → linesGo acc (pcs 10 (text R)) = (acc ++ R, 0, 0) := by
  intro R
  induction R with
  | nil => intro acc _ _; rw [text_nil, linesGo_end, List.append_nil]
  | cons r R ih =>
    intro acc hl h
    simp only [List.length_cons] at hl
    have hr := h r (by simp)
    obtain ⟨h1, h2, h3⟩ := rowOk_iff.1 hr
    have hp := pcs_glue h2 (rowOk_no32 hr)
    rw [text_cons, linesGo_step acc (by omega) (glue_no10 h3) (by rw [glue_length]; exact h1) (by unfold wordsOk; rw [hp]; exact h3), hp, ih _ (by simp; omega) (fun x hx => h x (List.mem_cons_of_mem _ hx))]
    simp
theorem linesOf_text {R : List (List By)} (hl : R.length ≤ 1000) (h : ∀ r ∈ R, rowOk r = true) : linesOf (text R) = (R, 0, 0) := by
  have := lines_text R [] (by simpa using hl) h
  simpa [linesOf] using this
theorem text_lines : ∀ (n : Nat) (l : By) (acc R : List (List By)), l.length ≤ n → acc.length ≤ 1000 → linesGo acc (pcs 10 l) = (R, 0, 0) → ∃ S, R = acc ++ S ∧ text S = l ∧ (∀ r ∈ S, rowOk r = true) ∧ R.length ≤ 1000 := by
  intro n
  induction n with
  | zero =>
    intro l acc R hn ha h
    obtain rfl : l = [] := List.eq_nil_of_length_eq_zero (by omega)
    rw [linesGo_end] at h
    cases h
    exact ⟨[], by simp, rfl, by simp, ha⟩
  | succ n ih =>
    intro l acc R hn ha h
    by_cases h0 : l = []
    · subst h0
      rw [linesGo_end] at h
      cases h
      exact ⟨[], by simp, rfl, by simp, ha⟩
    · by_cases hm : 1000 < acc.length + 1
      · rw [linesGo_many acc h0 hm] at h
        cases h
      · rcases index_one l 10 with ⟨_, hno⟩ | ⟨a, r, hl, hna, _⟩
        · rw [linesGo_open acc h0 (by omega) hno] at h
          cases h
        · rw [hl] at h
          by_cases h4 : 4096 < a.length
          · rw [linesGo_rest acc (by omega) hna h4] at h
            cases h
          · cases hw : wordsOk a with
            | false =>
              rw [linesGo_form acc (by omega) hna (by omega) hw] at h
              cases h
            | true =>
              rw [linesGo_step acc (by omega) hna (by omega) hw] at h
              have hln := congrArg List.length hl
              simp at hln
              obtain ⟨S, h1, h2, h3, h5⟩ := ih r (acc ++ [pcs 32 a]) R (by omega) (by simp; omega) h
              refine ⟨pcs 32 a :: S, by rw [h1]; simp, by rw [text_cons, glue_pcs, h2, hl], ?_, h5⟩
              intro x hx
              rcases List.mem_cons.1 hx with rfl | hx
              · refine rowOk_iff.2 ⟨by rw [← glue_length, glue_pcs]; omega, pcs_ne _ _, hw⟩
              · exact h3 x hx
theorem linesOf_back {l : By} {R : List (List By)} (h : linesOf l = (R, 0, 0)) : text R = l ∧ R.length ≤ 1000 ∧ ∀ r ∈ R, rowOk r = true := by
  obtain ⟨S, rfl, h2, h3, h4⟩ := text_lines l.length l [] R (Nat.le_refl _) (by simp) h
  exact ⟨h2, h4, h3⟩
end Go.Proofs.Ytmbafdnickeikaa
