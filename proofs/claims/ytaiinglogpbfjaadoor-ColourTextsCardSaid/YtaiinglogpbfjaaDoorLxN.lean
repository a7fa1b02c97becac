/- Texts as lines of words, as plain mathematics: what lies between a byte's places, what is a word, what lines are. No program is named here. -/
import Derived.WalkKit
import Derived.Lib.IndexMore
import Derived.Lib.IndexLaws
namespace Go.Proofs.YtaiinglogpbfjaaDoor

abbrev By := List UInt8
def str (l : By) : ByteArray := ⟨l.toArray⟩
theorem str_toList (l : By) : (str l).data.toList = l := rfl
theorem str_of (s : ByteArray) : str s.data.toList = s := by cases s; simp [str]
theorem str_size (l : By) : (str l).size = l.length := by simp [str, ByteArray.size]
theorem str_inj {a b : By} (h : str a = str b) : a = b := by
  have := congrArg (fun s => s.data.toList) h
  exact this

/-- a byte that a word may have -/
def okB (u : UInt8) : Bool := decide (33 ≤ u.toNat) && decide (u.toNat ≤ 126)
/-- a word -/
def isW (l : By) : Bool := !l.isEmpty && l.all okB
theorem isW_nil : isW [] = false := rfl
theorem isW_ne {l : By} (h : isW l = true) : l ≠ [] := by rintro rfl; cases h
theorem isW_all {l : By} (h : isW l = true) : l.all okB = true := by
  unfold isW at h
  simp only [Bool.and_eq_true] at h
  exact h.2
theorem isW_of {l : By} (h0 : l ≠ []) (h : ∀ (i : Nat) (hi : i < l.length), okB l[i] = true) : isW l = true := by
  unfold isW
  rw [Bool.and_eq_true]
  refine ⟨by cases l <;> simp_all, ?_⟩
  rw [List.all_eq_true]
  intro x hx
  obtain ⟨i, hi, rfl⟩ := List.getElem_of_mem hx
  exact h i hi
theorem isW_bad {l : By} {i : Nat} (hi : i < l.length) (h : okB l[i] = false) : isW l = false := by
  unfold isW
  rw [Bool.and_eq_false_iff]
  right
  rw [List.all_eq_false]
  exact ⟨l[i], List.getElem_mem hi, by simp [h]⟩

/-- what lies between the places of a byte -/
def pcs (c : UInt8) : By → List By
  | [] => [[]]
  | x :: r => if x = c then [] :: pcs c r else (x :: (pcs c r).headD []) :: (pcs c r).tail
theorem pcs_ne (c : UInt8) (l : By) : pcs c l ≠ [] := by
  cases l with
  | nil => simp [pcs]
  | cons x r => unfold pcs; split <;> simp
theorem pcs_at (c : UInt8) (a r : By) (h : c ∉ a) : pcs c (a ++ c :: r) = a :: pcs c r := by
  induction a with
  | nil => simp [pcs]
  | cons x a ih =>
    have hx : ¬ x = c := fun e => h (by simp [e])
    have ha := ih (fun hm => h (by simp [hm]))
    rw [List.cons_append, pcs, if_neg hx, ha]
    rfl
theorem pcs_none (c : UInt8) (l : By) (h : c ∉ l) : pcs c l = [l] := by
  induction l with
  | nil => rfl
  | cons x a ih =>
    have hx : ¬ x = c := fun e => h (by simp [e])
    have ha := ih (fun hm => h (by simp [hm]))
    rw [pcs, if_neg hx, ha]
    rfl
theorem pcs_length (c : UInt8) (l : By) : (pcs c l).length ≤ l.length + 1 := by
  induction l with
  | nil => simp [pcs]
  | cons x r ih =>
    unfold pcs
    split
    · simp; omega
    · simp; omega
theorem pcs_free (c : UInt8) (l : By) : ∀ p ∈ pcs c l, c ∉ p := by
  induction l with
  | nil => intro p hp; simp [pcs] at hp; subst hp; simp
  | cons x r ih =>
    intro p hp
    unfold pcs at hp
    split at hp
    · rcases List.mem_cons.1 hp with rfl | h
      · simp
      · exact ih p h
    · rename_i hx
      rcases List.mem_cons.1 hp with rfl | h
      · intro hm
        rcases List.mem_cons.1 hm with e | hm
        · exact hx e.symm
        · cases hr : pcs c r with
          | nil => exact pcs_ne c r hr
          | cons q qs =>
            rw [hr] at hm ih
            exact ih q (by simp) hm
      · exact ih p (List.mem_of_mem_tail h)

/-- the place of a byte, as the library tells it -/
theorem index_one (l : By) (c : UInt8) : (Lib.index l [c] = -1 ∧ c ∉ l) ∨ ∃ a r, l = a ++ c :: r ∧ c ∉ a ∧ Lib.index l [c] = (a.length : Int) := by
  have key : ∀ i, Lib.occAt l [c] i = true ↔ l[i]? = some c := by
    intro i
    constructor
    · intro h; exact Lib.occAt_head rfl h
    · intro h
      obtain ⟨hi, hc⟩ := List.getElem?_eq_some_iff.1 h
      unfold Lib.occAt
      rw [List.drop_eq_getElem_cons hi, hc]
      simp [List.isPrefixOf]
  rcases Lib.index_spec l [c] with ⟨h1, h2⟩ | ⟨i, h1, h2, h3, h4⟩
  · left
    refine ⟨h1, fun hm => ?_⟩
    obtain ⟨i, hi, hc⟩ := List.getElem_of_mem hm
    have := h2 i (by omega)
    rw [(key i).2 (by rw [List.getElem?_eq_getElem hi, hc])] at this
    cases this
  · right
    have h5 := (key i).1 h3
    obtain ⟨hi, hc⟩ := List.getElem?_eq_some_iff.1 h5
    refine ⟨l.take i, l.drop (i + 1), ?_, fun hm => ?_, ?_⟩
    · rw [← hc, ← List.drop_eq_getElem_cons hi, List.take_append_drop]
    · obtain ⟨j, hj, hcj⟩ := List.getElem_of_mem hm
      have hj' : j < i := by simp at hj; omega
      have := h4 j hj'
      rw [(key j).2 (by rw [List.getElem_take] at hcj; rw [List.getElem?_eq_getElem (by omega), hcj])] at this
      cases this
    · rw [h1]; simp; omega

/-- lines read one behind the other: what came, which line is wrong, and how -/
abbrev Res := List (List By) × Nat × Nat
def wordsOk (p : By) : Bool := (pcs 32 p).all isW
def linesGo (acc : List (List By)) : List By → Res
  | [] => (acc, 0, 0)
  | [p] => if p = [] then (acc, 0, 0) else if 1000 < acc.length + 1 then ([], acc.length + 1, 7) else ([], acc.length + 1, 11)
  | p :: q :: r => if 1000 < acc.length + 1 then ([], acc.length + 1, 7) else if 4096 < p.length then ([], acc.length + 1, 14) else if wordsOk p then linesGo (acc ++ [pcs 32 p]) (q :: r) else ([], acc.length + 1, 3)
/-- what a text is as lines of words -/
def linesOf (b : By) : Res := linesGo [] (pcs 10 b)
theorem linesGo_end (acc : List (List By)) : linesGo acc (pcs 10 []) = (acc, 0, 0) := by simp [pcs, linesGo]
theorem linesGo_many (acc : List (List By)) {l : By} (h0 : l ≠ []) (h : 1000 < acc.length + 1) : linesGo acc (pcs 10 l) = ([], acc.length + 1, 7) := by
  rcases index_one l 10 with ⟨_, hn⟩ | ⟨a, r, rfl, ha, _⟩
  · rw [pcs_none _ _ hn]
    simp only [linesGo]
    rw [if_neg h0, if_pos h]
  · rw [pcs_at _ _ _ ha]
    cases hr : pcs 10 r with
    | nil => exact absurd hr (pcs_ne _ _)
    | cons q qs => simp only [linesGo]; rw [if_pos h]
theorem linesGo_open (acc : List (List By)) {l : By} (h0 : l ≠ []) (h : acc.length + 1 ≤ 1000) (hn : (10 : UInt8) ∉ l) : linesGo acc (pcs 10 l) = ([], acc.length + 1, 11) := by
  rw [pcs_none _ _ hn]
  simp only [linesGo]
  rw [if_neg h0, if_neg (by omega)]
theorem linesGo_rest (acc : List (List By)) {a r : By} (h : acc.length + 1 ≤ 1000) (ha : (10 : UInt8) ∉ a) (hl : 4096 < a.length) : linesGo acc (pcs 10 (a ++ 10 :: r)) = ([], acc.length + 1, 14) := by
  rw [pcs_at _ _ _ ha]
  cases hr : pcs 10 r with
  | nil => exact absurd hr (pcs_ne _ _)
  | cons q qs => simp only [linesGo]; rw [if_neg (by omega), if_pos hl]
theorem linesGo_form (acc : List (List By)) {a r : By} (h : acc.length + 1 ≤ 1000) (ha : (10 : UInt8) ∉ a) (hl : a.length ≤ 4096) (hw : wordsOk a = false) : linesGo acc (pcs 10 (a ++ 10 :: r)) = ([], acc.length + 1, 3) := by
  rw [pcs_at _ _ _ ha]
  cases hr : pcs 10 r with
  | nil => exact absurd hr (pcs_ne _ _)
  | cons q qs => simp only [linesGo]; rw [if_neg (by omega), if_neg (by omega), hw]; rfl
theorem linesGo_step (acc : List (List By)) {a r : By} (h : acc.length + 1 ≤ 1000) (ha : (10 : UInt8) ∉ a) (hl : a.length ≤ 4096) (hw : wordsOk a = true) : linesGo acc (pcs 10 (a ++ 10 :: r)) = linesGo (acc ++ [pcs 32 a]) (pcs 10 r) := by
  rw [pcs_at _ _ _ ha]
  cases hr : pcs 10 r with
  | nil => exact absurd hr (pcs_ne _ _)
  | cons q qs => simp only [linesGo]; rw [if_neg (by omega), if_neg (by omega), hw]; rfl
end Go.Proofs.YtaiinglogpbfjaaDoor
