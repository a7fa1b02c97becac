/- Texts as lines of words, as plain mathematics: what lies between a byte's places, what is a word, what lines are. No program is named here. -/
import Derived.WalkKit
import Derived.Lib.IndexMore
import Derived.Lib.IndexLaws
import Derived.Lib.Hide
import Derived.WalkLawsBesides
import Derived.Deep.LoopGhost
import Derived.Test.YtbhahddgajkchaaChecked
import Derived.Laws.AppendOwn
import Derived.Laws.OwnMore
import Derived.Below
namespace Go.Proofs.Ytbhahddgajkchaa

abbrev By := List UInt8
def str (l : By) : ByteArray := ⟨l.toArray⟩
theorem str_toList (l : By) : (str l).data.toList = l := rfl
theorem str_of (s : ByteArray) : str s.data.toList = s := by cases s; simp [str]
theorem str_size (l : By) : (str l).size = l.length := by simp [str, ByteArray.size]
theorem str_inj {a b : By} (h : str a = str b) : a = b := by
  have := congrArg (fun s => s.data.toList) h
  exact this

/-- a byte that a word may have -/
def okB (u : UInt8) : Bool := decide (33 ≤ u.toNat) && decide (u.toNat ≤ 126)
/-- a word -/
def isW (l : By) : Bool := !l.isEmpty && l.all okB
theorem isW_nil : isW [] = false := rfl
theorem isW_ne {l : By} (h : isW l = true) : l ≠ [] := by rintro rfl; cases h
theorem isW_all {l : By} (h : isW l = true) : l.all okB = true := by
  unfold isW at h
  simp only [Bool.and_eq_true] at h
  exact h.2
theorem isW_of {l : By} (h0 : l ≠ []) (h : ∀ (i : Nat) (hi : i < l.length), okB l[i] = true) : isW l = true := by
  unfold isW
  rw [Bool.and_eq_true]
  refine ⟨by cases l <;> simp_all, ?_⟩
  rw [List.all_eq_true]
  intro x hx
  obtain ⟨i, hi, rfl⟩ := List.getElem_of_mem hx
  exact h i hi
theorem isW_bad {l : By} {i : Nat} (hi : i < l.length) (h : okB l[i] = false) : isW l = false := by
  unfold isW
  rw [Bool.and_eq_false_iff]
  right
  rw [List.all_eq_false]
  exact ⟨l[i], List.getElem_mem hi, by simp [h]⟩

/-- what lies between the places of a byte -/
def pcs (c : UInt8) : By → List By
  | [] => [[]]
  | x :: r => if x = c then [] :: pcs c r else (x :: (pcs c r).headD []) :: (pcs c r).tail
theorem pcs_ne (c : UInt8) (l : By) : pcs c l ≠ [] := by
  cases l with
  | nil => simp [pcs]
  | cons x r => unfold pcs; split <;> simp
theorem pcs_at (c : UInt8) (a r : By) (h : c ∉ a) : pcs c (a ++ c :: r) = a :: pcs c r := by
  induction a with
  | nil => simp [pcs]
  | cons x a ih =>
    have hx : ¬ x = c := fun e => h (by simp [e])
    have ha := ih (fun hm => h (by simp [hm]))
    rw [List.cons_append, pcs, if_neg hx, ha]
    rfl
theorem pcs_none (c : UInt8) (l : By) (h : c ∉ l) : pcs c l = [l] := by
  induction l with
  | nil => rfl
  | cons x a ih =>
    have hx : ¬ x = c := fun e => h (by simp [e])
    have ha := ih (fun hm => h (by simp [hm]))
    rw [pcs, if_neg hx, ha]
    rfl
theorem pcs_length (c : UInt8) (l : By) : (pcs c l).length ≤ l.length + 1 := by
  induction l with
  | nil => simp [pcs]
  | cons x r ih =>
    unfold pcs
    split
    · simp; omega
    · simp; omega
theorem pcs_free (c : UInt8) (l : By) : ∀ p ∈ pcs c l, c ∉ p := by
  induction l with
  | nil => intro p hp; simp [pcs] at hp; subst hp; simp
  | cons x r ih =>
    intro p hp
    unfold pcs at hp
    split at hp
    · rcases List.mem_cons.1 hp with rfl | h
      · simp
      · exact ih p h
    · rename_i hx
      rcases List.mem_cons.1 hp with rfl | h
      · intro hm
        rcases List.mem_cons.1 hm with e | hm
        · exact hx e.symm
        · cases hr : pcs c r with
          | nil => exact pcs_ne c r hr
          | cons q qs =>
            rw [hr] at hm ih
            exact ih q (by simp) hm
      · exact ih p (List.mem_of_mem_tail h)

/-- the place of a byte, as the library tells it -/
theorem index_one (l : By) (c : UInt8) : (Lib.index l [c] = -1 ∧ c ∉ l) ∨ ∃ a r, l = a ++ c :: r ∧ c ∉ a ∧ Lib.index l [c] = (a.length : Int) := by
  have key : ∀ i, Lib.occAt l [c] i = true ↔ l[i]? = some c := by
    intro i
    constructor
    · intro h; exact Lib.occAt_head rfl h
    · intro h
      obtain ⟨hi, hc⟩ := List.getElem?_eq_some_iff.1 h
      unfold Lib.occAt
      rw [List.drop_eq_getElem_cons hi, hc]
      simp [List.isPrefixOf]
  rcases Lib.index_spec l [c] with ⟨h1, h2⟩ | ⟨i, h1, h2, h3, h4⟩
  · left
    refine ⟨h1, fun hm => ?_⟩
    obtain ⟨i, hi, hc⟩ := List.getElem_of_mem hm
    have := h2 i (by omega)
    rw [(key i).2 (by rw [List.getElem?_eq_getElem hi, hc])] at this
    cases this
  · right
    have h5 := (key i).1 h3
    obtain ⟨hi, hc⟩ := List.getElem?_eq_some_iff.1 h5
    refine ⟨l.take i, l.drop (i + 1), ?_, fun hm => ?_, ?_⟩
    · rw [← hc, ← List.drop_eq_getElem_cons hi, List.take_append_drop]
    · obtain ⟨j, hj, hcj⟩ := List.getElem_of_mem hm
      have hj' : j < i := by simp at hj; omega
      have := h4 j hj'
      rw [(key j).2 (by rw [List.getElem_take] at hcj; rw [List.getElem?_eq_getElem (by omega), hcj])] at this
      cases this
    · rw [h1]; simp; omega

/-- lines read one behind the other: what came, which line is wrong, and how -/
abbrev Res := List (List By) × Nat × Nat
def wordsOk (p : By) : Bool := (pcs 32 p).all isW
def linesGo (acc : List (List By)) : List By → Res
  | [] => (acc, 0, 0)
  | [p] => if p = [] then (acc, 0, 0) else if 1000 < acc.length + 1 then ([], acc.length + 1, 7) else ([], acc.length + 1, 11)
  | p :: q :: r => if 1000 < acc.length + 1 then ([], acc.length + 1, 7) else if 4096 < p.length then ([], acc.length + 1, 14) else if wordsOk p then linesGo (acc ++ [pcs 32 p]) (q :: r) else ([], acc.length + 1, 3)
/-- what a text is as lines of words -/
def linesOf (b : By) : Res := linesGo [] (pcs 10 b)
theorem linesGo_end (acc : List (List By)) : linesGo acc (pcs 10 []) = (acc, 0, 0) := by simp [pcs, linesGo]
theorem linesGo_many (acc : List (List By)) {l : By} (h0 : l ≠ []) (h : 1000 < acc.length + 1) : linesGo acc (pcs 10 l) = ([], acc.length + 1, 7) := by
  rcases index_one l 10 with ⟨_, hn⟩ | ⟨a, r, rfl, ha, _⟩
  · rw [pcs_none _ _ hn]
    simp only [linesGo]
    rw [if_neg h0, if_pos h]
  · rw [pcs_at _ _ _ ha]
    cases hr : pcs 10 r with
    | nil => exact absurd hr (pcs_ne _ _)
    | cons q qs => simp only [linesGo]; rw [if_pos h]
theorem linesGo_open (acc : List (List By)) {l : By} (h0 : l ≠ []) (h : acc.length + 1 ≤ 1000) (hn : (10 : UInt8) ∉ l) : linesGo acc (pcs 10 l) = ([], acc.length + 1, 11) := by
  rw [pcs_none _ _ hn]
  simp only [linesGo]
  rw [if_neg h0, if_neg (by omega)]
theorem linesGo_rest (acc : List (List By)) {a r : By} (h : acc.length + 1 ≤ 1000) (ha : (10 : UInt8) ∉ a) (hl : 4096 < a.length) : linesGo acc (pcs 10 (a ++ 10 :: r)) = ([], acc.length + 1, 14) := by
  rw [pcs_at _ _ _ ha]
  cases hr : pcs 10 r with
  | nil => exact absurd hr (pcs_ne _ _)
  | cons q qs => simp only [linesGo]; rw [if_neg (by omega), if_pos hl]
theorem linesGo_form (acc : List (List By)) {a r : By} (h : acc.length + 1 ≤ 1000) (ha : (10 : UInt8) ∉ a) (hl : a.length ≤ 4096) (hw : wordsOk a = false) : linesGo acc (pcs 10 (a ++ 10 :: r)) = ([], acc.length + 1, 3) := by
  rw [pcs_at _ _ _ ha]
  cases hr : pcs 10 r with
  | nil => exact absurd hr (pcs_ne _ _)
  | cons q qs => simp only [linesGo]; rw [if_neg (by omega), if_neg (by omega), hw]; rfl
theorem linesGo_step (acc : List (List By)) {a r : By} (h : acc.length + 1 ≤ 1000) (ha : (10 : UInt8) ∉ a) (hl : a.length ≤ 4096) (hw : wordsOk a = true) : linesGo acc (pcs 10 (a ++ 10 :: r)) = linesGo (acc ++ [pcs 32 a]) (pcs 10 r) := by
  rw [pcs_at _ _ _ ha]
  cases hr : pcs 10 r with
  | nil => exact absurd hr (pcs_ne _ _)
  | cons q qs => simp only [linesGo]; rw [if_neg (by omega), if_neg (by omega), hw]; rfl
end Go.Proofs.Ytbhahddgajkchaa
/- Is a text a word: the program's and the document's own. -/

namespace Go.Proofs.Ytbhahddgajkchaa
open Go.RowKit

theorem str_get (s : ByteArray) (j : Nat) (h : j < s.size) : s.data.toList[j]'(by rw [Array.length_toList]; exact h) = s[j] := rfl
theorem str_len (s : ByteArray) : s.data.toList.length = s.size := Array.length_toList
theorem okB_yes {c : UInt8} (h : okB c = true) : (33 : Int) ≤ (c.toNat : Int) ∧ (c.toNat : Int) ≤ 126 := by
  unfold okB at h
  simp only [Bool.and_eq_true, decide_eq_true_eq] at h
  omega
theorem okB_no {c : UInt8} (h : okB c = false) : (c.toNat : Int) < 33 ∨ ((33 : Int) ≤ (c.toNat : Int) ∧ (126 : Int) < (c.toNat : Int)) := by
  unfold okB at h
  simp only [Bool.and_eq_false_iff, decide_eq_false_iff_not] at h
  omega

end Go.Proofs.Ytbhahddgajkchaa
/- Rows that are read: bytes, words, lines of words in memory; rows that a call made. -/

namespace Go.Proofs.Ytbhahddgajkchaa
open Go.RowKit

theorem addr_add (g o j : Nat) : (⟨g, o, none⟩ : Addr).add j = ⟨g, o + j, none⟩ := by unfold Addr.add; split <;> simp_all
/-- the slice at p reads as xs, a cell each, in a block below B -/
def RdV (w : World) (B : Nat) (p : Option Addr) (xs : List Value) : Prop :=
  0 < xs.length → ∃ b o, p = some ⟨b, o, none⟩ ∧ b < B ∧ ∀ (j : Nat) (h : j < xs.length), w.cell? ⟨b, o + j, none⟩ = some xs[j]
theorem RdV.nil (w : World) (B : Nat) (p : Option Addr) : RdV w B p [] := fun h => absurd h (by simp)
theorem RdV.below {w w' : World} {B : Nat} {p : Option Addr} {xs : List Value} (h : RdV w B p xs) (hb : Below B w w') : RdV w' B p xs := fun hn => by
  obtain ⟨b, o, e, hl, hc⟩ := h hn
  exact ⟨b, o, e, hl, fun j hj => (hb.cell (p := ⟨b, o + j, none⟩) hl).trans (hc j hj)⟩
theorem RdV.mono {w : World} {B B' : Nat} {p : Option Addr} {xs : List Value} (h : RdV w B p xs) (hb : B ≤ B') : RdV w B' p xs := fun hn => by
  obtain ⟨b, o, e, hl, hc⟩ := h hn
  exact ⟨b, o, e, Nat.lt_of_lt_of_le hl hb, hc⟩
theorem RdV.on {w w' : World} {p : Option Addr} {xs : List Value} (h : RdV w w.heap.size p xs) (hb : Below w.heap.size w w') : RdV w' w'.heap.size p xs := (h.below hb).mono hb.size
theorem RdV.take {w : World} {B : Nat} {p : Option Addr} {xs : List Value} (h : RdV w B p xs) (n : Nat) : RdV w B p (xs.take n) := fun hn => by
  have hl : (xs.take n).length ≤ xs.length := by simp; omega
  obtain ⟨b, o, e, hb, hc⟩ := h (by omega)
  exact ⟨b, o, e, hb, fun j hj => by rw [hc j (by omega), List.getElem_take]⟩
theorem RdV.drop {w : World} {B : Nat} {p : Option Addr} {xs : List Value} (h : RdV w B p xs) {n cap : Nat} (hc : xs.length ≤ cap) : RdV w B (if cap = n then p else p.map (fun x => x.add n)) (xs.drop n) := fun hn => by
  have hl : (xs.drop n).length = xs.length - n := by simp
  obtain ⟨b, o, rfl, hb, hcell⟩ := h (by omega)
  rw [if_neg (by omega)]
  refine ⟨b, o + n, by simp [addr_add], hb, fun j hj => ?_⟩
  rw [Nat.add_assoc, hcell (n + j) (by omega), List.getElem_drop]
theorem RdV.ofOwn {w : World} {base n : Nat} {e : TypeId} {v : Value} {xs : List Value} (h : w.ownsRow base e 1 v n xs) : ∃ p cap, v = .slice p n cap ∧ n = xs.length ∧ n ≤ cap ∧ (p = none → cap = 0) ∧ RdV w w.heap.size p xs := by
  have hl : xs.length = n := by have := h.1; omega
  rcases h.2 with ⟨rfl, rfl⟩ | ⟨g, cap, cur, rfl, hb, hg, hnc, hcm, hcs, htake⟩
  · exact ⟨none, 0, rfl, hl.symm, Nat.le_refl _, fun _ => rfl, fun hn => by omega⟩
  · refine ⟨some ⟨g, 0, none⟩, cap, rfl, hl.symm, hnc, fun e => (by cases e), fun hn => ⟨g, 0, rfl, (Array.getElem?_eq_some_iff.1 hg).1, fun j hj => ?_⟩⟩
    have := h.cells rfl j xs[j] (List.getElem?_eq_getElem hj)
    rw [addr_add] at this
    exact this

/-- a text's bytes, a row's words as cells -/
def bcells (l : By) : List Value := l.map fun u => Value.int .u8 (u.toNat : Int)
def scells (r : List By) : List Value := r.map fun s => Value.string (str s)
theorem bcells_length (l : By) : (bcells l).length = l.length := by simp [bcells]
theorem scells_length (l : List By) : (scells l).length = l.length := by simp [scells]
theorem bcells_append (a b : By) : bcells (a ++ b) = bcells a ++ bcells b := by simp [bcells]
theorem scells_append (a b : List By) : scells (a ++ b) = scells a ++ scells b := by simp [scells]
theorem bcells_take (l : By) (n : Nat) : (bcells l).take n = bcells (l.take n) := by simp [bcells, List.map_take]
theorem bcells_drop (l : By) (n : Nat) : (bcells l).drop n = bcells (l.drop n) := by simp [bcells, List.map_drop]
theorem RdV.byte {w : World} {B : Nat} {p : Option Addr} {l : By} (h : RdV w B p (bcells l)) {i : Nat} (hi : i < l.length) : ∃ b o, p = some ⟨b, o, none⟩ ∧ b < B ∧ w.cell? ⟨b, o + i, none⟩ = some (.int .u8 (l[i].toNat : Int)) := by
  obtain ⟨b, o, e, hb, hc⟩ := h (by rw [bcells_length]; omega)
  exact ⟨b, o, e, hb, by rw [hc i (by rw [bcells_length]; exact hi)]; simp [bcells]⟩
theorem RdV.word {w : World} {B : Nat} {p : Option Addr} {l : List By} (h : RdV w B p (scells l)) {i : Nat} (hi : i < l.length) : ∃ b o, p = some ⟨b, o, none⟩ ∧ b < B ∧ w.cell? ⟨b, o + i, none⟩ = some (.string (str l[i])) := by
  obtain ⟨b, o, e, hb, hc⟩ := h (by rw [scells_length]; omega)
  exact ⟨b, o, e, hb, by rw [hc i (by rw [scells_length]; exact hi)]; simp [scells]⟩

/-- a row of words as its slice lies -/
structure Rw where
  A : Option Addr
  c : Nat
  ws : List By
def Rw.hd (r : Rw) : Value := .slice r.A r.ws.length r.c
def Rw.all (Ls : List Rw) : List (List By) := Ls.map Rw.ws
theorem Rw.all_length (Ls : List Rw) : (Rw.all Ls).length = Ls.length := by simp [Rw.all]
/-- lines of words that are read -/
def RdL (w : World) (B : Nat) (p : Option Addr) (Ls : List Rw) : Prop := RdV w B p (Ls.map Rw.hd) ∧ ∀ r ∈ Ls, RdV w B r.A (scells r.ws)
theorem RdL.below {w w' : World} {B : Nat} {p : Option Addr} {Ls : List Rw} (h : RdL w B p Ls) (hb : Below B w w') : RdL w' B p Ls := ⟨h.1.below hb, fun r hr => (h.2 r hr).below hb⟩
theorem RdL.mono {w : World} {B B' : Nat} {p : Option Addr} {Ls : List Rw} (h : RdL w B p Ls) (hb : B ≤ B') : RdL w B' p Ls := ⟨h.1.mono hb, fun r hr => (h.2 r hr).mono hb⟩
theorem RdL.on {w w' : World} {p : Option Addr} {Ls : List Rw} (h : RdL w w.heap.size p Ls) (hb : Below w.heap.size w w') : RdL w' w'.heap.size p Ls := (h.below hb).mono hb.size
theorem RdL.nil (w : World) (B : Nat) (p : Option Addr) : RdL w B p [] := ⟨RdV.nil w B p, fun r hr => by cases hr⟩
theorem RdL.row {w : World} {B : Nat} {p : Option Addr} {Ls : List Rw} (h : RdL w B p Ls) {i : Nat} (hi : i < Ls.length) : ∃ b o, p = some ⟨b, o, none⟩ ∧ b < B ∧ w.cell? ⟨b, o + i, none⟩ = some (.slice Ls[i].A Ls[i].ws.length Ls[i].c) ∧ RdV w B Ls[i].A (scells Ls[i].ws) := by
  obtain ⟨b, o, e, hb, hc⟩ := h.1 (by rw [List.length_map]; omega)
  exact ⟨b, o, e, hb, by rw [hc i (by rw [List.length_map]; exact hi)]; simp [Rw.hd], h.2 _ (List.getElem_mem hi)⟩

theorem ownsRow_kept_below {w w' : World} {base : Nat} {e : TypeId} {v : Value} {n : Nat} {xs : List Value} (h : w.ownsRow base e 1 v n xs) (hb : Below w.heap.size w w') : w'.ownsRow base e 1 v n xs := by
  refine ⟨h.1, ?_⟩
  rcases h.2 with hn | ⟨g, cap, cur, rfl, hbg, hg, rest⟩
  · exact .inl hn
  · exact .inr ⟨g, cap, cur, rfl, hbg, (hb.block g (Array.getElem?_eq_some_iff.1 hg).1).trans hg, rest⟩
/-- rows of unlike kinds lie in unlike blocks -/
theorem own_apart {w : World} {base base' : Nat} {e e' : TypeId} {v v' : Value} {n n' : Nat} {xs xs' : List Value} (hne : e ≠ e') (h : w.ownsRow base e 1 v n xs) (h' : w.ownsRow base' e' 1 v' n' xs') : v.ownBlock = none ∨ v.ownBlock ≠ v'.ownBlock := by
  rcases h.2 with ⟨rfl, _⟩ | ⟨g, cap, cur, rfl, _, hg, _⟩
  · exact .inl rfl
  · refine .inr ?_
    rcases h'.2 with ⟨rfl, _⟩ | ⟨g', cap', cur', rfl, _, hg', _⟩
    · simp [Value.ownBlock]
    · intro e1
      simp only [Value.ownBlock, Option.some.injEq] at e1
      subst e1
      rw [hg] at hg'
      simp only [Option.some.injEq, Obj.cells.injEq] at hg'
      exact hne hg'.2.1
end Go.Proofs.Ytbhahddgajkchaa
