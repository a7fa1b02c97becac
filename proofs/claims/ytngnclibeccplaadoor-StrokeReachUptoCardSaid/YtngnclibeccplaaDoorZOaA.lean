/- Texts as lines of words, as plain mathematics: what lies between a byte's places, what is a word, what lines are. No program is named here. -/
import Derived.WalkKit
import Derived.Lib.IndexMore
import Derived.Lib.IndexLaws
import Derived.Lib.Hide
import Derived.WalkLawsBesides
import Derived.Deep.LoopGhost
import Derived.Test.YtngnclibeccplaaDoorChecked
import Derived.Laws.AppendOwn
import Derived.Laws.OwnMore
import Derived.Below
import Derived.Deep.RegionHeld3
namespace Go.Proofs.YtngnclibeccplaaDoor

abbrev By := List UInt8
def str (l : By) : ByteArray := ⟨l.toArray⟩
theorem str_toList (l : By) : (str l).data.toList = l := rfl
theorem str_of (s : ByteArray) : str s.data.toList = s := by cases s; simp [str]
theorem str_size (l : By) : (str l).size = l.length := by simp [str, ByteArray.size]
theorem str_inj {a b : By} (h : str a = str b) : a = b := by
  have := congrArg (fun s => s.data.toList) h
  exact this

/-- a byte that a word may have -/
def okB (u : UInt8) : Bool := decide (33 ≤ u.toNat) && decide (u.toNat ≤ 126)
/-- a word -/
def isW (l : By) : Bool := !l.isEmpty && l.all okB
theorem isW_nil : isW [] = false := rfl
theorem isW_ne {l : By} (h : isW l = true) : l ≠ [] := by rintro rfl; cases h
theorem isW_all {l : By} (h : isW l = true) : l.all okB = true := by
  unfold isW at h
  simp only [Bool.and_eq_true] at h
  exact h.2
theorem isW_of {l : By} (h0 : l ≠ []) (h : ∀ (i : Nat) (hi : i < l.length), okB l[i] = true) : isW l = true := by
  unfold isW
  rw [Bool.and_eq_true]
  refine ⟨by cases l <;> simp_all, ?_⟩
  rw [List.all_eq_true]
  intro x hx
  obtain ⟨i, hi, rfl⟩ := List.getElem_of_mem hx
  exact h i hi
theorem isW_bad {l : By} {i : Nat} (hi : i < l.length) (h : okB l[i] = false) : isW l = false := by
  unfold isW
  rw [Bool.and_eq_false_iff]
  right
  rw [List.all_eq_false]
  exact ⟨l[i], List.getElem_mem hi, by simp [h]⟩

/-- what lies between the places of a byte -/
def pcs (c : UInt8) : By → List By
  | [] => [[]]
  | x :: r => if x = c then [] :: pcs c r else (x :: (pcs c r).headD []) :: (pcs c r).tail
theorem pcs_ne (c : UInt8) (l : By) : pcs c l ≠ [] := by
  cases l with
  | nil => simp [pcs]
  | cons x r => unfold pcs; split <;> simp
theorem pcs_at (c : UInt8) (a r : By) (h : c ∉ a) : pcs c (a ++ c :: r) = a :: pcs c r := by
  induction a with
  | nil => simp [pcs]
  | cons x a ih =>
    have hx : ¬ x = c := fun e => h (by simp [e])
    have ha := ih (fun hm => h (by simp [hm]))
    rw [List.cons_append, pcs, if_neg hx, ha]
    rfl
theorem pcs_none (c : UInt8) (l : By) (h : c ∉ l) : pcs c l = [l] := by
  induction l with
  | nil => rfl
  | cons x a ih =>
    have hx : ¬ x = c := fun e => h (by simp [e])
    have ha := ih (fun hm => h (by simp [hm]))
    rw [pcs, if_neg hx, ha]
    rfl
theorem pcs_length (c : UInt8) (l : By) : (pcs c l).length ≤ l.length + 1 := by
  induction l with
  | nil => simp [pcs]
  | cons x r ih =>
    unfold pcs
    split
    · simp; omega
    · simp; omega
theorem pcs_free (c : UInt8) (l : By) : ∀ p ∈ pcs c l, c ∉ p := by
  induction l with
  | nil => intro p hp; simp [pcs] at hp; subst hp; simp
  | cons x r ih =>
    intro p hp
    unfold pcs at hp
    split at hp
    · rcases List.mem_cons.1 hp with rfl | h
      · simp
      · exact ih p h
    · rename_i hx
      rcases List.mem_cons.1 hp with rfl | h
      · intro hm
        rcases List.mem_cons.1 hm with e | hm
        · exact hx e.symm
        · cases hr : pcs c r with
          | nil => exact pcs_ne c r hr
          | cons q qs =>
            rw [hr] at hm ih
            exact ih q (by simp) hm
      · exact ih p (List.mem_of_mem_tail h)

/-- the place of a byte, as the library tells it -/
theorem index_one (l : By) (c : UInt8) : (Lib.index l [c] = -1 ∧ c ∉ l) ∨ ∃ a r, l = a ++ c :: r ∧ c ∉ a ∧ Lib.index l [c] = (a.length : Int) := by
  have key : ∀ i, Lib.occAt l [c] i = true ↔ l[i]? = some c := by
    intro i
    constructor
    · intro h; exact Lib.occAt_head rfl h
    · intro h
      obtain ⟨hi, hc⟩ := List.getElem?_eq_some_iff.1 h
      unfold Lib.occAt
      rw [List.drop_eq_getElem_cons hi, hc]
      simp [List.isPrefixOf]
  rcases Lib.index_spec l [c] with ⟨h1, h2⟩ | ⟨i, h1, h2, h3, h4⟩
  · left
    refine ⟨h1, fun hm => ?_⟩
    obtain ⟨i, hi, hc⟩ := List.getElem_of_mem hm
    have := h2 i (by omega)
    rw [(key i).2 (by rw [List.getElem?_eq_getElem hi, hc])] at this
    cases this
  · right
    have h5 := (key i).1 h3
    obtain ⟨hi, hc⟩ := List.getElem?_eq_some_iff.1 h5
    refine ⟨l.take i, l.drop (i + 1), ?_, fun hm => ?_, ?_⟩
    · rw [← hc, ← List.drop_eq_getElem_cons hi, List.take_append_drop]
    · obtain ⟨j, hj, hcj⟩ := List.getElem_of_mem hm
      have hj' : j < i := by simp at hj; omega
      have := h4 j hj'
      rw [(key j).2 (by rw [List.getElem_take] at hcj; rw [List.getElem?_eq_getElem (by omega), hcj])] at this
      cases this
    · rw [h1]; simp; omega

/-- lines read one behind the other: what came, which line is wrong, and how -/
abbrev Res := List (List By) × Nat × Nat
def wordsOk (p : By) : Bool := (pcs 32 p).all isW
def linesGo (acc : List (List By)) : List By → Res
  | [] => (acc, 0, 0)
  | [p] => if p = [] then (acc, 0, 0) else if 1000 < acc.length + 1 then ([], acc.length + 1, 7) else ([], acc.length + 1, 11)
  | p :: q :: r => if 1000 < acc.length + 1 then ([], acc.length + 1, 7) else if 4096 < p.length then ([], acc.length + 1, 14) else if wordsOk p then linesGo (acc ++ [pcs 32 p]) (q :: r) else ([], acc.length + 1, 3)
/-- what a text is as lines of words -/
def linesOf (b : By) : Res := linesGo [] (pcs 10 b)
theorem linesGo_end (acc : List (List By)) : linesGo acc (pcs 10 []) = (acc, 0, 0) := by simp [pcs, linesGo]
theorem linesGo_many (acc : List (List By)) {l : By} (h0 : l ≠ []) (h : 1000 < acc.length + 1) : linesGo acc (pcs 10 l) = ([], acc.length + 1, 7) := by
  rcases index_one l 10 with ⟨_, hn⟩ | ⟨a, r, rfl, ha, _⟩
  · rw [pcs_none _ _ hn]
    simp only [linesGo]
    rw [if_neg h0, if_pos h]
  · rw [pcs_at _ _ _ ha]
    cases hr : pcs 10 r with
    | nil => exact absurd hr (pcs_ne _ _)
    | cons q qs => simp only [linesGo]; rw [if_pos h]
theorem linesGo_open (acc : List (List By)) {l : By} (h0 : l ≠ []) (h : acc.length + 1 ≤ 1000) (hn : (10 : UInt8) ∉ l) : linesGo acc (pcs 10 l) = ([], acc.length + 1, 11) := by
  rw [pcs_none _ _ hn]
  simp only [linesGo]
  rw [if_neg h0, if_neg (by omega)]
theorem linesGo_rest (acc : List (List By)) {a r : By} (h : acc.length + 1 ≤ 1000) (ha : (10 : UInt8) ∉ a) (hl : 4096 < a.length) : linesGo acc (pcs 10 (a ++ 10 :: r)) = ([], acc.length + 1, 14) := by
  rw [pcs_at _ _ _ ha]
  cases hr : pcs 10 r with
  | nil => exact absurd hr (pcs_ne _ _)
  | cons q qs => simp only [linesGo]; rw [if_neg (by omega), if_pos hl]
theorem linesGo_form (acc : List (List By)) {a r : By} (h : acc.length + 1 ≤ 1000) (ha : (10 : UInt8) ∉ a) (hl : a.length ≤ 4096) (hw : wordsOk a = false) : linesGo acc (pcs 10 (a ++ 10 :: r)) = ([], acc.length + 1, 3) := by
  rw [pcs_at _ _ _ ha]
  cases hr : pcs 10 r with
  | nil => exact absurd hr (pcs_ne _ _)
  | cons q qs => simp only [linesGo]; rw [if_neg (by omega), if_neg (by omega), hw]; rfl
theorem linesGo_step (acc : List (List By)) {a r : By} (h : acc.length + 1 ≤ 1000) (ha : (10 : UInt8) ∉ a) (hl : a.length ≤ 4096) (hw : wordsOk a = true) : linesGo acc (pcs 10 (a ++ 10 :: r)) = linesGo (acc ++ [pcs 32 a]) (pcs 10 r) := by
  rw [pcs_at _ _ _ ha]
  cases hr : pcs 10 r with
  | nil => exact absurd hr (pcs_ne _ _)
  | cons q qs => simp only [linesGo]; rw [if_neg (by omega), if_neg (by omega), hw]; rfl
end Go.Proofs.YtngnclibeccplaaDoor
/- Is a text a word: the program's and the document's own. -/

namespace Go.Proofs.YtngnclibeccplaaDoor
open Go.RowKit

theorem str_get (s : ByteArray) (j : Nat) (h : j < s.size) : s.data.toList[j]'(by rw [Array.length_toList]; exact h) = s[j] := rfl
theorem str_len (s : ByteArray) : s.data.toList.length = s.size := Array.length_toList
theorem okB_yes {c : UInt8} (h : okB c = true) : (33 : Int) ≤ (c.toNat : Int) ∧ (c.toNat : Int) ≤ 126 := by
  unfold okB at h
  simp only [Bool.and_eq_true, decide_eq_true_eq] at h
  omega
theorem okB_no {c : UInt8} (h : okB c = false) : (c.toNat : Int) < 33 ∨ ((33 : Int) ≤ (c.toNat : Int) ∧ (126 : Int) < (c.toNat : Int)) := by
  unfold okB at h
  simp only [Bool.and_eq_false_iff, decide_eq_false_iff_not] at h
  omega

end Go.Proofs.YtngnclibeccplaaDoor
/- Rows that are read: bytes, words, lines of words in memory; rows that a call made. -/

namespace Go.Proofs.YtngnclibeccplaaDoor
open Go.RowKit

theorem addr_add (g o j : Nat) : (⟨g, o, none⟩ : Addr).add j = ⟨g, o + j, none⟩ := by unfold Addr.add; split <;> simp_all
/-- the slice at p reads as xs, a cell each, in a block below B -/
def RdV (w : World) (B : Nat) (p : Option Addr) (xs : List Value) : Prop :=
  0 < xs.length → ∃ b o, p = some ⟨b, o, none⟩ ∧ b < B ∧ ∀ (j : Nat) (h : j < xs.length), w.cell? ⟨b, o + j, none⟩ = some xs[j]
theorem RdV.nil (w : World) (B : Nat) (p : Option Addr) : RdV w B p [] := fun h => absurd h (by simp)
theorem RdV.below {w w' : World} {B : Nat} {p : Option Addr} {xs : List Value} (h : RdV w B p xs) (hb : Below B w w') : RdV w' B p xs := fun hn => by
  obtain ⟨b, o, e, hl, hc⟩ := h hn
  exact ⟨b, o, e, hl, fun j hj => (hb.cell (p := ⟨b, o + j, none⟩) hl).trans (hc j hj)⟩
theorem RdV.mono {w : World} {B B' : Nat} {p : Option Addr} {xs : List Value} (h : RdV w B p xs) (hb : B ≤ B') : RdV w B' p xs := fun hn => by
  obtain ⟨b, o, e, hl, hc⟩ := h hn
  exact ⟨b, o, e, Nat.lt_of_lt_of_le hl hb, hc⟩
theorem RdV.on {w w' : World} {p : Option Addr} {xs : List Value} (h : RdV w w.heap.size p xs) (hb : Below w.heap.size w w') : RdV w' w'.heap.size p xs := (h.below hb).mono hb.size
theorem RdV.take {w : World} {B : Nat} {p : Option Addr} {xs : List Value} (h : RdV w B p xs) (n : Nat) : RdV w B p (xs.take n) := fun hn => by
  have hl : (xs.take n).length ≤ xs.length := by simp; omega
  obtain ⟨b, o, e, hb, hc⟩ := h (by omega)
  exact ⟨b, o, e, hb, fun j hj => by rw [hc j (by omega), List.getElem_take]⟩
theorem RdV.drop {w : World} {B : Nat} {p : Option Addr} {xs : List Value} (h : RdV w B p xs) {n cap : Nat} (hc : xs.length ≤ cap) : RdV w B (if cap = n then p else p.map (fun x => x.add n)) (xs.drop n) := fun hn => by
  have hl : (xs.drop n).length = xs.length - n := by simp
  obtain ⟨b, o, rfl, hb, hcell⟩ := h (by omega)
  rw [if_neg (by omega)]
  refine ⟨b, o + n, by simp [addr_add], hb, fun j hj => ?_⟩
  rw [Nat.add_assoc, hcell (n + j) (by omega), List.getElem_drop]
theorem RdV.ofOwn {w : World} {base n : Nat} {e : TypeId} {v : Value} {xs : List Value} (h : w.ownsRow base e 1 v n xs) : ∃ p cap, v = .slice p n cap ∧ n = xs.length ∧ n ≤ cap ∧ (p = none → cap = 0) ∧ RdV w w.heap.size p xs := by
  have hl : xs.length = n := by have := h.1; omega
  rcases h.2 with ⟨rfl, rfl⟩ | ⟨g, cap, cur, rfl, hb, hg, hnc, hcm, hcs, htake⟩
  · exact ⟨none, 0, rfl, hl.symm, Nat.le_refl _, fun _ => rfl, fun hn => by omega⟩
  · refine ⟨some ⟨g, 0, none⟩, cap, rfl, hl.symm, hnc, fun e => (by cases e), fun hn => ⟨g, 0, rfl, (Array.getElem?_eq_some_iff.1 hg).1, fun j hj => ?_⟩⟩
    have := h.cells rfl j xs[j] (List.getElem?_eq_getElem hj)
    rw [addr_add] at this
    exact this

/-- a text's bytes, a row's words as cells -/
def bcells (l : By) : List Value := l.map fun u => Value.int .u8 (u.toNat : Int)
def scells (r : List By) : List Value := r.map fun s => Value.string (str s)
theorem bcells_length (l : By) : (bcells l).length = l.length := by simp [bcells]
theorem scells_length (l : List By) : (scells l).length = l.length := by simp [scells]
theorem bcells_append (a b : By) : bcells (a ++ b) = bcells a ++ bcells b := by simp [bcells]
theorem scells_append (a b : List By) : scells (a ++ b) = scells a ++ scells b := by simp [scells]
theorem bcells_take (l : By) (n : Nat) : (bcells l).take n = bcells (l.take n) := by simp [bcells, List.map_take]
theorem bcells_drop (l : By) (n : Nat) : (bcells l).drop n = bcells (l.drop n) := by simp [bcells, List.map_drop]
theorem RdV.byte {w : World} {B : Nat} {p : Option Addr} {l : By} (h : RdV w B p (bcells l)) {i : Nat} (hi : i < l.length) : ∃ b o, p = some ⟨b, o, none⟩ ∧ b < B ∧ w.cell? ⟨b, o + i, none⟩ = some (.int .u8 (l[i].toNat : Int)) := by
  obtain ⟨b, o, e, hb, hc⟩ := h (by rw [bcells_length]; omega)
  exact ⟨b, o, e, hb, by rw [hc i (by rw [bcells_length]; exact hi)]; simp [bcells]⟩
theorem RdV.word {w : World} {B : Nat} {p : Option Addr} {l : List By} (h : RdV w B p (scells l)) {i : Nat} (hi : i < l.length) : ∃ b o, p = some ⟨b, o, none⟩ ∧ b < B ∧ w.cell? ⟨b, o + i, none⟩ = some (.string (str l[i])) := by
  obtain ⟨b, o, e, hb, hc⟩ := h (by rw [scells_length]; omega)
  exact ⟨b, o, e, hb, by rw [hc i (by rw [scells_length]; exact hi)]; simp [scells]⟩

/-- a row of words as its slice lies -/
structure Rw where
  A : Option Addr
  c : Nat
  ws : List By
def Rw.hd (r : Rw) : Value := .slice r.A r.ws.length r.c
def Rw.all (Ls : List Rw) : List (List By) := Ls.map Rw.ws
theorem Rw.all_length (Ls : List Rw) : (Rw.all Ls).length = Ls.length := by simp [Rw.all]
/-- lines of words that are read -/
def RdL (w : World) (B : Nat) (p : Option Addr) (Ls : List Rw) : Prop := RdV w B p (Ls.map Rw.hd) ∧ ∀ r ∈ Ls, RdV w B r.A (scells r.ws)
theorem RdL.below {w w' : World} {B : Nat} {p : Option Addr} {Ls : List Rw} (h : RdL w B p Ls) (hb : Below B w w') : RdL w' B p Ls := ⟨h.1.below hb, fun r hr => (h.2 r hr).below hb⟩
theorem RdL.mono {w : World} {B B' : Nat} {p : Option Addr} {Ls : List Rw} (h : RdL w B p Ls) (hb : B ≤ B') : RdL w B' p Ls := ⟨h.1.mono hb, fun r hr => (h.2 r hr).mono hb⟩
theorem RdL.on {w w' : World} {p : Option Addr} {Ls : List Rw} (h : RdL w w.heap.size p Ls) (hb : Below w.heap.size w w') : RdL w' w'.heap.size p Ls := (h.below hb).mono hb.size
theorem RdL.nil (w : World) (B : Nat) (p : Option Addr) : RdL w B p [] := ⟨RdV.nil w B p, fun r hr => by cases hr⟩
theorem RdL.row {w : World} {B : Nat} {p : Option Addr} {Ls : List Rw} (h : RdL w B p Ls) {i : Nat} (hi : i < Ls.length) : ∃ b o, p = some ⟨b, o, none⟩ ∧ b < B ∧ w.cell? ⟨b, o + i, none⟩ = some (.slice Ls[i].A Ls[i].ws.length Ls[i].c) ∧ RdV w B Ls[i].A (scells Ls[i].ws) := by
  obtain ⟨b, o, e, hb, hc⟩ := h.1 (by rw [List.length_map]; omega)
  exact ⟨b, o, e, hb, by rw [hc i (by rw [List.length_map]; exact hi)]; simp [Rw.hd], h.2 _ (List.getElem_mem hi)⟩

theorem ownsRow_kept_below {w w' : World} {base : Nat} {e : TypeId} {v : Value} {n : Nat} {xs : List Value} (h : w.ownsRow base e 1 v n xs) (hb : Below w.heap.size w w') : w'.ownsRow base e 1 v n xs := by
  refine ⟨h.1, ?_⟩
  rcases h.2 with hn | ⟨g, cap, cur, rfl, hbg, hg, rest⟩
  · exact .inl hn
  · exact .inr ⟨g, cap, cur, rfl, hbg, (hb.block g (Array.getElem?_eq_some_iff.1 hg).1).trans hg, rest⟩
/-- rows of unlike kinds lie in unlike blocks -/
theorem own_apart {w : World} {base base' : Nat} {e e' : TypeId} {v v' : Value} {n n' : Nat} {xs xs' : List Value} (hne : e ≠ e') (h : w.ownsRow base e 1 v n xs) (h' : w.ownsRow base' e' 1 v' n' xs') : v.ownBlock = none ∨ v.ownBlock ≠ v'.ownBlock := by
  rcases h.2 with ⟨rfl, _⟩ | ⟨g, cap, cur, rfl, _, hg, _⟩
  · exact .inl rfl
  · refine .inr ?_
    rcases h'.2 with ⟨rfl, _⟩ | ⟨g', cap', cur', rfl, _, hg', _⟩
    · simp [Value.ownBlock]
    · intro e1
      simp only [Value.ownBlock, Option.some.injEq] at e1
      subst e1
      rw [hg] at hg'
      simp only [Option.some.injEq, Obj.cells.injEq] at hg'
      exact hne hg'.2.1
end Go.Proofs.YtngnclibeccplaaDoor
/- Bytes in figures, there and back, as plain mathematics. No program is named here. -/

namespace Go.Proofs.YtngnclibeccplaaDoor

/-- a half byte's figure -/
def fig (n : Nat) : UInt8 := if n < 10 then UInt8.ofNat (48 + n) else UInt8.ofNat (87 + n)
theorem fig_nat {n : Nat} (h : n < 16) : (fig n).toNat = if n < 10 then 48 + n else 87 + n := by
  unfold fig
  split <;> simp [UInt8.toNat_ofNat] <;> omega
theorem fig_inj {m n : Nat} (hm : m < 16) (hn : n < 16) (h : fig m = fig n) : m = n := by
  have e := congrArg UInt8.toNat h
  rw [fig_nat hm, fig_nat hn] at e
  split at e <;> split at e <;> omega
/-- bytes in figures -/
def hexOf (b : By) : By := b.flatMap fun u => [fig (u.toNat / 16), fig (u.toNat % 16)]
theorem hexOf_nil : hexOf [] = [] := rfl
theorem hexOf_snoc (b : By) (u : UInt8) : hexOf (b ++ [u]) = hexOf b ++ [fig (u.toNat / 16), fig (u.toNat % 16)] := by simp [hexOf]
theorem hexOf_cons (u : UInt8) (b : By) : hexOf (u :: b) = fig (u.toNat / 16) :: fig (u.toNat % 16) :: hexOf b := rfl
theorem hexOf_length (b : By) : (hexOf b).length = 2 * b.length := by
  induction b with
  | nil => rfl
  | cons u b ih => rw [hexOf_cons, List.length_cons, List.length_cons, List.length_cons, ih]; omega
theorem hexOf_inj : ∀ {a b : By}, hexOf a = hexOf b → a = b
  | [], [], _ => rfl
  | [], v :: b, h => by rw [hexOf_cons] at h; cases h
  | u :: a, [], h => by rw [hexOf_cons] at h; cases h
  | u :: a, v :: b, h => by
    rw [hexOf_cons, hexOf_cons] at h
    have h1 := (List.cons.inj h).1
    have h2 := (List.cons.inj (List.cons.inj h).2).1
    have h3 := hexOf_inj (List.cons.inj (List.cons.inj h).2).2
    have hu := u.toNat_lt
    have hv := v.toNat_lt
    have e1 := fig_inj (by omega) (by omega) h1
    have e2 := fig_inj (by omega) (by omega) h2
    have : u = v := UInt8.toNat_inj.1 (by omega)
    rw [this, h3]
/-- the byte of two figures -/
def byteOf (x y : UInt8) : Option UInt8 := ((List.range 256).find? fun n => fig (n / 16) == x && fig (n % 16) == y).map UInt8.ofNat
theorem byteOf_some {x y u : UInt8} (h : byteOf x y = some u) : fig (u.toNat / 16) = x ∧ fig (u.toNat % 16) = y := by
  unfold byteOf at h
  obtain ⟨n, hn, rfl⟩ := Option.map_eq_some_iff.1 h
  have h1 := List.find?_some hn
  have h2 := List.mem_range.1 (List.mem_of_find?_eq_some hn)
  simp only [Bool.and_eq_true, beq_iff_eq] at h1
  have e : (UInt8.ofNat n).toNat = n := by simp; omega
  rw [e]
  exact h1
theorem byteOf_fig (u : UInt8) : byteOf (fig (u.toNat / 16)) (fig (u.toNat % 16)) = some u := by
  cases h : byteOf (fig (u.toNat / 16)) (fig (u.toNat % 16)) with
  | some v =>
    obtain ⟨h1, h2⟩ := byteOf_some h
    have hu := u.toNat_lt
    have hv := v.toNat_lt
    have e1 := fig_inj (by omega) (by omega) h1
    have e2 := fig_inj (by omega) (by omega) h2
    have : v = u := UInt8.toNat_inj.1 (by omega)
    rw [this]
  | none =>
    unfold byteOf at h
    rw [Option.map_eq_none_iff, List.find?_eq_none] at h
    have := h u.toNat (List.mem_range.2 (by have := u.toNat_lt; omega))
    simp at this
theorem byteOf_none {x y : UInt8} (h : byteOf x y = none) {n : Nat} (hn : n < 256) : (fig (n / 16) == x && fig (n % 16) == y) = false := by
  unfold byteOf at h
  rw [Option.map_eq_none_iff, List.find?_eq_none] at h
  have := h n (List.mem_range.2 hn)
  simpa using this
/-- the bytes of figures -/
def unhexOf : By → Option By
  | [] => some []
  | [_] => none
  | x :: y :: r => match byteOf x y with
    | none => none
    | some u => (unhexOf r).map (u :: ·)
theorem unhexOf_hex : ∀ b : By, unhexOf (hexOf b) = some b
  | [] => rfl
  | u :: b => by
    rw [hexOf_cons]
    unfold unhexOf
    rw [byteOf_fig, unhexOf_hex b]
    rfl
theorem unhexOf_some : ∀ {s b : By}, unhexOf s = some b → hexOf b = s
  | [], b, h => by cases h; rfl
  | [_], b, h => by cases h
  | x :: y :: r, b, h => by
    unfold unhexOf at h
    cases hb : byteOf x y with
    | none => rw [hb] at h; cases h
    | some u =>
      rw [hb] at h
      obtain ⟨c, hc, rfl⟩ := Option.map_eq_some_iff.1 h
      obtain ⟨h1, h2⟩ := byteOf_some hb
      rw [hexOf_cons, h1, h2, unhexOf_some hc]
theorem unhexOf_odd : ∀ {s : By}, s.length % 2 = 1 → unhexOf s = none
  | [], h => by simp at h
  | [_], _ => rfl
  | x :: y :: r, h => by
    unfold unhexOf
    rw [unhexOf_odd (s := r) (by simp at h; omega)]
    cases byteOf x y <;> rfl
/-- pair by pair from the front: what has come, and what is left -/
theorem unhexOf_at : ∀ {s b r : By}, s = hexOf b ++ r → unhexOf s = (unhexOf r).map (b ++ ·)
  | s, [], r, h => by
    rw [h, hexOf_nil, List.nil_append]
    cases unhexOf r <;> simp
  | s, u :: b, r, h => by
    rw [h, hexOf_cons, List.cons_append, List.cons_append]
    conv => lhs; unfold unhexOf
    rw [byteOf_fig]
    dsimp only
    rw [unhexOf_at (s := hexOf b ++ r) (b := b) rfl]
    generalize unhexOf r = z
    cases z <;> simp
end Go.Proofs.YtngnclibeccplaaDoor
/- Colours as plain mathematics: parts by 255, weighing, laying over, fading, mixing, figures. -/

namespace Go.Proofs.YtngnclibeccplaaDoor

/-- a colour's four parts -/
structure Col where
  r : UInt8
  g : UInt8
  b : UInt8
  a : UInt8
theorem Col.same {c d : Col} : c = d ↔ c.r = d.r ∧ c.g = d.g ∧ c.b = d.b ∧ c.a = d.a := by
  cases c; cases d; simp
def col0 : Col := ⟨0, 0, 0, 0⟩
/-- a colour as it lies -/
def colCells (c : Col) : List Value := [.int .u8 (c.r.toNat : Int), .int .u8 (c.g.toNat : Int), .int .u8 (c.b.toNat : Int), .int .u8 (c.a.toNat : Int)]
def colV (c : Col) : Value := .agg #[.int .u8 (c.r.toNat : Int), .int .u8 (c.g.toNat : Int), .int .u8 (c.b.toNat : Int), .int .u8 (c.a.toNat : Int)]
/-- a number by 255, to the nearest -/
def partU (n : Int) : UInt8 := if n < 0 then 0 else if 65025 < n then 255 else UInt8.ofNat ((n + 127) / 255).toNat
theorem partU_low {n : Int} (h : n < 0) : partU n = 0 := by unfold partU; rw [if_pos h]
theorem partU_high {n : Int} (h : 65025 < n) : partU n = 255 := by unfold partU; rw [if_neg (by omega), if_pos h]
theorem partU_mid {n : Int} (h0 : 0 ≤ n) (h1 : n ≤ 65025) : ((partU n).toNat : Int) = (n + 127) / 255 := by
  unfold partU
  rw [if_neg (by omega), if_neg (by omega)]
  simp only [UInt8.toNat_ofNat']
  omega
theorem partU_is {n : Int} {u : UInt8} (h0 : 0 ≤ n) (h1 : n ≤ 65025) (h : (u.toNat : Int) = (n + 127) / 255) : partU n = u := by
  have := partU_mid h0 h1
  exact UInt8.toNat_inj.1 (by omega)
def timesU (a b : UInt8) : UInt8 := partU ((a.toNat : Int) * (b.toNat : Int))
theorem mul_parts (a b : UInt8) : 0 ≤ (a.toNat : Int) * (b.toNat : Int) ∧ (a.toNat : Int) * (b.toNat : Int) ≤ 65025 := by
  have ha := a.toNat_lt
  have hb := b.toNat_lt
  have h : a.toNat * b.toNat ≤ 255 * 255 := Nat.mul_le_mul (by omega) (by omega)
  have e : (a.toNat : Int) * (b.toNat : Int) = ((a.toNat * b.toNat : Nat) : Int) := by simp
  omega
theorem timesU_nat (a b : UInt8) : (timesU a b).toNat = (a.toNat * b.toNat + 127) / 255 := by
  obtain ⟨h0, h1⟩ := mul_parts a b
  have h := partU_mid h0 h1
  have e : (a.toNat : Int) * (b.toNat : Int) = ((a.toNat * b.toNat : Nat) : Int) := by simp
  unfold timesU
  omega
def weighC (c : Col) : Col := ⟨timesU c.r c.a, timesU c.g c.a, timesU c.b c.a, c.a⟩
def mayC (c : Col) : Bool := decide (c.r.toNat ≤ c.a.toNat) && decide (c.g.toNat ≤ c.a.toNat) && decide (c.b.toNat ≤ c.a.toNat)
/-- one part over another one -/
def overU (a b cover : UInt8) : UInt8 := UInt8.ofNat (min 255 (a.toNat + (timesU b (255 - cover)).toNat))
theorem not255 (u : UInt8) : (255 - u).toNat = 255 - u.toNat := by
  have h := u.toNat_lt
  rw [UInt8.toNat_sub_of_le _ _ (by rw [UInt8.le_iff_toNat_le]; exact Nat.le_of_lt_succ h)]
  rfl
theorem overU_nat (a b cover : UInt8) : (overU a b cover).toNat = min 255 (a.toNat + (timesU b (255 - cover)).toNat) := by
  unfold overU
  simp only [UInt8.toNat_ofNat']
  omega
def overC (c d : Col) : Col := ⟨overU c.r d.r c.a, overU c.g d.g c.a, overU c.b d.b c.a, overU c.a d.a c.a⟩
def fadeC (c : Col) (n : UInt8) : Col := ⟨timesU c.r n, timesU c.g n, timesU c.b n, timesU c.a n⟩
def mixU (a b n : UInt8) : UInt8 := partU ((a.toNat : Int) * (255 - (n.toNat : Int)) + (b.toNat : Int) * (n.toNat : Int))
def mixC (c d : Col) (n : UInt8) : Col := ⟨mixU c.r d.r n, mixU c.g d.g n, mixU c.b d.b n, mixU c.a d.a n⟩

/-! what follows -/
theorem timesU_le (a b : UInt8) : (timesU a b).toNat ≤ b.toNat := by
  rw [timesU_nat]
  have ha := a.toNat_lt
  have h : a.toNat * b.toNat ≤ 255 * b.toNat := Nat.mul_le_mul_right _ (by omega)
  omega
theorem timesU_mono {a b : UInt8} (h : a.toNat ≤ b.toNat) (n : UInt8) : (timesU a n).toNat ≤ (timesU b n).toNat := by
  rw [timesU_nat, timesU_nat]
  have h : a.toNat * n.toNat ≤ b.toNat * n.toNat := Nat.mul_le_mul_right _ h
  omega
theorem timesU_zero (n : UInt8) : timesU 0 n = 0 := UInt8.toNat_inj.1 (by rw [timesU_nat]; simp)
theorem timesU_none (n : UInt8) : timesU n 0 = 0 := UInt8.toNat_inj.1 (by rw [timesU_nat]; simp)
theorem timesU_all (n : UInt8) : timesU n 255 = n := UInt8.toNat_inj.1 (by
  rw [timesU_nat]
  have : (255 : UInt8).toNat = 255 := rfl
  rw [this]
  omega)
theorem may_weigh (c : Col) : mayC (weighC c) = true := by
  simp [mayC, weighC, timesU_le]
theorem may_iff {c : Col} : mayC c = true ↔ c.r.toNat ≤ c.a.toNat ∧ c.g.toNat ≤ c.a.toNat ∧ c.b.toNat ≤ c.a.toNat := by
  simp [mayC, and_assoc]
theorem overU_mono {a a' b b' : UInt8} (h : a.toNat ≤ a'.toNat) (h' : b.toNat ≤ b'.toNat) (n : UInt8) : (overU a b n).toNat ≤ (overU a' b' n).toNat := by
  rw [overU_nat, overU_nat]
  have := timesU_mono h' (255 - n)
  omega
theorem may_over {c d : Col} (h : mayC c = true) (h' : mayC d = true) : mayC (overC c d) = true := by
  obtain ⟨h1, h2, h3⟩ := may_iff.1 h
  obtain ⟨h1', h2', h3'⟩ := may_iff.1 h'
  exact may_iff.2 ⟨overU_mono h1 h1' _, overU_mono h2 h2' _, overU_mono h3 h3' _⟩
theorem may_fade {c : Col} (h : mayC c = true) (n : UInt8) : mayC (fadeC c n) = true := by
  obtain ⟨h1, h2, h3⟩ := may_iff.1 h
  exact may_iff.2 ⟨timesU_mono h1 n, timesU_mono h2 n, timesU_mono h3 n⟩
theorem overU_full (a b : UInt8) : overU a b 255 = a := UInt8.toNat_inj.1 (by
  rw [overU_nat, show (255 - 255 : UInt8) = 0 from rfl, timesU_none]
  have := a.toNat_lt
  simp
  omega)
theorem overU_none (b : UInt8) : overU 0 b 0 = b := UInt8.toNat_inj.1 (by
  rw [overU_nat, show (255 - 0 : UInt8) = 255 from rfl, timesU_all]
  have := b.toNat_lt
  simp
  omega)
theorem overU_zero (a n : UInt8) : overU a 0 n = a := UInt8.toNat_inj.1 (by
  rw [overU_nat, timesU_zero]
  have := a.toNat_lt
  simp
  omega)
theorem over_all (c d : Col) (h : c.a = 255) : overC c d = c := by
  cases c
  subst h
  simp [overC, overU_full]
theorem over_nothing (d : Col) : overC col0 d = d := by simp [overC, col0, overU_none]
theorem over_blank (c : Col) : overC c col0 = c := by simp [overC, col0, overU_zero]
theorem fade_all (c : Col) : fadeC c 255 = c := by simp [fadeC, timesU_all]
theorem fade_none (c : Col) : fadeC c 0 = col0 := by simp [fadeC, timesU_none, col0]
theorem mixU_zero (a b : UInt8) : mixU a b 0 = a := by
  have := a.toNat_lt
  exact partU_is (by simp; omega) (by simp; omega) (by simp; omega)
theorem mixU_all (a b : UInt8) : mixU a b 255 = b := by
  have := b.toNat_lt
  have e : (255 : UInt8).toNat = 255 := rfl
  exact partU_is (by rw [e]; omega) (by rw [e]; omega) (by rw [e]; omega)
theorem mix_zero (c d : Col) : mixC c d 0 = c := by simp [mixC, mixU_zero]
theorem mix_all (c d : Col) : mixC c d 255 = d := by simp [mixC, mixU_all]
theorem over_covers (c d : Col) : c.a.toNat ≤ (overC c d).a.toNat := by
  show c.a.toNat ≤ (overU c.a d.a c.a).toNat
  rw [overU_nat]
  have := c.a.toNat_lt
  omega
/-- a colour in figures, and the colour of figures -/
def colBy (c : Col) : By := [c.r, c.g, c.b, c.a]
def colOf : By → Option Col
  | [r, g, b, a] => some ⟨r, g, b, a⟩
  | _ => none
theorem colOf_by (c : Col) : colOf (colBy c) = some c := rfl
theorem colOf_long {l : By} (h : l.length ≠ 4) : colOf l = none := by
  match l, h with
  | [], _ => rfl
  | [_], _ => rfl
  | [_, _], _ => rfl
  | [_, _, _], _ => rfl
  | [_, _, _, _], h => exact absurd rfl h
  | _ :: _ :: _ :: _ :: _ :: _, _ => rfl
theorem colOf_four {l : By} (h : l.length = 4) : ∃ c, l = colBy c ∧ colOf l = some c := by
  match l, h with
  | [r, g, b, a], _ => exact ⟨⟨r, g, b, a⟩, rfl, rfl⟩
/-- the colour whose text this is -/
def colRead (s : By) : Option Col := (unhexOf s).bind colOf
theorem colRead_text (c : Col) : colRead (hexOf (colBy c)) = some c := by simp [colRead, unhexOf_hex, colOf_by]
end Go.Proofs.YtngnclibeccplaaDoor
/- Colours: the document's own parts by 255. -/

namespace Go.Proofs.YtngnclibeccplaaDoor
open Go.RowKit

end Go.Proofs.YtngnclibeccplaaDoor
/- Colours: the document's own Weigh, May, Over, Fade, Mix. -/

namespace Go.Proofs.YtngnclibeccplaaDoor
open Go.RowKit

/-- block g is a box with just these cells -/
def Box (w : World) (g : Nat) (t : TypeId) (vs : List Value) : Prop := w.heap[g]? = some (.cells vs.toArray t (0, 0))
section
variable {w w' : World} {g : Nat} {t : TypeId} {vs : List Value}
theorem Box.lt (h : Box w g t vs) : g < w.heap.size := by
  rcases Nat.lt_or_ge g w.heap.size with hlt | hge
  · exact hlt
  · unfold Box at h; rw [Array.getElem?_eq_none hge] at h; cases h
theorem Box.cell (h : Box w g t vs) (i : Nat) {v : Value} (hv : vs[i]? = some v) : w.cell? ⟨g, i, none⟩ = some v := by
  rw [cell_of_row w g i _ t (0, 0) h]
  simpa using hv
theorem Box.frozen (h : Box w g t vs) (i : Nat) : w.frozen? ⟨g, i, none⟩ = false := frozen_of_row w g i _ t h
theorem Box.set (h : Box w g t vs) (i : Nat) (v : Value) : Box (w.setCell ⟨g, i, none⟩ v) g t (vs.set i v) := by
  have := heap_setCell_same w g i _ t v h
  unfold Box
  rw [this]
  simp
theorem Box.far (h : Box w g t vs) {p : Addr} (hp : g ≠ p.block) (u : Value) : Box (w.setCell p u) g t vs := (Below.heap_setCell w p u g hp).trans h
theorem Box.alloc (h : Box w g t vs) (o : Obj) : Box (w.alloc o) g t vs := (Below.heap_alloc w o g h.lt).trans h
theorem Box.drewN (h : Box w g t vs) (n : Nat) : Box (w.drewN n) g t vs := h
theorem Box.new (w : World) (t : TypeId) (vs : List Value) : Box (w.alloc (.cells vs.toArray t)) w.heap.size t vs := heap_alloc_new w _
theorem Box.at_new (w : World) (t : TypeId) (vs : List Value) {g : Nat} (hg : g = w.heap.size) : Box (w.alloc (.cells vs.toArray t)) g t vs := by rw [hg]; exact Box.new w t vs
theorem Box.below {B : Nat} (h : Box w g t vs) (hb : Below B w w') (hg : g < B) : Box w' g t vs := (hb.block g hg).trans h
/-- a box of four, as a colour lies -/
theorem Box.four {a b c d : Value} (h : Box w g t [a, b, c, d]) : (w.cell? ⟨g, 0, none⟩ = some a ∧ w.cell? ⟨g, 1, none⟩ = some b ∧ w.cell? ⟨g, 2, none⟩ = some c ∧ w.cell? ⟨g, 3, none⟩ = some d) ∧
    (w.frozen? ⟨g, 0, none⟩ = false ∧ w.frozen? ⟨g, 1, none⟩ = false ∧ w.frozen? ⟨g, 2, none⟩ = false ∧ w.frozen? ⟨g, 3, none⟩ = false) :=
  ⟨⟨h.cell 0 rfl, h.cell 1 rfl, h.cell 2 rfl, h.cell 3 rfl⟩, h.frozen 0, h.frozen 1, h.frozen 2, h.frozen 3⟩
/-- .. and what four stores leave -/
theorem Box.stored {a b c d : Value} (h : Box w g t [a, b, c, d]) (x y z u : Value) : ∃ U, (((w.setCell ⟨g, 0, none⟩ x).setCell ⟨g, 1, none⟩ y).setCell ⟨g, 2, none⟩ z).setCell ⟨g, 3, none⟩ u = U ∧ Box U g t [x, y, z, u] ∧ (∀ B, B ≤ g → Below B w U) := by
  refine ⟨_, rfl, ?_, fun B hB => ((((Below.refl B w).setCell (p := ⟨g, 0, none⟩) hB x).setCell (p := ⟨g, 1, none⟩) hB y).setCell (p := ⟨g, 2, none⟩) hB z).setCell (p := ⟨g, 3, none⟩) hB u⟩
  exact (((h.set 0 x).set 1 y).set 2 z).set 3 u
end

/-- a colour's box, as it is made -/
def zero4 : List Value := [.int .u8 0, .int .u8 0, .int .u8 0, .int .u8 0]

end Go.Proofs.YtngnclibeccplaaDoor
/- Maps of the plane as mathematics: which may be, where a point goes, by one map and by a row of them. No program is named here. -/

namespace Go.Proofs.YtngnclibeccplaaDoor

/-- a point of the grid -/
structure Pt where
  x : Int
  y : Int
theorem Pt.same {p q : Pt} : p = q ↔ p.x = q.x ∧ p.y = q.y := by cases p; cases q; simp
instance : DecidableEq Pt := fun _ _ => decidable_of_iff _ Pt.same.symm
instance : Inhabited Pt := ⟨⟨0, 0⟩⟩
def pt0 : Pt := ⟨0, 0⟩
/-- a map's six numbers -/
structure Mp where
  a : Int
  b : Int
  c : Int
  d : Int
  e : Int
  f : Int
instance : Inhabited Mp := ⟨⟨0, 0, 0, 0, 0, 0⟩⟩
def FitP (p : Pt) : Prop := (-8388607 ≤ p.x ∧ p.x ≤ 8388607) ∧ (-8388607 ≤ p.y ∧ p.y ≤ 8388607)
instance (p : Pt) : Decidable (FitP p) := by unfold FitP; exact inferInstance
def MayF (n : Int) : Prop := -32768 ≤ n ∧ n ≤ 32768
instance (n : Int) : Decidable (MayF n) := by unfold MayF; exact inferInstance
def MayM (m : Mp) : Prop := MayF m.a ∧ MayF m.b ∧ MayF m.c ∧ MayF m.d ∧ FitP ⟨m.e, m.f⟩
instance (m : Mp) : Decidable (MayM m) := by unfold MayM; exact inferInstance
def detM (m : Mp) : Int := m.a * m.d - m.b * m.c
/-- a 256th part, to the nearest whole number, of two the greater one -/
def nearN (s : Int) : Int := (s + 128) / 256
def goM (m : Mp) (p : Pt) : Pt := ⟨nearN (m.a * p.x + m.c * p.y) + m.e, nearN (m.b * p.x + m.d * p.y) + m.f⟩
def applyE (m : Mp) (p : Pt) : Int := if MayM m then (if FitP p ∧ FitP (goM m p) then 0 else 4) else 2
/-- two shifts may be taken in any order -/
theorem shift_go (e f : Int) (p : Pt) : goM ⟨256, 0, 0, 256, e, f⟩ p = ⟨p.x + e, p.y + f⟩ := by
  unfold goM nearN
  simp only [Pt.same]
  constructor
  · show (256 * p.x + 0 * p.y + 128) / 256 + e = p.x + e; omega
  · show (0 * p.x + 256 * p.y + 128) / 256 + f = p.y + f; omega
end Go.Proofs.YtngnclibeccplaaDoor
/- Maps of the plane: the document's own Fits, factor, May. Written by gen/genaf.py. -/

namespace Go.Proofs.YtngnclibeccplaaDoor
open Go.RowKit

def ptV (p : Pt) : Value := .agg #[.int .i64 p.x, .int .i64 p.y]
def ptCells (p : Pt) : List Value := [.int .i64 p.x, .int .i64 p.y]
def mpV (m : Mp) : Value := .agg #[.int .i64 m.a, .int .i64 m.b, .int .i64 m.c, .int .i64 m.d, .int .i64 m.e, .int .i64 m.f]
def mpCells (m : Mp) : List Value := [.int .i64 m.a, .int .i64 m.b, .int .i64 m.c, .int .i64 m.d, .int .i64 m.e, .int .i64 m.f]
theorem Box.pair {w : World} {g : Nat} {t : TypeId} {a b : Value} (h : Box w g t [a, b]) : (w.cell? ⟨g, 0, none⟩ = some a ∧ w.cell? ⟨g, 1, none⟩ = some b) ∧ (w.frozen? ⟨g, 0, none⟩ = false ∧ w.frozen? ⟨g, 1, none⟩ = false) :=
  ⟨⟨h.cell 0 rfl, h.cell 1 rfl⟩, h.frozen 0, h.frozen 1⟩
theorem Box.six {w : World} {g : Nat} {t : TypeId} {a b c d e f : Value} (h : Box w g t [a, b, c, d, e, f]) : w.cell? ⟨g, 0, none⟩ = some a ∧ w.cell? ⟨g, 1, none⟩ = some b ∧ w.cell? ⟨g, 2, none⟩ = some c ∧ w.cell? ⟨g, 3, none⟩ = some d ∧ w.cell? ⟨g, 4, none⟩ = some e ∧ w.cell? ⟨g, 5, none⟩ = some f :=
  ⟨h.cell 0 rfl, h.cell 1 rfl, h.cell 2 rfl, h.cell 3 rfl, h.cell 4 rfl, h.cell 5 rfl⟩

set_option maxRecDepth 10000 in
theorem ref10_Fits (p : Pt) (w : World) :
    Calls Tryd.prog 27 #[ptV p] w fun e w' => e = .returned (.bool (decide (FitP p))) ∧ Below w.heap.size w w' := by
  obtain ⟨W, hW, k, B0⟩ : ∃ W, w.alloc (.cells #[.int .i64 p.x, .int .i64 p.y] 34) = W ∧ Box W w.heap.size 34 [.int .i64 p.x, .int .i64 p.y] ∧ Below w.heap.size w W := ⟨_, rfl, Box.new w _ [.int .i64 p.x, .int .i64 p.y], (Below.refl _ _).alloc (Nat.le_refl _) _⟩
  obtain ⟨⟨p0, p1⟩, -⟩ := Box.pair k
  obtain ⟨d, hd⟩ : ∃ d : Bool, decide (FitP p) = d := ⟨_, rfl⟩
  rw [hd]
  have HD := Lib.hid (show d = true ↔ FitP p by rw [← hd]; exact decide_eq_true_iff)
  have HB := Lib.hid B0
  have HW := Lib.hid hW
  unfold ptV
  clear hd B0 k hW
  obtain ⟨x, y⟩ := p
  unfold FitP at HD
  dsimp only at *
  by_cases h0 : -8388607 ≤ x
  · skip
    by_cases h1 : x ≤ 8388607
    · skip
      by_cases h2 : -8388607 ≤ y
      · skip
        by_cases h3 : y ≤ 8388607
        · skip
          have HR := Lib.hid (show d = true from HD.out.2 (by grind))
          go_enter Tryd.func27, Tryd.ntmps27
          go_wp2_with (rw [HW.out])
          go_ret
          exact ⟨by rw [HR.out]; first | rfl | simp, HB.out⟩
        · have HR := Lib.hid (show d = false from Bool.eq_false_iff.2 fun hb => h3 (by have := HD.out.1 hb; grind))
          go_enter Tryd.func27, Tryd.ntmps27
          go_wp2_with (rw [HW.out])
          go_ret
          exact ⟨by rw [HR.out]; first | rfl | simp, HB.out⟩
      · have HR := Lib.hid (show d = false from Bool.eq_false_iff.2 fun hb => h2 (by have := HD.out.1 hb; grind))
        go_enter Tryd.func27, Tryd.ntmps27
        go_wp2_with (rw [HW.out])
        go_ret
        exact ⟨by rw [HR.out]; first | rfl | simp, HB.out⟩
    · have HR := Lib.hid (show d = false from Bool.eq_false_iff.2 fun hb => h1 (by have := HD.out.1 hb; grind))
      go_enter Tryd.func27, Tryd.ntmps27
      go_wp2_with (rw [HW.out])
      go_ret
      exact ⟨by rw [HR.out]; first | rfl | simp, HB.out⟩
  · have HR := Lib.hid (show d = false from Bool.eq_false_iff.2 fun hb => h0 (by have := HD.out.1 hb; grind))
    go_enter Tryd.func27, Tryd.ntmps27
    go_wp2_with (rw [HW.out])
    go_ret
    exact ⟨by rw [HR.out]; first | rfl | simp, HB.out⟩

end Go.Proofs.YtngnclibeccplaaDoor
/- Rows of structs in memory: each element so many cells. Rows of points, of maps. -/

namespace Go.Proofs.YtngnclibeccplaaDoor
open Go.RowKit

section
variable {α : Type} {k : Nat} {f : α → List Value}
theorem flat_length (hf : ∀ a, (f a).length = k) (l : List α) : (l.flatMap f).length = l.length * k := by
  induction l with
  | nil => simp
  | cons a l ih => rw [List.flatMap_cons, List.length_append, ih, hf, List.length_cons, Nat.succ_mul]; omega
theorem flat_get (hf : ∀ a, (f a).length = k) : ∀ (l : List α) (i : Nat) (hi : i < l.length) (j : Nat), j < k → (l.flatMap f)[i * k + j]? = (f l[i])[j]?
  | [], i, hi, _, _ => absurd hi (by simp)
  | a :: l, 0, _, j, hj => by
    rw [List.flatMap_cons, Nat.zero_mul, Nat.zero_add, List.getElem?_append_left (by rw [hf]; exact hj)]
    rfl
  | a :: l, i + 1, hi, j, hj => by
    have h := flat_get hf l i (by simp at hi; omega) j hj
    rw [List.flatMap_cons, List.getElem?_append_right (by rw [hf, Nat.succ_mul]; omega), hf]
    rw [show (i + 1) * k + j - k = i * k + j by rw [Nat.succ_mul]; omega, h]
    rfl
/-- the cells of an element -/
theorem RdV.elem (hf : ∀ a, (f a).length = k) {w : World} {B : Nat} {p : Option Addr} {l : List α} (h : RdV w B p (l.flatMap f)) (hk : 0 < k) {i : Nat} (hi : i < l.length) : ∃ b o, p = some ⟨b, o, none⟩ ∧ b < B ∧ ∀ j v, (f l[i])[j]? = some v → w.cell? ⟨b, o + (i * k + j), none⟩ = some v := by
  have hpos : 0 < l.length * k := Nat.mul_pos (by omega) hk
  obtain ⟨b, o, e, hb, hc⟩ := h (by rw [flat_length hf]; exact hpos)
  refine ⟨b, o, e, hb, fun j v hv => ?_⟩
  have hj : j < k := by have := (List.getElem?_eq_some_iff.1 hv).1; rwa [hf] at this
  have h2 := (flat_get hf l i hi j hj).trans hv
  obtain ⟨h3, h4⟩ := List.getElem?_eq_some_iff.1 h2
  rw [hc _ h3, h4]
end
theorem RdV.ofOwnK {w : World} {base n k : Nat} {e : TypeId} {v : Value} {xs : List Value} (h : w.ownsRow base e k v n xs) : ∃ p cap, v = .slice p n cap ∧ n ≤ cap ∧ (p = none → cap = 0) ∧ RdV w w.heap.size p xs := by
  have hl : xs.length = n * k := h.1
  rcases h.2 with ⟨rfl, rfl⟩ | ⟨g, cap, cur, rfl, hb, hg, hnc, hcm, hcs, htake⟩
  · exact ⟨none, 0, rfl, Nat.le_refl _, fun _ => rfl, fun hn => by rw [Nat.zero_mul] at hl; omega⟩
  · refine ⟨some ⟨g, 0, none⟩, cap, rfl, hnc, fun e => (by cases e), fun hn => ⟨g, 0, rfl, (Array.getElem?_eq_some_iff.1 hg).1, fun j hj => ?_⟩⟩
    rw [Nat.zero_add, cell_of_row w g j cur e (0, 0) hg]
    have h2 := congrArg (·[j]?) htake
    simp only [List.getElem?_take] at h2
    rw [List.getElem?_eq_getElem hj] at h2
    rw [if_pos (by omega)] at h2
    simpa using h2

/-- a row of points, of maps, as it lies -/
def ptRow (l : List Pt) : List Value := l.flatMap ptCells
def mpRow (l : List Mp) : List Value := l.flatMap mpCells
theorem ptCells_length (p : Pt) : (ptCells p).length = 2 := rfl
theorem mpCells_length (m : Mp) : (mpCells m).length = 6 := rfl
theorem ptRow_length (l : List Pt) : (ptRow l).length = l.length * 2 := flat_length ptCells_length l
theorem ptRow_append (a b : List Pt) : ptRow (a ++ b) = ptRow a ++ ptRow b := by simp [ptRow]
theorem ptRow_one (p : Pt) : ptRow [p] = [.int .i64 p.x, .int .i64 p.y] := rfl
theorem RdV.pt {w : World} {B : Nat} {p : Option Addr} {l : List Pt} (h : RdV w B p (ptRow l)) {i : Nat} (hi : i < l.length) : ∃ b o, p = some ⟨b, o, none⟩ ∧ b < B ∧ w.cell? ⟨b, o + i * 2, none⟩ = some (.int .i64 l[i].x) ∧ w.cell? ⟨b, o + i * 2 + 1, none⟩ = some (.int .i64 l[i].y) := by
  obtain ⟨b, o, e, hb, hc⟩ := RdV.elem ptCells_length h (by omega) hi
  exact ⟨b, o, e, hb, hc 0 _ rfl, hc 1 _ rfl⟩
theorem RdV.mp {w : World} {B : Nat} {p : Option Addr} {l : List Mp} (h : RdV w B p (mpRow l)) {i : Nat} (hi : i < l.length) : ∃ b o, p = some ⟨b, o, none⟩ ∧ b < B ∧ w.cell? ⟨b, o + i * 6, none⟩ = some (.int .i64 l[i].a) ∧ w.cell? ⟨b, o + i * 6 + 1, none⟩ = some (.int .i64 l[i].b) ∧
    w.cell? ⟨b, o + i * 6 + 2, none⟩ = some (.int .i64 l[i].c) ∧ w.cell? ⟨b, o + i * 6 + 3, none⟩ = some (.int .i64 l[i].d) ∧ w.cell? ⟨b, o + i * 6 + 4, none⟩ = some (.int .i64 l[i].e) ∧ w.cell? ⟨b, o + i * 6 + 5, none⟩ = some (.int .i64 l[i].f) := by
  obtain ⟨b, o, e, hb, hc⟩ := RdV.elem mpCells_length h (by omega) hi
  exact ⟨b, o, e, hb, hc 0 _ rfl, hc 1 _ rfl, hc 2 _ rfl, hc 3 _ rfl, hc 4 _ rfl, hc 5 _ rfl⟩
end Go.Proofs.YtngnclibeccplaaDoor
