/- Rows that are read: bytes, words, lines of words in memory; rows that a call made. -/
import Derived.Test.YtaiinglogpbfjaaDoorLxA
import Derived.Laws.AppendOwn
import Derived.Laws.OwnMore
import Derived.Below
import Derived.WalkKit
namespace Go.Proofs.YtaiinglogpbfjaaDoor
open Go.RowKit

theorem addr_add (g o j : Nat) : (⟨g, o, none⟩ : Addr).add j = ⟨g, o + j, none⟩ := by unfold Addr.add; split <;> simp_all
/-- the slice at p reads as xs, a cell each, in a block below B -/
def RdV (w : World) (B : Nat) (p : Option Addr) (xs : List Value) : Prop :=
  0 < xs.length → ∃ b o, p = some ⟨b, o, none⟩ ∧ b < B ∧ ∀ (j : Nat) (h : j < xs.length), w.cell? ⟨b, o + j, none⟩ = some xs[j]
theorem RdV.nil (w : World) (B : Nat) (p : Option Addr) : RdV w B p [] := fun h => absurd h (by simp)
theorem RdV.below {w w' : World} {B : Nat} {p : Option Addr} {xs : List Value} (h : RdV w B p xs) (hb : Below B w w') : RdV w' B p xs := fun hn => by
  obtain ⟨b, o, e, hl, hc⟩ := h hn
  exact ⟨b, o, e, hl, fun j hj => (hb.cell (p := ⟨b, o + j, none⟩) hl).trans (hc j hj)⟩
theorem RdV.mono {w : World} {B B' : Nat} {p : Option Addr} {xs : List Value} (h : RdV w B p xs) (hb : B ≤ B') : RdV w B' p xs := fun hn => by
  obtain ⟨b, o, e, hl, hc⟩ := h hn
  exact ⟨b, o, e, Nat.lt_of_lt_of_le hl hb, hc⟩
theorem RdV.on {w w' : World} {p : Option Addr} {xs : List Value} (h : RdV w w.heap.size p xs) (hb : Below w.heap.size w w') : RdV w' w'.heap.size p xs := (h.below hb).mono hb.size
theorem RdV.take {w : World} {B : Nat} {p : Option Addr} {xs : List Value} (h : RdV w B p xs) (n : Nat) : RdV w B p (xs.take n) := fun hn => by
  have hl : (xs.take n).length ≤ xs.length := by simp; omega
  obtain ⟨b, o, e, hb, hc⟩ := h (by omega)
  exact ⟨b, o, e, hb, fun j hj => by rw [hc j (by omega), List.getElem_take]⟩
theorem RdV.drop {w : World} {B : Nat} {p : Option Addr} {xs : List Value} (h : RdV w B p xs) {n cap : Nat} (hc : xs.length ≤ cap) : RdV w B (if cap = n then p else p.map (fun x => x.add n)) (xs.drop n) := fun hn => by
  have hl : (xs.drop n).length = xs.length - n := by simp
  obtain ⟨b, o, rfl, hb, hcell⟩ := h (by omega)
  rw [if_neg (by omega)]
  refine ⟨b, o + n, by simp [addr_add], hb, fun j hj => ?_⟩
  rw [Nat.add_assoc, hcell (n + j) (by omega), List.getElem_drop]
theorem RdV.ofOwn {w : World} {base n : Nat} {e : TypeId} {v : Value} {xs : List Value} (h : w.ownsRow base e 1 v n xs) : ∃ p cap, v = .slice p n cap ∧ n = xs.length ∧ n ≤ cap ∧ (p = none → cap = 0) ∧ RdV w w.heap.size p xs := by
  have hl : xs.length = n := by have := h.1; omega
  rcases h.2 with ⟨rfl, rfl⟩ | ⟨g, cap, cur, rfl, hb, hg, hnc, hcm, hcs, htake⟩
  · exact ⟨none, 0, rfl, hl.symm, Nat.le_refl _, fun _ => rfl, fun hn => by omega⟩
  · refine ⟨some ⟨g, 0, none⟩, cap, rfl, hl.symm, hnc, fun e => (by cases e), fun hn => ⟨g, 0, rfl, (Array.getElem?_eq_some_iff.1 hg).1, fun j hj => ?_⟩⟩
    have := h.cells rfl j xs[j] (List.getElem?_eq_getElem hj)
    rw [addr_add] at this
    exact this

/-- a text's bytes, a row's words as cells -/
def bcells (l : By) : List Value := l.map fun u => Value.int .u8 (u.toNat : Int)
def scells (r : List By) : List Value := r.map fun s => Value.string (str s)
theorem bcells_length (l : By) : (bcells l).length = l.length := by simp [bcells]
theorem scells_length (l : List By) : (scells l).length = l.length := by simp [scells]
theorem bcells_append (a b : By) : bcells (a ++ b) = bcells a ++ bcells b := by simp [bcells]
theorem scells_append (a b : List By) : scells (a ++ b) = scells a ++ scells b := by simp [scells]
theorem bcells_take (l : By) (n : Nat) : (bcells l).take n = bcells (l.take n) := by simp [bcells, List.map_take]
theorem bcells_drop (l : By) (n : Nat) : (bcells l).drop n = bcells (l.drop n) := by simp [bcells, List.map_drop]
theorem RdV.byte {w : World} {B : Nat} {p : Option Addr} {l : By} (h : RdV w B p (bcells l)) {i : Nat} (hi : i < l.length) : ∃ b o, p = some ⟨b, o, none⟩ ∧ b < B ∧ w.cell? ⟨b, o + i, none⟩ = some (.int .u8 (l[i].toNat : Int)) := by
  obtain ⟨b, o, e, hb, hc⟩ := h (by rw [bcells_length]; omega)
  exact ⟨b, o, e, hb, by rw [hc i (by rw [bcells_length]; exact hi)]; simp [bcells]⟩
theorem RdV.word {w : World} {B : Nat} {p : Option Addr} {l : List By} (h : RdV w B p (scells l)) {i : Nat} (hi : i < l.length) : ∃ b o, p = some ⟨b, o, none⟩ ∧ b < B ∧ w.cell? ⟨b, o + i, none⟩ = some (.string (str l[i])) := by
  obtain ⟨b, o, e, hb, hc⟩ := h (by rw [scells_length]; omega)
  exact ⟨b, o, e, hb, by rw [hc i (by rw [scells_length]; exact hi)]; simp [scells]⟩

/-- a row of words as its slice lies -/
structure Rw where
  A : Option Addr
  c : Nat
  ws : List By
def Rw.hd (r : Rw) : Value := .slice r.A r.ws.length r.c
def Rw.all (Ls : List Rw) : List (List By) := Ls.map Rw.ws
theorem Rw.all_length (Ls : List Rw) : (Rw.all Ls).length = Ls.length := by simp [Rw.all]
/-- lines of words that are read -/
def RdL (w : World) (B : Nat) (p : Option Addr) (Ls : List Rw) : Prop := RdV w B p (Ls.map Rw.hd) ∧ ∀ r ∈ Ls, RdV w B r.A (scells r.ws)
theorem RdL.below {w w' : World} {B : Nat} {p : Option Addr} {Ls : List Rw} (h : RdL w B p Ls) (hb : Below B w w') : RdL w' B p Ls := ⟨h.1.below hb, fun r hr => (h.2 r hr).below hb⟩
theorem RdL.mono {w : World} {B B' : Nat} {p : Option Addr} {Ls : List Rw} (h : RdL w B p Ls) (hb : B ≤ B') : RdL w B' p Ls := ⟨h.1.mono hb, fun r hr => (h.2 r hr).mono hb⟩
theorem RdL.on {w w' : World} {p : Option Addr} {Ls : List Rw} (h : RdL w w.heap.size p Ls) (hb : Below w.heap.size w w') : RdL w' w'.heap.size p Ls := (h.below hb).mono hb.size
theorem RdL.nil (w : World) (B : Nat) (p : Option Addr) : RdL w B p [] := ⟨RdV.nil w B p, fun r hr => by cases hr⟩
theorem RdL.row {w : World} {B : Nat} {p : Option Addr} {Ls : List Rw} (h : RdL w B p Ls) {i : Nat} (hi : i < Ls.length) : ∃ b o, p = some ⟨b, o, none⟩ ∧ b < B ∧ w.cell? ⟨b, o + i, none⟩ = some (.slice Ls[i].A Ls[i].ws.length Ls[i].c) ∧ RdV w B Ls[i].A (scells Ls[i].ws) := by
  obtain ⟨b, o, e, hb, hc⟩ := h.1 (by rw [List.length_map]; omega)
  exact ⟨b, o, e, hb, by rw [hc i (by rw [List.length_map]; exact hi)]; simp [Rw.hd], h.2 _ (List.getElem_mem hi)⟩

theorem ownsRow_kept_below {w w' : World} {base : Nat} {e : TypeId} {v : Value} {n : Nat} {xs : List Value} (h : w.ownsRow base e 1 v n xs) (hb : Below w.heap.size w w') : w'.ownsRow base e 1 v n xs := by
  refine ⟨h.1, ?_⟩
  rcases h.2 with hn | ⟨g, cap, cur, rfl, hbg, hg, rest⟩
  · exact .inl hn
  · exact .inr ⟨g, cap, cur, rfl, hbg, (hb.block g (Array.getElem?_eq_some_iff.1 hg).1).trans hg, rest⟩
/-- rows of unlike kinds lie in unlike blocks -/
theorem own_apart {w : World} {base base' : Nat} {e e' : TypeId} {v v' : Value} {n n' : Nat} {xs xs' : List Value} (hne : e ≠ e') (h : w.ownsRow base e 1 v n xs) (h' : w.ownsRow base' e' 1 v' n' xs') : v.ownBlock = none ∨ v.ownBlock ≠ v'.ownBlock := by
  rcases h.2 with ⟨rfl, _⟩ | ⟨g, cap, cur, rfl, _, hg, _⟩
  · exact .inl rfl
  · refine .inr ?_
    rcases h'.2 with ⟨rfl, _⟩ | ⟨g', cap', cur', rfl, _, hg', _⟩
    · simp [Value.ownBlock]
    · intro e1
      simp only [Value.ownBlock, Option.some.injEq] at e1
      subst e1
      rw [hg] at hg'
      simp only [Option.some.injEq, Obj.cells.injEq] at hg'
      exact hne hg'.2.1
end Go.Proofs.YtaiinglogpbfjaaDoor
