/- What a number's text looks like: the document's own. Written by gen/genfgd.py. -/
import Derived.Test.YtbhahddgajkchaaZTxtX
import Derived.Test.YtbhahddgajkchaaZLxV
import Derived.Lib.Hide
import Derived.Deep.LoopGhost
import Derived.BigQuiet
namespace Go.Proofs.Ytbhahddgajkchaa
open Go.RowKit Num

/-- a sign or none, and a decimal number behind it; but nought takes no sign -/
def IsSig (bs : By) : Prop := bs ≠ [45, 48] ∧ IsDec (if bs.head? = some 45 then bs.drop 1 else bs)
/-- a yes or no that leaves the world as it was -/
def SaysIt (p : Prop) (w : World) (e : Ending) (w' : World) : Prop := (∃ d : Bool, e = .returned (.bool d) ∧ (d = true ↔ p)) ∧ w = w'
theorem isSig_no0 : ¬ IsSig [45, 48] := fun h => h.1 rfl
theorem isSig_minus {bs : By} (h : bs ≠ [45, 48]) (h2 : bs.head? = some 45) : IsSig bs ↔ IsDec (bs.drop 1) := by
  unfold IsSig
  rw [if_pos h2]
  exact ⟨fun h => h.2, fun k => ⟨h, k⟩⟩
theorem isSig_plain {bs : By} (h2 : bs.head? ≠ some 45) : IsSig bs ↔ IsDec bs := by
  unfold IsSig
  rw [if_neg h2]
  exact ⟨fun h => h.2, fun k => ⟨fun e => h2 (by rw [e]; rfl), k⟩⟩
theorem drop_data (t : ByteArray) (a : Nat) : (t.extract a t.size).data.toList = t.data.toList.drop a := by
  simp [ByteArray.data_extract]
  exact List.take_of_length_le (by simp)
theorem toList_data (t : ByteArray) : t.toList = t.data.toList := ByteArray.toList_eq t
theorem head_get (t : ByteArray) (h : 0 < t.size) : t.data.toList.head? = some t[0] := by
  have h3 : 0 < t.data.toList.length := by rw [str_len]; exact h
  rw [List.head?_eq_getElem?, List.getElem?_eq_getElem h3, str_get t 0 h]
theorem isEmpty_no {t : ByteArray} (h : 0 < t.size) : t.toList.isEmpty = false ∧ ¬ t.toList = [] := by
  have h3 : 0 < t.data.toList.length := by rw [str_len]; exact h
  rw [toList_data]
  cases hl : t.data.toList with
  | nil => rw [hl] at h3; simp at h3
  | cons c cs => simp
theorem not_dec_at {u : ByteArray} {j : Nat} (hj : j < u.size) (h : ¬ (48 ≤ u[j].toNat ∧ u[j].toNat ≤ 57)) : ¬ IsDec u.data.toList := fun hd => h (by
  have := hd.2.2.get (j := j) (by rw [str_len]; exact hj)
  rwa [str_get] at this)
theorem all_dec_next {u : ByteArray} {k : Nat} (h : AllDec (u.data.toList.take k)) (hk : k < u.size) (hc : 48 ≤ u[k].toNat ∧ u[k].toNat ≤ 57) : AllDec (u.data.toList.take (k + 1)) := by
  rw [List.take_succ_eq_append_getElem (by rw [str_len]; exact hk), AllDec.append]
  refine ⟨h, fun c hc' => ?_⟩
  rw [List.mem_singleton] at hc'
  rw [hc', str_get u k hk]; exact hc
theorem dec_all_of {u : ByteArray} (h0 : 0 < u.size) (hz : ¬ ((u[0]'h0).toNat = 48 ∧ 1 < u.size)) (h : AllDec (u.data.toList.take u.size)) : IsDec u.data.toList := by
  refine ⟨fun e => by have := str_len u; rw [e] at this; simp at this; omega, fun ⟨h1, h2⟩ => hz ⟨?_, by rw [str_len] at h1; exact h1⟩, ?_⟩
  · rw [head_get u h0] at h2
    rw [Option.some.inj h2]; rfl
  · rwa [List.take_of_length_le (by rw [str_len]; exact Nat.le_refl _)] at h
theorem not_dec_lead {u : ByteArray} (h0 : 0 < u.size) (hz : (u[0]'h0).toNat = 48 ∧ 1 < u.size) : ¬ IsDec u.data.toList := fun hd => hd.2.1 ⟨by rw [str_len]; exact hz.2, by
  rw [head_get u h0]
  exact congrArg some (UInt8.toNat_inj.1 (by rw [hz.1]; rfl))⟩
theorem not_dec_none {u : ByteArray} (h0 : u.size = 0) : ¬ IsDec u.data.toList := fun hd => hd.1 (List.eq_nil_of_length_eq_zero (by rw [str_len]; exact h0))
theorem isEmpty_yes {u : ByteArray} (h0 : u.size = 0) : u.toList.isEmpty = true ∧ u.toList = [] := by
  rw [toList_data, List.eq_nil_of_length_eq_zero (show u.data.toList.length = 0 by rw [str_len]; exact h0)]
  exact ⟨rfl, rfl⟩

end Go.Proofs.Ytbhahddgajkchaa
/- Two rows of numbers: are they the same? The document's own. -/

namespace Go.Proofs.Ytbhahddgajkchaa
open Go.RowKit Num

def icells (l : List Int) : List Value := l.map (.int .i64 ·)
theorem icells_length (l : List Int) : (icells l).length = l.length := by simp [icells]
theorem RdV.num {w : World} {B : Nat} {p : Option Addr} {l : List Int} (h : RdV w B p (icells l)) {i : Nat} (hi : i < l.length) : ∃ b o, p = some ⟨b, o, none⟩ ∧ b < B ∧ w.cell? ⟨b, o + i, none⟩ = some (.int .i64 l[i]) := by
  obtain ⟨b, o, h1, h2, h3⟩ := h (by rw [icells_length]; omega)
  exact ⟨b, o, h1, h2, by rw [h3 i (by rw [icells_length]; exact hi)]; simp [icells]⟩
/-- a yes or no that writes nothing that was there -/
def TellsIt (p : Prop) (w : World) (e : Ending) (w' : World) : Prop := (∃ d : Bool, e = .returned (.bool d) ∧ (d = true ↔ p)) ∧ Below w.heap.size w w'
theorem below_figE {B : Nat} {a w : World} (h : Below B a w) (q : Nat) : Below B a (w.drewN q) := ⟨h.os, h.tape, h.output, h.size, h.block⟩
theorem same_step {a b : List Int} {i : Nat} (h : a.take i = b.take i) (ha : i < a.length) (hb : i < b.length) (he : a[i] = b[i]) : a.take (i + 1) = b.take (i + 1) := by
  rw [List.take_succ_eq_append_getElem ha, List.take_succ_eq_append_getElem hb, h, he]
theorem same_not {a b : List Int} {i : Nat} (ha : i < a.length) (hb : i < b.length) (he : ¬ a[i] = b[i]) : ¬ a = b := fun e => he (by subst e; rfl)
theorem same_end {a b : List Int} (h : a.take a.length = b.take a.length) (hl : a.length = b.length) : a = b := by
  rw [List.take_length, hl, List.take_length] at h; exact h

end Go.Proofs.Ytbhahddgajkchaa
