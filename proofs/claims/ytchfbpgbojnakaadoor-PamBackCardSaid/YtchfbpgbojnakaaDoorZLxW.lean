/- The pieces of a line: the program's closure that is ranged over. -/
import Derived.RangeFuncBox
import Derived.RangeFuncNested
import Derived.RangeFuncBound
import Derived.RangeFuncCalls
import Derived.RangeFuncLeaves
import Derived.Shelf.Abstract
import Derived.Shelf.RegionOpen
import Derived.WalkKit
import Derived.OwnWalkIn
import Derived.TacticsInMore
import Derived.LoopNIn
import Derived.LoopIn
import Derived.Sort.LoopGhostIn
import Derived.Maps.AppendAt
import Derived.Lib.Hide
import Derived.Test.YtchfbpgbojnakaaDoorZLxV
import Derived.Test.YtchfbpgbojnakaaDoorChecked
import Derived.Lib.IndexBytes
import Derived.Test.YtchfbpgbojnakaaDoorZBase
namespace Go.Proofs.YtchfbpgbojnakaaDoor
open Go.RowKit Go.Shelf
attribute [local go_sem] Oper.semAt_some

theorem below_drawnL {B : Nat} {a w : World} (h : Below B a w) (q : Nat) : Below B a (w.drewN q) := ⟨h.os, h.tape, h.output, h.size, h.block⟩
theorem grownBy_drewN (w : World) (q : Nat) : w.grownBy (w.drewN q) none := ⟨rfl, rfl, rfl, Nat.le_refl _, fun _ _ _ => rfl⟩
/-- what bytes.Cut answers at one byte that is not there -/
def CutNone : Prop := ∀ (B : Nat) (p : Option Addr) (c : Nat) (l : By) (b2 c2 : Nat) (u : UInt8) (w : World), RdV w B p (bcells l) → l.length ≤ c → (p = none → c = 0) → l.length ≤ 4611686018427387904 → w.cell? ⟨b2, 0, none⟩ = some (.int .u8 (u.toNat : Int)) → u ∉ l →
  Calls Tryd.prog 31 #[.slice p l.length c, .slice (some ⟨b2, 0, none⟩) 1 c2] w fun e w' => e = .returned (.tuple #[.slice p l.length c, .slice none 0 0, .bool false]) ∧ ∃ q, w' = w.drewN q
def CutSome : Prop := ∀ (B : Nat) (p : Option Addr) (c : Nat) (l a r : By) (b2 c2 : Nat) (u : UInt8) (w : World), RdV w B p (bcells l) → l = a ++ u :: r → l.length ≤ c → (p = none → c = 0) → l.length ≤ 4611686018427387904 → w.cell? ⟨b2, 0, none⟩ = some (.int .u8 (u.toNat : Int)) → u ∉ a →
  Calls Tryd.prog 31 #[.slice p l.length c, .slice (some ⟨b2, 0, none⟩) 1 c2] w fun e w' => e = .returned (.tuple #[.slice p a.length c, .slice (if c = a.length + 1 then p else p.map (fun x => x.add (a.length + 1))) r.length (c - (a.length + 1)), .bool true]) ∧ ∃ q, w' = w.drewN q

/-- a piece: where it lies, its bytes -/
abbrev Pc (w0 : World) (n₀ m : Nat) := {x : Option Addr × By // RdV w0 n₀ x.1 (bcells x.2) ∧ x.2.length ≤ m}
def Pc.bs {w0 : World} {n₀ m : Nat} (x : Pc w0 n₀ m) : By := x.1.2

end Go.Proofs.YtchfbpgbojnakaaDoor
/- What the library's cutting and counting at one byte answer. -/

namespace Go.Proofs.YtchfbpgbojnakaaDoor
open Go.RowKit Go.Shelf

/-- a text's bytes as whole numbers -/
def ofB (l : By) : List Int := l.map fun u => (u.toNat : Int)
theorem ofB_length (l : By) : (ofB l).length = l.length := by simp [ofB]
theorem bytesOf_ofB (l : By) : Lib.bytesOf (ofB l) = l := by
  unfold Lib.bytesOf ofB
  rw [List.map_map]
  conv => rhs; rw [← List.map_id l]
  refine List.map_congr_left fun u _ => ?_
  simp
theorem RdV.ofBs {w : World} {B : Nat} {b o : Nat} {l : By} (h : RdV w B (some ⟨b, o, none⟩) (bcells l)) : ∀ i, i < l.length → w.cell? ⟨b, o + i, none⟩ = some (.int .u8 ((ofB l).getD i 0)) := fun i hi => by
  obtain ⟨b', o', e, _, hc⟩ := h.byte hi
  cases e
  rw [hc]
  simp [ofB, List.getD_eq_getElem?_getD, hi]
theorem index_call (B : Nat) (p : Option Addr) (c : Nat) (l : By) (b2 c2 : Nat) (u : UInt8) (w : World) (hr : RdV w B p (bcells l)) (hc : l.length ≤ c) (hp : p = none → c = 0) (h2 : w.cell? ⟨b2, 0, none⟩ = some (.int .u8 (u.toNat : Int))) :
    Calls Tryd.prog 37 #[.slice p l.length c, .slice (some ⟨b2, 0, none⟩) 1 c2] w fun e w' => e = .returned (.int .i64 (Lib.index l [u])) ∧ ∃ q, w' = w.drewN q := by
  have hu : ((u.toNat : Int)).toNat.toUInt8 = u := by simp
  cases p with
  | none =>
    obtain rfl : c = 0 := hp rfl
    obtain rfl : l = [] := List.eq_nil_of_length_eq_zero (by omega)
    exact (Tryd.bytes_Index_one_nil b2 0 c2 _ w h2).mono fun e w' ⟨he, hw⟩ => ⟨he, 0, hw⟩
  | some a =>
    by_cases hl : 0 < l.length
    · obtain ⟨b, o, e, _⟩ := hr (by rw [bcells_length]; exact hl)
      cases e
      exact (Tryd.bytes_Index_one b o l.length c b2 0 c2 (ofB l) (u.toNat : Int) w (ofB_length l) hr.ofBs h2).mono fun e w' ⟨he, hw⟩ => ⟨by rw [he, bytesOf_ofB, hu, Lib.index_one], 0, hw⟩
    · obtain rfl : l = [] := List.eq_nil_of_length_eq_zero (by omega)
      exact (Tryd.bytes_Index_one_at a 0 c b2 0 c2 [] (u.toNat : Int) w rfl (fun i hi => by omega) h2).mono fun e w' ⟨he, hw⟩ => ⟨he, 0, hw⟩
theorem cut_none : CutNone := fun B p c l b2 c2 u w hr hc hp hn h2 hu => by
  have hi : Lib.index l [u] = -1 := by
    rcases index_one l u with ⟨h, _⟩ | ⟨a, r, rfl, _, _⟩
    · exact h
    · simp at hu
  refine (Tryd.bytes_Cut_of p (some ⟨b2, 0, none⟩) l.length c 1 c2 (Lib.index l [u]) w hc (by omega) (by omega) hn (index_call B p c l b2 c2 u w hr hc hp h2)).mono fun e w' ⟨he, hw⟩ => ⟨?_, hw⟩
  rw [he, hi]
  rfl
theorem cut_some : CutSome := fun B p c l a r b2 c2 u w hr hl hc hp hn h2 hu => by
  have hlen : l.length = a.length + 1 + r.length := by rw [hl]; simp; omega
  have hi : Lib.index l [u] = (a.length : Int) := by
    rcases index_one l u with ⟨_, h⟩ | ⟨a', r', e, ha', h⟩
    · rw [hl] at h; simp at h
    · have : pcs u l = a :: pcs u r := by rw [hl, pcs_at _ _ _ hu]
      rw [e, pcs_at _ _ _ ha'] at this
      rw [h]
      have := (List.cons.inj this).1
      rw [this]
  refine (Tryd.bytes_Cut_of p (some ⟨b2, 0, none⟩) l.length c 1 c2 (Lib.index l [u]) w hc (by omega) (by omega) hn (index_call B p c l b2 c2 u w hr hc hp h2)).mono fun e w' ⟨he, hw⟩ => ⟨?_, hw⟩
  rw [he, hi]
  unfold Lib.cutV Lib.fromV
  rw [if_pos (by omega)]
  simp only [Int.toNat_natCast]
  rw [show l.length - (a.length + 1) = r.length by omega]
theorem count_pcs (u : UInt8) (l : By) : (pcs u l).length = l.count u + 1 := by
  induction l with
  | nil => rfl
  | cons x r ih =>
    unfold pcs
    split
    · rename_i h
      subst h
      simp [ih]
    · rename_i h
      rw [List.count_cons_of_ne (fun e => h e)]
      have := List.length_pos_iff.2 (pcs_ne u r)
      simp
      omega
end Go.Proofs.YtchfbpgbojnakaaDoor
