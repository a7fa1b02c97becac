/- The pieces of a line: the program's closure that is ranged over. -/
import Derived.RangeFuncBox
import Derived.RangeFuncNested
import Derived.RangeFuncBound
import Derived.RangeFuncCalls
import Derived.RangeFuncLeaves
import Derived.Shelf.Abstract
import Derived.Shelf.RegionOpen
import Derived.WalkKit
import Derived.OwnWalkIn
import Derived.TacticsInMore
import Derived.LoopNIn
import Derived.LoopIn
import Derived.Sort.LoopGhostIn
import Derived.Maps.AppendAt
import Derived.Lib.Hide
import Derived.Test.YtmbafdnickeikaaLxM
import Derived.Test.YtmbafdnickeikaaChecked
namespace Go.Proofs.Ytmbafdnickeikaa
open Go.RowKit Go.Shelf
attribute [local go_sem] Oper.semAt_some

theorem below_drewN {B : Nat} {a w : World} (h : Below B a w) (q : Nat) : Below B a (w.drewN q) := ⟨h.os, h.tape, h.output, h.size, h.block⟩
theorem grownBy_drewN (w : World) (q : Nat) : w.grownBy (w.drewN q) none := ⟨rfl, rfl, rfl, Nat.le_refl _, fun _ _ _ => rfl⟩
/-- what bytes.Cut answers at one byte that is not there -/
def CutNone : Prop := ∀ (B : Nat) (p : Option Addr) (c : Nat) (l : By) (b2 c2 : Nat) (u : UInt8) (w : World), RdV w B p (bcells l) → l.length ≤ c → (p = none → c = 0) → l.length ≤ 4611686018427387904 → w.cell? ⟨b2, 0, none⟩ = some (.int .u8 (u.toNat : Int)) → u ∉ l →
  Calls Try.prog 16 #[.slice p l.length c, .slice (some ⟨b2, 0, none⟩) 1 c2] w fun e w' => e = .returned (.tuple #[.slice p l.length c, .slice none 0 0, .bool false]) ∧ ∃ q, w' = w.drewN q
def CutSome : Prop := ∀ (B : Nat) (p : Option Addr) (c : Nat) (l a r : By) (b2 c2 : Nat) (u : UInt8) (w : World), RdV w B p (bcells l) → l = a ++ u :: r → l.length ≤ c → (p = none → c = 0) → l.length ≤ 4611686018427387904 → w.cell? ⟨b2, 0, none⟩ = some (.int .u8 (u.toNat : Int)) → u ∉ a →
  Calls Try.prog 16 #[.slice p l.length c, .slice (some ⟨b2, 0, none⟩) 1 c2] w fun e w' => e = .returned (.tuple #[.slice p a.length c, .slice (if c = a.length + 1 then p else p.map (fun x => x.add (a.length + 1))) r.length (c - (a.length + 1)), .bool true]) ∧ ∃ q, w' = w.drewN q

/-- a piece: where it lies, its bytes -/
abbrev Pc (w0 : World) (n₀ m : Nat) := {x : Option Addr × By // RdV w0 n₀ x.1 (bcells x.2) ∧ x.2.length ≤ m}
def Pc.bs {w0 : World} {n₀ m : Nat} (x : Pc w0 n₀ m) : By := x.1.2

set_option maxRecDepth 100000 in
set_option maxHeartbeats 2000000 in
theorem pieces1_in (hcn : CutNone) (hcs : CutSome) (n : Nat) (hn : 2 ≤ n) (l Bn n₀ : Nat) (w0 : World) (A : Option Addr) (c m : Nat) (L : By) (hm : L.length ≤ m) (hm2 : m ≤ 4611686018427387904) (hL : RdV w0 n₀ A (bcells L)) (hc : L.length ≤ c) (hA : A = none → c = 0)
    (J Jx : List (Pc w0 n₀ m) → World → Prop) (W : World) (hbel : Below n₀ w0 W) (hn₀ : n₀ ≤ W.heap.size) (hJ : AbidesFrom W.heap.size J)
    (hY : ∀ pre (x : Pc w0 n₀ m) W1, J pre W1 → pre.length < (pcs 32 L).length → YieldAt Fence.wide (n - 1) Try.prog l #[.slice x.1.1 x.1.2.length x.1.2.length] W1 fun e W' =>
      (e = .returned (.bool true) ∧ J (pre ++ [x]) W' ∧ Below n₀ W1 W') ∨ (e = .returned (.bool false) ∧ Jx (pre ++ [x]) W'))
    (hBn : W.cell? ⟨Bn, 0, none⟩ = some (.slice A L.length c)) (h0 : J [] W) :
    CallsIn Fence.wide n Try.prog 24 #[.func (.yield l) #[] #[], .pointer (some ⟨Bn, 0, none⟩)] W fun e W' => (∃ v, e = .returned v) ∧
      ((∃ ys, ys.map Pc.bs = pcs 32 L ∧ J ys W') ∨ (∃ pre, pre.map Pc.bs <+: pcs 32 L ∧ Jx pre W')) := by
  refine callsIn_of_wp Try.func24 rfl trivial ?_ rfl
  simp only [Try.ntmps24, List.size_toArray, List.length_cons, List.length_nil, Nat.reduceAdd, Nat.reduceSub, Array.replicate_succ, Array.replicate_zero, List.push_toArray, List.append_toArray, List.nil_append, List.cons_append]
  have h1 : 1 ≤ n := by omega
  have HY := Lib.hid hY
  have HJ := Lib.hid hJ
  have HCN := Lib.hid hcn
  have HCS := Lib.hid hcs
  clear hY hJ hcn hcs
  gi_wp2
  gi_loopg [3, 4] (L.length + 2) (fun gh lv mv wr =>
    (mv = .bool true ∧ ∃ (pre : List (Pc w0 n₀ m)) (l' : By) (p : Option Addr) (c' : Nat), lv = .slice p l'.length c' ∧ RdV w0 n₀ p (bcells l') ∧ l'.length ≤ c' ∧ (p = none → c' = 0) ∧ pcs 32 L = pre.map Pc.bs ++ pcs 32 l' ∧ l'.length ≤ L.length ∧ J pre wr ∧ Below n₀ W wr ∧ W.heap.size ≤ wr.heap.size ∧ gh = l'.length + 2) ∨
    (mv = .bool false ∧ ∃ pre : List (Pc w0 n₀ m), pre.map Pc.bs = pcs 32 L ∧ J pre wr ∧ gh = 0))
  case atStart => exact .inl ⟨rfl, [], L, A, c, rfl, hL, hc, hA, rfl, Nat.le_refl _, h0, Below.refl _ _, Nat.le_refl _, rfl⟩
  case round =>
    rcases hrel with ⟨rfl, pre, l', p, c', rfl, hl, hc', hp', hx, hle, hJs, hB, hsz, rfl⟩ | ⟨rfl, pre, hx, hJs, rfl⟩
    · have hB0 : Below n₀ w0 (wr.alloc (.cells #[.int .u8 32] 5)) := (hbel.trans hB).alloc (by omega) _
      have hl1 : RdV (wr.alloc (.cells #[.int .u8 32] 5)) n₀ p (bcells l') := hl.below hB0
      have hcell : (wr.alloc (.cells #[.int .u8 32] 5)).cell? ⟨wr.heap.size, 0, none⟩ = some (.int .u8 ((32 : UInt8).toNat : Int)) := (Boxed.new wr 5 (.int .u8 32)).cell
      have hp2 := pcs_ne 32 l'
      have hlen : pre.length < (pcs 32 L).length := by
        rw [hx, List.length_append, List.length_map]
        have := List.length_pos_iff.2 hp2
        omega
      rcases index_one l' 32 with ⟨_, hno⟩ | ⟨a, r, hlr0, ha, _⟩
      · have hpc : pcs 32 l' = [l'] := pcs_none _ _ hno
        have HF := Lib.hid (And.intro hx (And.intro hJs (And.intro hlen hpc)))
        clear hx hJs hlen hpc hp2
        gi_wp2_with (refine ⟨trivial, ?_⟩; gi_at_call 16; refine (callsIn_wide.2 (HCN.out n₀ p c' l' wr.heap.size 1 32 _ hl1 hc' hp' (by omega) hcell hno)).mono ?_; rintro e w' ⟨rfl, q, rfl⟩; obtain ⟨fn, tmps, assign, body, hy, hR⟩ := HY.out pre ⟨(p, l'), hl, Nat.le_trans hle hm⟩ ((wr.alloc (.cells #[.int .u8 32] 5)).drewN q) (HJ.out _ _ _ none (HJ.out _ _ _ none HF.out.2.1 (World.grownBy_alloc _ _ none) (by simp)) (grownBy_drewN _ _) (by simp)) HF.out.2.2.1; dsimp only at hy)
        refine hR.mono ?_
        rintro e W3 (⟨rfl, hJ3, hk3⟩ | ⟨rfl, hJx3⟩)
        · have H3 := Lib.hid hJ3
          clear hJ3
          gi_wp2
          gi_roundg 0
          case measure => omega
          case rel => exact .inr ⟨rfl, _, by rw [List.map_append, HF.out.1, HF.out.2.2.2]; rfl, H3.out, rfl⟩
        · have H3 := Lib.hid hJx3
          clear hJx3
          gi_wp2
          refine bodyPost_ret (results_none rfl _ _ _) rfl ?_
          exact ⟨⟨_, rfl⟩, .inr ⟨_, by rw [List.map_append, HF.out.1, HF.out.2.2.2]; exact List.prefix_refl _, H3.out⟩⟩
      · have hpc : pcs 32 l' = a :: pcs 32 r := by rw [hlr0]; exact pcs_at _ _ _ ha
        have hal : a.length + r.length + 1 = l'.length := by rw [hlr0]; simp; omega
        have hla : RdV w0 n₀ p (bcells a) := by
          have := hl.take a.length
          rw [bcells_take, hlr0] at this
          simpa using this
        have hlr : RdV w0 n₀ (if c' = a.length + 1 then p else p.map (fun x => x.add (a.length + 1))) (bcells r) := by
          have := hl.drop (n := a.length + 1) (cap := c') (by rw [bcells_length]; exact hc')
          rw [bcells_drop] at this
          have e : l'.drop (a.length + 1) = r := by rw [hlr0]; simp [List.drop_append]
          rwa [e] at this
        obtain ⟨pr, hpr⟩ : ∃ x, x = (if c' = a.length + 1 then p else p.map (fun x => x.add (a.length + 1))) := ⟨_, rfl⟩
        have hprn : pr = none → c' - (a.length + 1) = 0 := by
          intro e
          rw [e] at hpr
          by_cases h : c' = a.length + 1
          · omega
          · rw [if_neg h] at hpr
            cases p with
            | none => have := hp' rfl; omega
            | some x => simp at hpr
        have hk := HCS.out n₀ p c' l' a r wr.heap.size 1 32 _ hl1 hlr0 hc' hp' (by omega) hcell ha
        rw [← hpr] at hlr hk
        have HF := Lib.hid (And.intro hx (And.intro hJs (And.intro hlen hpc)))
        have HR := Lib.hid hlr
        have HK := Lib.hid hk
        clear hx hJs hlen hpc hp2 hlr hk hpr hlr0 ha
        gi_wp2_with (refine ⟨trivial, ?_⟩; gi_at_call 16; refine (callsIn_wide.2 HK.out).mono ?_; rintro e w' ⟨rfl, q, rfl⟩; obtain ⟨fn, tmps, assign, body, hy, hR⟩ := HY.out pre ⟨(p, a), hla, by have := Nat.le_trans hle hm; show a.length ≤ m; omega⟩ ((wr.alloc (.cells #[.int .u8 32] 5)).drewN q) (HJ.out _ _ _ none (HJ.out _ _ _ none HF.out.2.1 (World.grownBy_alloc _ _ none) (by simp)) (grownBy_drewN _ _) (by simp)) HF.out.2.2.1; dsimp only at hy)
        refine hR.mono ?_
        rintro e W3 (⟨rfl, hJ3, hk3⟩ | ⟨rfl, hJx3⟩)
        · have H3 := Lib.hid hJ3
          clear hJ3
          have hB3 : Below n₀ wr ((wr.alloc (.cells #[.int .u8 32] 5)).drewN q) := below_drewN ((Below.refl _ _).alloc (by omega) _) q
          gi_wp2
          gi_roundg (r.length + 2)
          case measure => omega
          case rel => exact .inl ⟨rfl, _, r, pr, c' - (a.length + 1), rfl, HR.out, by omega, hprn, by rw [List.map_append, HF.out.1, HF.out.2.2.2]; simp [Pc.bs], by omega, H3.out, (hB.trans hB3).trans hk3, Nat.le_trans (Nat.le_trans hsz hB3.size) hk3.size, rfl⟩
        · have H3 := Lib.hid hJx3
          clear hJx3
          gi_wp2
          refine bodyPost_ret (results_none rfl _ _ _) rfl ?_
          exact ⟨⟨_, rfl⟩, .inr ⟨_, by rw [List.map_append, HF.out.1, HF.out.2.2.2]; exact ⟨pcs 32 r, by simp [Pc.bs]⟩, H3.out⟩⟩
    · gi_wp2
      go_end0
      exact ⟨⟨_, rfl⟩, .inl ⟨pre, hx, hJs⟩⟩
end Go.Proofs.Ytmbafdnickeikaa
