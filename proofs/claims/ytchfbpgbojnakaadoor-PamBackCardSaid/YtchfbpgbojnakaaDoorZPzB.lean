/- Rasters that are made colour by colour. -/
import Derived.Test.YtchfbpgbojnakaaDoorZPzA
namespace Go.Proofs.YtchfbpgbojnakaaDoor
open Go.RowKit

/-- a raster under way: its box B, its row in blocks behind it -/
def Making (w wr : World) (B : Nat) (x y : Int) (v : Value) (l : List Col) : Prop :=
  Box wr B 24 [.int .i64 x, .int .i64 y, v] ∧ wr.ownsRow (B + 1) 41 4 v l.length (rowCells l) ∧ (w.heap.size ≤ B ∧ B < wr.heap.size) ∧ Below w.heap.size w wr
theorem Making.below {w wr w1 : World} {B : Nat} {x y : Int} {v : Value} {l : List Col} (h : Making w wr B x y v l) (hb : Below wr.heap.size wr w1) : Making w w1 B x y v l := by
  obtain ⟨h1, h2, ⟨h3, h4⟩, h5⟩ := h
  have hs := hb.size
  refine ⟨h1.below hb h4, ?_, ⟨h3, by omega⟩, h5.trans (hb.mono h5.size)⟩
  exact h2.kept (row := none) ⟨hb.os, hb.tape, hb.output, hb.size, fun k hk _ => hb.block k hk⟩ (by cases hv : v.ownBlock <;> simp)
theorem grown_set (w : World) (B i : Nat) (u : Value) : w.grownBy (w.setCell ⟨B, i, none⟩ u) (some B) :=
  ⟨rfl, rfl, rfl, by simp, fun k _ hne => Below.heap_setCell w _ u k (fun e => hne (by rw [e]))⟩
/-- one colour more: before and after the store -/
theorem Making.step {w wr w3 : World} {B : Nat} {x y : Int} {v v' : Value} {l : List Col} (h : Making w wr B x y v l) (c : Col) {o : Obj} (hg : (wr.alloc o).grownBy w3 v.ownBlock) (hn : w3.ownsRow (B + 1) 41 4 v' (l.length + 1) (rowCells l ++ colCells c)) :
    (w3.cell? ⟨B, 2, none⟩ = some v ∧ w3.frozen? ⟨B, 2, none⟩ = false) ∧ Making w (w3.setCell ⟨B, 2, none⟩ v') B x y v' (l ++ [c]) := by
  obtain ⟨h1, h2, ⟨h3, h4⟩, h5⟩ := h
  have ha : Below w.heap.size w (wr.alloc o) := h5.alloc h5.size _
  have hs := hg.size
  have hs' : wr.heap.size + 1 ≤ w3.heap.size := by simpa using hs
  have hb3 : Below w.heap.size w w3 := ha.grown hg (by have := h5.size; simp; omega) (fun k e => by have := (h2.lt k e).1; omega)
  have hk : Box w3 B 24 [.int .i64 x, .int .i64 y, v] := (hg.block B (by simp; omega) (fun e => by have := (h2.lt B e.symm).1; omega)).trans (h1.alloc o)
  refine ⟨⟨hk.cell 2 rfl, hk.frozen 2⟩, hk.set 2 v', ?_, ⟨h3, by simp; omega⟩, hb3.setCell (p := ⟨B, 2, none⟩) h3 v'⟩
  have e : rowCells (l ++ [c]) = rowCells l ++ colCells c := by rw [rowCells_append]; simp [rowCells]
  rw [e, List.length_append]
  refine hn.kept (grown_set w3 B 2 v') (.inr fun e => ?_)
  have := (hn.lt B e).1
  omega
theorem Making.done {w wr : World} {B : Nat} {x y : Int} {v : Value} {l : List Col} (h : Making w wr B x y v l) : ∃ p c, v = .slice p l.length c ∧ RdV wr wr.heap.size p (rowCells l) := by
  obtain ⟨p, c, h1, _, _, h2⟩ := RdV.ofOwn4 h.2.1
  exact ⟨p, c, h1, h2⟩
/-- it is handed out: stored into the box R of the result -/
theorem Making.handed {w wr : World} {B R : Nat} {x y : Int} {p : Option Addr} {c : Nat} {l : List Col} {n : Nat} (h : Making w wr B x y (.slice p n c) l) {a b d : Value} (hz : Box wr R 24 [a, b, d]) (hR : R < B) :
    ∃ U, ((wr.setCell ⟨R, 0, none⟩ (.int .i64 x)).setCell ⟨R, 1, none⟩ (.int .i64 y)).setCell ⟨R, 2, none⟩ (.slice p n c) = U ∧ (U.cell? ⟨R, 0, none⟩ = some (.int .i64 x) ∧ U.cell? ⟨R, 1, none⟩ = some (.int .i64 y) ∧ U.cell? ⟨R, 2, none⟩ = some (.slice p n c)) ∧
      RdV U U.heap.size p (rowCells l) ∧ (∀ A, A ≤ R → Below A wr U) := by
  have hb : Box (((wr.setCell ⟨R, 0, none⟩ (.int .i64 x)).setCell ⟨R, 1, none⟩ (.int .i64 y)).setCell ⟨R, 2, none⟩ (.slice p n c)) R 24 [.int .i64 x, .int .i64 y, .slice p n c] := ((hz.set 0 _).set 1 _).set 2 _
  refine ⟨_, rfl, ⟨hb.cell 0 rfl, hb.cell 1 rfl, hb.cell 2 rfl⟩, ?_, fun A hA => (((Below.refl A wr).setCell (p := ⟨R, 0, none⟩) hA _).setCell (p := ⟨R, 1, none⟩) hA _).setCell (p := ⟨R, 2, none⟩) hA _⟩
  have hne : ∀ (V : World) (v : Value) (n : Nat) (xs : List Value), V.ownsRow (B + 1) 41 4 v n xs → v.ownBlock ≠ some R := fun V v n xs ho e => by have := (ho.lt R e).1; omega
  have k1 := h.2.1.kept (grown_set wr R 0 (.int .i64 x)) (.inr (hne _ _ _ _ h.2.1))
  have k2 := k1.kept (grown_set _ R 1 (.int .i64 y)) (.inr (hne _ _ _ _ k1))
  have k3 := k2.kept (grown_set _ R 2 (.slice p n c)) (.inr (hne _ _ _ _ k2))
  obtain ⟨p', c', e, _, _, hr⟩ := RdV.ofOwn4 k3
  cases e
  exact hr
theorem Making.new {w W : World} {B : Nat} {x y : Int} (h1 : Box W B 24 [.int .i64 x, .int .i64 y, .slice none 0 0]) (h2 : w.heap.size ≤ B) (h3 : Below w.heap.size w W) : Making w W B x y (.slice none 0 0) [] :=
  ⟨h1, World.ownsRow_nil _ _ _ _, ⟨h2, h1.lt⟩, h3⟩
theorem info_col : (Tryd.prog.info? 41).map (fun i => (i.zero, i.size, i.bytes)) = some (some (.agg #[.int .u8 0, .int .u8 0, .int .u8 0, .int .u8 0]), 4, 4) := by kernel_rfl
theorem four_new (w : World) (t : TypeId) (a b c d : Value) : ∀ j u, [a, b, c, d][j]? = some u → (w.alloc (.cells #[a, b, c, d] t)).cell? ((⟨w.heap.size, 0, none⟩ : Addr).add j) = some u := by
  intro j u hj
  have hadd : (⟨w.heap.size, 0, none⟩ : Addr).add j = ⟨w.heap.size, j, none⟩ := by unfold Addr.add; split <;> simp_all
  rw [hadd]
  exact (Box.new w t [a, b, c, d]).cell j hj

set_option maxRecDepth 10000 in
set_option maxHeartbeats 3200000 in
theorem ref9_BlankOk (x y : Int) (hx : 1 ≤ x ∧ x ≤ 64) (hy : 1 ≤ y ∧ y ≤ 64) (w : World) :
    Calls Tryd.prog 20 #[.int .i64 x, .int .i64 y] w fun e w' => (∃ p c, e = .returned (rasV ⟨x, y, List.replicate (x * y).toNat col0⟩ p c) ∧ RdV w' w'.heap.size p (rowCells (List.replicate (x * y).toNat col0))) ∧ Below w.heap.size w w' := by
  obtain ⟨i0, hi, hz0, hz1, hz2⟩ := info_parts info_col
  have hp := side_mul hx hy
  obtain ⟨hx1, hx2⟩ := hx
  obtain ⟨hy1, hy2⟩ := hy
  have hw : IntKind.i64.wrap (x * y) = x * y := IntWalk.i64_in _ (by omega)
  obtain ⟨n, hn⟩ : ∃ n : Nat, x * y = n := ⟨(x * y).toNat, by omega⟩
  rw [hn] at hw
  have HP := Lib.hid hp
  clear hp
  unfold rasV
  obtain ⟨w1, hw1⟩ : ∃ w1, w.alloc (.cells #[.int .i64 0, .int .i64 0, .slice none 0 0] 24) = w1 := ⟨_, rfl⟩
  obtain ⟨W, hW⟩ : ∃ W, w1.alloc (.cells #[.int .i64 x, .int .i64 y, .slice none 0 0] 24) = W := ⟨_, rfl⟩
  have hs1 : w1.heap.size = w.heap.size + 1 := by rw [← hw1]; simp
  have HZ := Lib.hid (show Box w1 w.heap.size 24 [.int .i64 0, .int .i64 0, .slice none 0 0] ∧ Below w.heap.size w w1 from by rw [← hw1]; exact ⟨Box.new _ _ [.int .i64 0, .int .i64 0, .slice none 0 0], (Below.refl _ _).alloc (Nat.le_refl _) _⟩)
  have HK := Lib.hid (show Making w1 W (w.heap.size + 1) x y (.slice none 0 0) [] from by
    rw [← hW]
    exact Making.new (Box.at_new _ _ [.int .i64 x, .int .i64 y, .slice none 0 0] hs1.symm) (by omega) ((Below.refl _ _).alloc (Nat.le_refl _) _))
  replace hW := Lib.hid (show (w.alloc (.cells #[.int .i64 0, .int .i64 0, .slice none 0 0] 24)).alloc (.cells #[.int .i64 x, .int .i64 y, .slice none 0 0] 24) = W from by rw [hw1]; exact hW)
  replace hs1 := Lib.hid hs1
  clear hw1
  go_enter Tryd.func20, Tryd.ntmps20
  go_wp2_with fail
  rw [hW.out]
  clear hW
  go_loopg [6] n (fun gh it wr => ∃ (i : Nat) (v : Value), it = .int .i64 (i : Int) ∧ gh + i = n ∧ Making w1 wr (w.heap.size + 1) x y v (List.replicate i col0))
  case atStart => exact ⟨0, _, rfl, by omega, HK.out⟩
  case round =>
    obtain ⟨i, v, rfl, hg, hm⟩ := hrel
    have HM := Lib.hid hm
    obtain ⟨p0, p1, p2⟩ := Box.three hm.1
    clear hm
    have hn2 : n ≤ 4096 := by have := HP.out; omega
    by_cases hlt : i < n
    · have hil : (i : Int) < (n : Int) := by omega
      go_wp2_with (at_builtin; refine wpList_append_own _ rfl _ _ 22 rfl (w.heap.size + 2) 41 i0 (.agg #[.int .u8 0, .int .u8 0, .int .u8 0, .int .u8 0]) 4 4 Tryd.underlying22 hi hz0 hz1 hz2 rfl (by decide) v i (rowCells (List.replicate i col0)) rfl ((show wr.ownsRow (w.heap.size + 2) 41 4 v i (rowCells (List.replicate i col0)) from by have h := HM.out.2.1; rw [List.length_replicate] at h; exact h).alloc _) ⟨wr.heap.size, 0, none⟩ 1 1 [.int .u8 0, .int .u8 0, .int .u8 0, .int .u8 0] rfl rfl (four_new _ _ _ _ _ _) (by simp [Value.oneCell']) (by simp [maxLen]; omega) (by omega) (by have h1 := HM.out.2.2.1.2; simp; omega) ?_; intro v' w3 hown' hgrow hnil; clear hnil; obtain ⟨p', c', hv', -⟩ := RdV.ofOwn4 hown'; subst hv'; obtain ⟨⟨r1, r2⟩, r3⟩ := HM.out.step col0 hgrow (by rw [List.length_replicate]; exact hown'); replace r3 := Lib.hid r3; clear hown' hgrow)
      go_roundg (n - (i + 1))
      case measure => omega
      case rel => exact ⟨i + 1, _, by simp, by omega, by rw [List.replicate_succ']; exact r3.out⟩
    · obtain rfl : i = n := by omega
      have HB := Lib.hid (HM.out.2.2.2)
      obtain ⟨p, c, rfl, -⟩ := HM.out.done
      have hz := HZ.out.1.below HB.out (by rw [hs1.out]; omega)
      obtain ⟨q0, q1, q2⟩ := Box.three hz
      have f0 := hz.frozen 0
      have f1 := hz.frozen 1
      have f2 := hz.frozen 2
      have HH := Lib.hid (HM.out.handed hz (by omega))
      clear hz
      go_wp2_with fail
      obtain ⟨U, hU, ⟨u0, u1, u2⟩, hr, hb⟩ := HH.out
      rw [List.length_replicate] at hU u2
      rw [hU]
      have hB2 := HZ.out.2.trans ((HB.out.mono (by rw [hs1.out]; omega)).trans (hb w.heap.size (Nat.le_refl _)))
      refine bodyPost_ret (by simp [results, Tryd.results20, go_sem, u0, u1, u2]; rfl) rfl ⟨⟨p, c, ?_, ?_⟩, hB2⟩
      · rw [hn]; simp
      · rw [hn]; exact hr

set_option maxRecDepth 10000 in
set_option maxHeartbeats 3200000 in
theorem ref9_BlankNo (x y : Int) (h : ¬ ((1 ≤ x ∧ x ≤ 64) ∧ (1 ≤ y ∧ y ≤ 64))) (w : World) :
    Calls Tryd.prog 20 #[.int .i64 x, .int .i64 y] w fun e w' => e = .returned (rasV ras0 none 0) ∧ Below w.heap.size w w' := by
  unfold rasV ras0
  have hz := Box.new w 24 [.int .i64 0, .int .i64 0, .slice none 0 0]
  obtain ⟨z0, z1, z2⟩ := Box.three hz
  have hb : Below w.heap.size w (w.alloc (.cells #[.int .i64 0, .int .i64 0, .slice none 0 0] 24)) := (Below.refl _ _).alloc (Nat.le_refl _) _
  clear hz
  by_cases h1 : 1 ≤ x
  · by_cases h2 : x ≤ 64
    · by_cases h3 : 1 ≤ y
      · have h4 : ¬ y ≤ 64 := fun h4 => h ⟨⟨h1, h2⟩, h3, h4⟩
        clear h
        go_enter Tryd.func20, Tryd.ntmps20
        go_wp2_with fail
        refine bodyPost_ret (by simp [results, Tryd.results20, go_sem, z0, z1, z2]) rfl ⟨rfl, hb⟩
      · skip
        clear h
        go_enter Tryd.func20, Tryd.ntmps20
        go_wp2_with fail
        refine bodyPost_ret (by simp [results, Tryd.results20, go_sem, z0, z1, z2]) rfl ⟨rfl, hb⟩
    · skip
      clear h
      go_enter Tryd.func20, Tryd.ntmps20
      go_wp2_with fail
      refine bodyPost_ret (by simp [results, Tryd.results20, go_sem, z0, z1, z2]) rfl ⟨rfl, hb⟩
  · skip
    clear h
    go_enter Tryd.func20, Tryd.ntmps20
    go_wp2_with fail
    refine bodyPost_ret (by simp [results, Tryd.results20, go_sem, z0, z1, z2]) rfl ⟨rfl, hb⟩
theorem ref9_Blank (x y : Int) (w : World) :
    Calls Tryd.prog 20 #[.int .i64 x, .int .i64 y] w fun e w' => (∃ p c, e = .returned (rasV (blankR x y) p c) ∧ RdV w' w'.heap.size p (rowCells (blankR x y).pix)) ∧ Below w.heap.size w w' := by
  unfold blankR
  by_cases h : (1 ≤ x ∧ x ≤ 64) ∧ (1 ≤ y ∧ y ≤ 64)
  · rw [if_pos h]
    exact ref9_BlankOk x y h.1 h.2 w
  · rw [if_neg h]
    refine Calls.mono (ref9_BlankNo x y h w) ?_
    rintro e w' ⟨rfl, hb⟩
    exact ⟨⟨none, 0, rfl, RdV.nil _ _ _⟩, hb⟩
end Go.Proofs.YtchfbpgbojnakaaDoor
/- Rasters: a part of one, the document's own Crop. -/

namespace Go.Proofs.YtchfbpgbojnakaaDoor
open Go.RowKit

def cAt (r : Ras) (x y : Int) : Col := (atR r x y).getD col0
/-- k rows of a part, and i colours of the next -/
def cropTo (r : Ras) (x y : Int) (U k i : Nat) : List Col := ((List.range k).flatMap fun (b : Nat) => (List.range U).map fun (a : Nat) => cAt r (x + a) (y + b)) ++ (List.range i).map fun (a : Nat) => cAt r (x + a) (y + k)
theorem cropTo_next (r : Ras) (x y : Int) (U k i : Nat) : cropTo r x y U k (i + 1) = cropTo r x y U k i ++ [cAt r (x + i) (y + k)] := by
  simp [cropTo, List.range_succ]
theorem cropTo_row (r : Ras) (x y : Int) (U k : Nat) : cropTo r x y U k U = cropTo r x y U (k + 1) 0 := by
  simp [cropTo, List.range_succ]
theorem cropTo_len (r : Ras) (x y : Int) (U k i : Nat) : (cropTo r x y U k i).length = k * U + i := by
  induction k generalizing i with
  | zero => simp [cropTo]
  | succ k ih =>
    have e : (cropTo r x y U (k + 1) i).length = (cropTo r x y U (k + 1) 0).length + i := by simp [cropTo]
    rw [e, ← cropTo_row, ih U, Nat.succ_mul]
/-- may the part be cut out -/
def CropOk (r : Ras) (x y u v : Int) : Prop := RMay r ∧ (1 ≤ u ∧ u ≤ 64) ∧ (1 ≤ v ∧ v ≤ 64) ∧ (0 ≤ x ∧ x ≤ 64) ∧ (0 ≤ y ∧ y ≤ 64) ∧ x + u ≤ r.w ∧ y + v ≤ r.h

set_option maxRecDepth 10000 in
set_option maxHeartbeats 3200000 in
theorem ref9_CropOk (r : Ras) (p : Option Addr) (c : Nat) (x y u v : Int) (h : CropOk r x y u v) (w : World) (hq : RdV w w.heap.size p (rowCells r.pix)) :
    Calls Tryd.prog 16 #[rasV r p c, .int .i64 x, .int .i64 y, .int .i64 u, .int .i64 v] w fun e w' => (∃ p c, e = .returned (.tuple #[rasV ⟨u, v, cropTo r x y u.toNat v.toNat 0⟩ p c, .int .i64 0]) ∧ RdV w' w'.heap.size p (rowCells (cropTo r x y u.toNat v.toNat 0))) ∧ Below w.heap.size w w' := by
  obtain ⟨hR, ⟨hu1, hu2⟩, ⟨hv1, hv2⟩, ⟨hx1, hx2⟩, ⟨hy1, hy2⟩, hxu, hyv⟩ := h
  have hR' : RasOk r := by obtain ⟨⟨a1, a2⟩, ⟨a3, a4⟩, a5⟩ := hR; have := side_mul ⟨a1, a2⟩ ⟨a3, a4⟩; exact ⟨⟨by omega, by omega⟩, ⟨by omega, by omega⟩, by omega⟩
  obtain ⟨i0, hi, hz0, hz1, hz2⟩ := info_parts info_col
  have cM := fun V => ref9_May r p c hR' V
  have cA : ∀ (V : World) (a b : Int), (-9223372036854775808 ≤ a ∧ a ≤ 9223372036854775807) → (-9223372036854775808 ≤ b ∧ b ≤ 9223372036854775807) → RdV V V.heap.size p (rowCells r.pix) →
      Calls Tryd.prog 14 #[rasV r p c, .int .i64 a, .int .i64 b] V fun e w' => (∃ (cc : Col) (d : Bool), Hid (cAt r a b = cc) ∧ e = .returned (.tuple #[.agg #[.int .u8 (cc.r.toNat : Int), .int .u8 (cc.g.toNat : Int), .int .u8 (cc.b.toNat : Int), .int .u8 (cc.a.toNat : Int)], .bool d])) ∧ Below V.heap.size V w' := fun V a b h1 h2 hq => by
    refine Calls.mono (ref9_At r p c a b hR' h1 h2 V hq) ?_
    rintro e w' ⟨rfl, hb⟩
    exact ⟨⟨_, _, Lib.hid rfl, rfl⟩, hb⟩
  rw [show mayR r = true by simp [mayR, hR]] at cM
  obtain ⟨U, rfl⟩ : ∃ U : Nat, u = U := ⟨u.toNat, by omega⟩
  obtain ⟨V, rfl⟩ : ∃ V : Nat, v = V := ⟨v.toNat, by omega⟩
  obtain ⟨W, hW, HK⟩ : ∃ W, (w.alloc (.cells #[.int .i64 r.w, .int .i64 r.h, .slice p r.pix.length c] 24)).alloc (.cells #[.int .i64 0, .int .i64 0, .slice none 0 0] 24) = W ∧ Hid ((Box W w.heap.size 24 [.int .i64 r.w, .int .i64 r.h, .slice p r.pix.length c] ∧ Box W (w.heap.size + 1) 24 [.int .i64 0, .int .i64 0, .slice none 0 0]) ∧ Below w.heap.size w W) :=
    ⟨_, rfl, Lib.hid ⟨⟨(Box.new w _ [.int .i64 r.w, .int .i64 r.h, .slice p r.pix.length c]).alloc _, Box.at_new _ _ [.int .i64 0, .int .i64 0, .slice none 0 0] (by simp)⟩, ((Below.refl _ _).alloc (Nat.le_refl _) _).alloc (by simp) _⟩⟩
  replace hW := Lib.hid hW
  replace hq := Lib.hid hq
  replace hR := Lib.hid (And.intro hR hR')
  clear hR'
  unfold rasV at *
  replace cM := Lib.hid cM
  replace cA := Lib.hid cA
  go_enter Tryd.func16, Tryd.ntmps16
  go_wp2_with (go_at_call 18; rw [hW.out]; with_reducible refine Calls.mono (cM.out _) ?_; rintro e w1 ⟨rfl, b1⟩
               have hk1 := Lib.hid (HK.out.1.1.below b1 HK.out.1.1.lt)
               have hk2 := Lib.hid (HK.out.1.2.below b1 HK.out.1.2.lt)
               have hk3 := Lib.hid (HK.out.2.trans (b1.mono HK.out.2.size))
               clear b1
               obtain ⟨z0, z1, z2⟩ := Box.three hk1.out)
  have HM0 := Lib.hid (show Making w1 (w1.alloc (.cells #[.int .i64 (U : Int), .int .i64 (V : Int), .slice none 0 0] 24)) w1.heap.size (U : Int) (V : Int) (.slice none 0 0) (cropTo r x y U 0 0) from
    Making.new (Box.new w1 _ [.int .i64 (U : Int), .int .i64 (V : Int), .slice none 0 0]) (Nat.le_refl _) ((Below.refl _ _).alloc (Nat.le_refl _) _))
  generalize w1.alloc (.cells #[.int .i64 (U : Int), .int .i64 (V : Int), .slice none 0 0] 24) = w2 at HM0 ⊢
  have hUV : ∀ k i : Nat, k < V → i < U → k * U + i ≤ 8192 := fun k i hk hi => by
    have := Nat.mul_le_mul (show k ≤ 64 by omega) (show U ≤ 64 by omega)
    omega
  replace hUV := Lib.hid hUV
  clear cM z0 z1 z2
  go_loopg [13] V (fun gh it wr => ∃ (k : Nat), it = .int .i64 (k : Int) ∧ gh + k = V ∧ ∃ vv, Making w1 wr w1.heap.size (U : Int) (V : Int) vv (cropTo r x y U k 0))
  case atStart => exact ⟨0, rfl, by omega, _, HM0.out⟩
  case round =>
    obtain ⟨k, rfl, hg, vv, hm⟩ := hrel
    replace hm := Lib.hid hm
    by_cases hlt : k < V
    · have hil : (k : Int) < (V : Int) := by omega
      go_wp2_with fail
      go_loopg [14] U (fun gi it wi => ∃ (i : Nat), it = .int .i64 (i : Int) ∧ gi + i = U ∧ ∃ vv, Making w1 wi w1.heap.size (U : Int) (V : Int) vv (cropTo r x y U k i))
      case atStart => exact ⟨0, rfl, by omega, _, hm.out⟩
      case round =>
        clear hm vv
        obtain ⟨i, rfl, hgi, vv, hm⟩ := hrel
        replace hm := Lib.hid hm
        by_cases hlti : i < U
        · have hili : (i : Int) < (U : Int) := by omega
          have hkr := hk1.out.below hm.out.2.2.2 (by have := hk1.out.lt; exact this)
          obtain ⟨z0, z1, z2⟩ := Box.three hkr
          have hqr := Lib.hid ((hq.out.below (hk3.out.trans (hm.out.2.2.2.mono hk3.out.size))).mono (hk3.out.trans (hm.out.2.2.2.mono hk3.out.size)).size)
          clear hkr
          go_upto_region 11 with (go_at_call 14; with_reducible refine Calls.mono (cA.out _ _ _ (by constructor <;> omega) (by constructor <;> omega) hqr.out) ?_; rintro e w4 ⟨⟨cc, d, hcc, rfl⟩, b4⟩; replace hm := Lib.hid (hm.out.below b4); clear b4 z0 z1 z2 hqr)
          have hc4 := Box.new w4 41 [.int .u8 (cc.r.toNat : Int), .int .u8 (cc.g.toNat : Int), .int .u8 (cc.b.toNat : Int), .int .u8 (cc.a.toNat : Int)]
          replace hm := Lib.hid (hm.out.below ((Below.refl w4.heap.size w4).alloc (Nat.le_refl _) (.cells #[.int .u8 (cc.r.toNat : Int), .int .u8 (cc.g.toNat : Int), .int .u8 (cc.b.toNat : Int), .int .u8 (cc.a.toNat : Int)] 41)))
          dsimp only [List.toArray] at hc4
          generalize w4.alloc (.cells #[.int .u8 (cc.r.toNat : Int), .int .u8 (cc.g.toNat : Int), .int .u8 (cc.b.toNat : Int), .int .u8 (cc.a.toNat : Int)] 41) = w5 at hm hc4 ⊢
          obtain ⟨⟨c0, c1, c2, c3⟩, -⟩ := Box.four hc4
          clear hc4
          obtain ⟨p0, p1, p2⟩ := Box.three hm.out.1
          have hn2 := hUV.out k i hlt hlti
          go_wp2_with (at_builtin; refine wpList_append_own _ rfl _ _ 22 rfl (w1.heap.size + 1) 41 i0 (.agg #[.int .u8 0, .int .u8 0, .int .u8 0, .int .u8 0]) 4 4 Tryd.underlying22 hi hz0 hz1 hz2 rfl (by decide) vv (k * U + i) (rowCells (cropTo r x y U k i)) rfl ((show w5.ownsRow (w1.heap.size + 1) 41 4 vv (k * U + i) (rowCells (cropTo r x y U k i)) from by have h := hm.out.2.1; rw [cropTo_len] at h; exact h).alloc _) ⟨w5.heap.size, 0, none⟩ 1 1 [.int .u8 (cc.r.toNat : Int), .int .u8 (cc.g.toNat : Int), .int .u8 (cc.b.toNat : Int), .int .u8 (cc.a.toNat : Int)] rfl rfl (four_new _ _ _ _ _ _) (by simp [Value.oneCell']) (by simp [maxLen]; omega) (by omega) (by have h1 := hm.out.2.2.1.2; simp; omega) ?_; intro v' w3 hown' hgrow hnil; clear hnil; obtain ⟨p', c', hv', -⟩ := RdV.ofOwn4 hown'; subst hv'; obtain ⟨⟨r1, r2⟩, r3⟩ := hm.out.step cc hgrow (by rw [cropTo_len]; exact hown'); replace r3 := Lib.hid r3; clear hown' hgrow)
          go_roundg (U - (i + 1))
          case measure => omega
          case rel => exact ⟨i + 1, by simp, by omega, _, by rw [cropTo_next, hcc.out]; exact r3.out⟩
        · obtain rfl : i = U := by omega
          go_wp2_with fail
          go_roundg (V - (k + 1))
          case measure => omega
          case rel => exact ⟨k + 1, by simp, by omega, vv, by rw [← cropTo_row]; exact hm.out⟩
    · obtain rfl : k = V := by omega
      obtain ⟨p', c', rfl, -⟩ := hm.out.done
      obtain ⟨p0, p1, p2⟩ := Box.three hm.out.1
      have hz := hk2.out.below hm.out.2.2.2 hk2.out.lt
      obtain ⟨q0, q1, q2⟩ := Box.three hz
      have f0 := hz.frozen 0
      have f1 := hz.frozen 1
      have f2 := hz.frozen 2
      have HH := Lib.hid (hm.out.handed hz hk2.out.lt)
      clear hz
      go_wp2_with fail
      obtain ⟨S, hS, ⟨u0, u1, u2⟩, hr, hb⟩ := HH.out
      simp only [Int.toNat_natCast] at *
      rw [hS]
      have hB2 := hk3.out.trans ((hm.out.2.2.2.mono hk3.out.size).trans (hb w.heap.size (by omega)))
      exact bodyPost_ret (by simp [results, Tryd.results16, go_sem, u0, u1, u2]) rfl ⟨⟨p', c', rfl, hr⟩, hB2⟩

theorem Box.stored3 {w : World} {g : Nat} {t : TypeId} {a b c : Value} (h : Box w g t [a, b, c]) (x y z : Value) : ∃ U, ((w.setCell ⟨g, 0, none⟩ x).setCell ⟨g, 1, none⟩ y).setCell ⟨g, 2, none⟩ z = U ∧ (U.cell? ⟨g, 0, none⟩ = some x ∧ U.cell? ⟨g, 1, none⟩ = some y ∧ U.cell? ⟨g, 2, none⟩ = some z) ∧ (∀ B, B ≤ g → Below B w U) := by
  have hb : Box (((w.setCell ⟨g, 0, none⟩ x).setCell ⟨g, 1, none⟩ y).setCell ⟨g, 2, none⟩ z) g t [x, y, z] := ((h.set 0 _).set 1 _).set 2 _
  exact ⟨_, rfl, Box.three hb, fun B hB => (((Below.refl B w).setCell (p := ⟨g, 0, none⟩) hB x).setCell (p := ⟨g, 1, none⟩) hB y).setCell (p := ⟨g, 2, none⟩) hB z⟩

set_option maxRecDepth 10000 in
set_option maxHeartbeats 6400000 in
theorem ref9_CropNo (r : Ras) (p : Option Addr) (c : Nat) (x y u v : Int) (hR' : RasOk r) (h : ¬ CropOk r x y u v) (w : World) :
    Calls Tryd.prog 16 #[rasV r p c, .int .i64 x, .int .i64 y, .int .i64 u, .int .i64 v] w fun e w' => e = .returned (.tuple #[rasV ras0 none 0, .int .i64 2]) ∧ Below w.heap.size w w' := by
  have cM := fun V => ref9_May r p c hR' V
  obtain ⟨W, hW, HK⟩ : ∃ W, (w.alloc (.cells #[.int .i64 r.w, .int .i64 r.h, .slice p r.pix.length c] 24)).alloc (.cells #[.int .i64 0, .int .i64 0, .slice none 0 0] 24) = W ∧ Hid ((Box W w.heap.size 24 [.int .i64 r.w, .int .i64 r.h, .slice p r.pix.length c] ∧ Box W (w.heap.size + 1) 24 [.int .i64 0, .int .i64 0, .slice none 0 0]) ∧ Below w.heap.size w W) :=
    ⟨_, rfl, Lib.hid ⟨⟨(Box.new w _ [.int .i64 r.w, .int .i64 r.h, .slice p r.pix.length c]).alloc _, Box.at_new _ _ [.int .i64 0, .int .i64 0, .slice none 0 0] (by simp)⟩, ((Below.refl _ _).alloc (Nat.le_refl _) _).alloc (by simp) _⟩⟩
  replace hW := Lib.hid hW
  unfold rasV ras0 at *
  clear hR'
  by_cases hm : RMay r
  · rw [show mayR r = true by simp [mayR, hm]] at cM
    replace cM := Lib.hid cM
    by_cases a0 : 1 ≤ u
    · skip
      by_cases a1 : u ≤ 64
      · skip
        by_cases a2 : 1 ≤ v
        · skip
          by_cases a3 : v ≤ 64
          · skip
            by_cases a4 : 0 ≤ x
            · skip
              by_cases a5 : x ≤ 64
              · skip
                by_cases a6 : 0 ≤ y
                · skip
                  by_cases a7 : y ≤ 64
                  · skip
                    by_cases a8 : x + u ≤ r.w
                    · skip
                      have a9 : ¬ y + v ≤ r.h := fun a9 => h ⟨hm, ⟨a0, a1⟩, ⟨a2, a3⟩, ⟨a4, a5⟩, ⟨a6, a7⟩, a8, a9⟩
                      replace hm := Lib.hid hm
                      clear h
                      go_enter Tryd.func16, Tryd.ntmps16
                      go_wp2_with (go_at_call 18; rw [hW.out]; with_reducible refine Calls.mono (cM.out _) ?_; rintro e w1 ⟨rfl, b1⟩
                                   obtain ⟨z0, z1, z2⟩ := Box.three (HK.out.1.1.below b1 HK.out.1.1.lt)
                                   have hk2 := HK.out.1.2.below b1 HK.out.1.2.lt
                                   obtain ⟨q0, q1, q2⟩ := Box.three hk2
                                   have f0 := hk2.frozen 0
                                   have f1 := hk2.frozen 1
                                   have f2 := hk2.frozen 2)
                      obtain ⟨S, hS, ⟨u0, u1, u2⟩, hb⟩ := hk2.stored3 (.int .i64 0) (.int .i64 0) (.slice none 0 0)
                      rw [hS]
                      have hB2 := HK.out.2.trans ((b1.mono HK.out.2.size).trans (hb w.heap.size (by omega)))
                      exact bodyPost_ret (by simp [results, Tryd.results16, go_sem, u0, u1, u2]) rfl ⟨rfl, hB2⟩
                    · replace hm := Lib.hid hm
                      clear h
                      go_enter Tryd.func16, Tryd.ntmps16
                      go_wp2_with (go_at_call 18; rw [hW.out]; with_reducible refine Calls.mono (cM.out _) ?_; rintro e w1 ⟨rfl, b1⟩
                                   obtain ⟨z0, z1, z2⟩ := Box.three (HK.out.1.1.below b1 HK.out.1.1.lt)
                                   have hk2 := HK.out.1.2.below b1 HK.out.1.2.lt
                                   obtain ⟨q0, q1, q2⟩ := Box.three hk2
                                   have f0 := hk2.frozen 0
                                   have f1 := hk2.frozen 1
                                   have f2 := hk2.frozen 2)
                      obtain ⟨S, hS, ⟨u0, u1, u2⟩, hb⟩ := hk2.stored3 (.int .i64 0) (.int .i64 0) (.slice none 0 0)
                      rw [hS]
                      have hB2 := HK.out.2.trans ((b1.mono HK.out.2.size).trans (hb w.heap.size (by omega)))
                      exact bodyPost_ret (by simp [results, Tryd.results16, go_sem, u0, u1, u2]) rfl ⟨rfl, hB2⟩
                  · replace hm := Lib.hid hm
                    clear h
                    go_enter Tryd.func16, Tryd.ntmps16
                    go_wp2_with (go_at_call 18; rw [hW.out]; with_reducible refine Calls.mono (cM.out _) ?_; rintro e w1 ⟨rfl, b1⟩
                                 obtain ⟨z0, z1, z2⟩ := Box.three (HK.out.1.1.below b1 HK.out.1.1.lt)
                                 have hk2 := HK.out.1.2.below b1 HK.out.1.2.lt
                                 obtain ⟨q0, q1, q2⟩ := Box.three hk2
                                 have f0 := hk2.frozen 0
                                 have f1 := hk2.frozen 1
                                 have f2 := hk2.frozen 2)
                    obtain ⟨S, hS, ⟨u0, u1, u2⟩, hb⟩ := hk2.stored3 (.int .i64 0) (.int .i64 0) (.slice none 0 0)
                    rw [hS]
                    have hB2 := HK.out.2.trans ((b1.mono HK.out.2.size).trans (hb w.heap.size (by omega)))
                    exact bodyPost_ret (by simp [results, Tryd.results16, go_sem, u0, u1, u2]) rfl ⟨rfl, hB2⟩
                · replace hm := Lib.hid hm
                  clear h
                  go_enter Tryd.func16, Tryd.ntmps16
                  go_wp2_with (go_at_call 18; rw [hW.out]; with_reducible refine Calls.mono (cM.out _) ?_; rintro e w1 ⟨rfl, b1⟩
                               obtain ⟨z0, z1, z2⟩ := Box.three (HK.out.1.1.below b1 HK.out.1.1.lt)
                               have hk2 := HK.out.1.2.below b1 HK.out.1.2.lt
                               obtain ⟨q0, q1, q2⟩ := Box.three hk2
                               have f0 := hk2.frozen 0
                               have f1 := hk2.frozen 1
                               have f2 := hk2.frozen 2)
                  obtain ⟨S, hS, ⟨u0, u1, u2⟩, hb⟩ := hk2.stored3 (.int .i64 0) (.int .i64 0) (.slice none 0 0)
                  rw [hS]
                  have hB2 := HK.out.2.trans ((b1.mono HK.out.2.size).trans (hb w.heap.size (by omega)))
                  exact bodyPost_ret (by simp [results, Tryd.results16, go_sem, u0, u1, u2]) rfl ⟨rfl, hB2⟩
              · replace hm := Lib.hid hm
                clear h
                go_enter Tryd.func16, Tryd.ntmps16
                go_wp2_with (go_at_call 18; rw [hW.out]; with_reducible refine Calls.mono (cM.out _) ?_; rintro e w1 ⟨rfl, b1⟩
                             obtain ⟨z0, z1, z2⟩ := Box.three (HK.out.1.1.below b1 HK.out.1.1.lt)
                             have hk2 := HK.out.1.2.below b1 HK.out.1.2.lt
                             obtain ⟨q0, q1, q2⟩ := Box.three hk2
                             have f0 := hk2.frozen 0
                             have f1 := hk2.frozen 1
                             have f2 := hk2.frozen 2)
                obtain ⟨S, hS, ⟨u0, u1, u2⟩, hb⟩ := hk2.stored3 (.int .i64 0) (.int .i64 0) (.slice none 0 0)
                rw [hS]
                have hB2 := HK.out.2.trans ((b1.mono HK.out.2.size).trans (hb w.heap.size (by omega)))
                exact bodyPost_ret (by simp [results, Tryd.results16, go_sem, u0, u1, u2]) rfl ⟨rfl, hB2⟩
            · replace hm := Lib.hid hm
              clear h
              go_enter Tryd.func16, Tryd.ntmps16
              go_wp2_with (go_at_call 18; rw [hW.out]; with_reducible refine Calls.mono (cM.out _) ?_; rintro e w1 ⟨rfl, b1⟩
                           obtain ⟨z0, z1, z2⟩ := Box.three (HK.out.1.1.below b1 HK.out.1.1.lt)
                           have hk2 := HK.out.1.2.below b1 HK.out.1.2.lt
                           obtain ⟨q0, q1, q2⟩ := Box.three hk2
                           have f0 := hk2.frozen 0
                           have f1 := hk2.frozen 1
                           have f2 := hk2.frozen 2)
              obtain ⟨S, hS, ⟨u0, u1, u2⟩, hb⟩ := hk2.stored3 (.int .i64 0) (.int .i64 0) (.slice none 0 0)
              rw [hS]
              have hB2 := HK.out.2.trans ((b1.mono HK.out.2.size).trans (hb w.heap.size (by omega)))
              exact bodyPost_ret (by simp [results, Tryd.results16, go_sem, u0, u1, u2]) rfl ⟨rfl, hB2⟩
          · replace hm := Lib.hid hm
            clear h
            go_enter Tryd.func16, Tryd.ntmps16
            go_wp2_with (go_at_call 18; rw [hW.out]; with_reducible refine Calls.mono (cM.out _) ?_; rintro e w1 ⟨rfl, b1⟩
                         obtain ⟨z0, z1, z2⟩ := Box.three (HK.out.1.1.below b1 HK.out.1.1.lt)
                         have hk2 := HK.out.1.2.below b1 HK.out.1.2.lt
                         obtain ⟨q0, q1, q2⟩ := Box.three hk2
                         have f0 := hk2.frozen 0
                         have f1 := hk2.frozen 1
                         have f2 := hk2.frozen 2)
            obtain ⟨S, hS, ⟨u0, u1, u2⟩, hb⟩ := hk2.stored3 (.int .i64 0) (.int .i64 0) (.slice none 0 0)
            rw [hS]
            have hB2 := HK.out.2.trans ((b1.mono HK.out.2.size).trans (hb w.heap.size (by omega)))
            exact bodyPost_ret (by simp [results, Tryd.results16, go_sem, u0, u1, u2]) rfl ⟨rfl, hB2⟩
        · replace hm := Lib.hid hm
          clear h
          go_enter Tryd.func16, Tryd.ntmps16
          go_wp2_with (go_at_call 18; rw [hW.out]; with_reducible refine Calls.mono (cM.out _) ?_; rintro e w1 ⟨rfl, b1⟩
                       obtain ⟨z0, z1, z2⟩ := Box.three (HK.out.1.1.below b1 HK.out.1.1.lt)
                       have hk2 := HK.out.1.2.below b1 HK.out.1.2.lt
                       obtain ⟨q0, q1, q2⟩ := Box.three hk2
                       have f0 := hk2.frozen 0
                       have f1 := hk2.frozen 1
                       have f2 := hk2.frozen 2)
          obtain ⟨S, hS, ⟨u0, u1, u2⟩, hb⟩ := hk2.stored3 (.int .i64 0) (.int .i64 0) (.slice none 0 0)
          rw [hS]
          have hB2 := HK.out.2.trans ((b1.mono HK.out.2.size).trans (hb w.heap.size (by omega)))
          exact bodyPost_ret (by simp [results, Tryd.results16, go_sem, u0, u1, u2]) rfl ⟨rfl, hB2⟩
      · replace hm := Lib.hid hm
        clear h
        go_enter Tryd.func16, Tryd.ntmps16
        go_wp2_with (go_at_call 18; rw [hW.out]; with_reducible refine Calls.mono (cM.out _) ?_; rintro e w1 ⟨rfl, b1⟩
                     obtain ⟨z0, z1, z2⟩ := Box.three (HK.out.1.1.below b1 HK.out.1.1.lt)
                     have hk2 := HK.out.1.2.below b1 HK.out.1.2.lt
                     obtain ⟨q0, q1, q2⟩ := Box.three hk2
                     have f0 := hk2.frozen 0
                     have f1 := hk2.frozen 1
                     have f2 := hk2.frozen 2)
        obtain ⟨S, hS, ⟨u0, u1, u2⟩, hb⟩ := hk2.stored3 (.int .i64 0) (.int .i64 0) (.slice none 0 0)
        rw [hS]
        have hB2 := HK.out.2.trans ((b1.mono HK.out.2.size).trans (hb w.heap.size (by omega)))
        exact bodyPost_ret (by simp [results, Tryd.results16, go_sem, u0, u1, u2]) rfl ⟨rfl, hB2⟩
    · replace hm := Lib.hid hm
      clear h
      go_enter Tryd.func16, Tryd.ntmps16
      go_wp2_with (go_at_call 18; rw [hW.out]; with_reducible refine Calls.mono (cM.out _) ?_; rintro e w1 ⟨rfl, b1⟩
                   obtain ⟨z0, z1, z2⟩ := Box.three (HK.out.1.1.below b1 HK.out.1.1.lt)
                   have hk2 := HK.out.1.2.below b1 HK.out.1.2.lt
                   obtain ⟨q0, q1, q2⟩ := Box.three hk2
                   have f0 := hk2.frozen 0
                   have f1 := hk2.frozen 1
                   have f2 := hk2.frozen 2)
      obtain ⟨S, hS, ⟨u0, u1, u2⟩, hb⟩ := hk2.stored3 (.int .i64 0) (.int .i64 0) (.slice none 0 0)
      rw [hS]
      have hB2 := HK.out.2.trans ((b1.mono HK.out.2.size).trans (hb w.heap.size (by omega)))
      exact bodyPost_ret (by simp [results, Tryd.results16, go_sem, u0, u1, u2]) rfl ⟨rfl, hB2⟩
  · rw [show mayR r = false by simp [mayR, hm]] at cM
    replace cM := Lib.hid cM
    replace hm := Lib.hid hm
    clear h
    go_enter Tryd.func16, Tryd.ntmps16
    go_wp2_with (go_at_call 18; rw [hW.out]; with_reducible refine Calls.mono (cM.out _) ?_; rintro e w1 ⟨rfl, b1⟩
                 obtain ⟨z0, z1, z2⟩ := Box.three (HK.out.1.1.below b1 HK.out.1.1.lt)
                 have hk2 := HK.out.1.2.below b1 HK.out.1.2.lt
                 obtain ⟨q0, q1, q2⟩ := Box.three hk2
                 have f0 := hk2.frozen 0
                 have f1 := hk2.frozen 1
                 have f2 := hk2.frozen 2)
    obtain ⟨S, hS, ⟨u0, u1, u2⟩, hb⟩ := hk2.stored3 (.int .i64 0) (.int .i64 0) (.slice none 0 0)
    rw [hS]
    have hB2 := HK.out.2.trans ((b1.mono HK.out.2.size).trans (hb w.heap.size (by omega)))
    exact bodyPost_ret (by simp [results, Tryd.results16, go_sem, u0, u1, u2]) rfl ⟨rfl, hB2⟩
instance (r : Ras) (x y u v : Int) : Decidable (CropOk r x y u v) := by unfold CropOk; infer_instance
def cropR (r : Ras) (x y u v : Int) : Ras := if CropOk r x y u v then ⟨u, v, cropTo r x y u.toNat v.toNat 0⟩ else ras0
def cropE (r : Ras) (x y u v : Int) : Int := if CropOk r x y u v then 0 else 2
theorem ref9_Crop (r : Ras) (p : Option Addr) (c : Nat) (x y u v : Int) (hR : RasOk r) (w : World) (hq : RdV w w.heap.size p (rowCells r.pix)) :
    Calls Tryd.prog 16 #[rasV r p c, .int .i64 x, .int .i64 y, .int .i64 u, .int .i64 v] w fun e w' => (∃ p c, e = .returned (.tuple #[rasV (cropR r x y u v) p c, .int .i64 (cropE r x y u v)]) ∧ RdV w' w'.heap.size p (rowCells (cropR r x y u v).pix)) ∧ Below w.heap.size w w' := by
  unfold cropR cropE
  by_cases h : CropOk r x y u v
  · rw [if_pos h, if_pos h]
    exact ref9_CropOk r p c x y u v h w hq
  · rw [if_neg h, if_neg h]
    refine Calls.mono (ref9_CropNo r p c x y u v hR h w) ?_
    rintro e w' ⟨rfl, hb⟩
    exact ⟨⟨none, 0, rfl, RdV.nil _ _ _⟩, hb⟩
end Go.Proofs.YtchfbpgbojnakaaDoor
/- Rasters: where two differ first, the document's own. -/

namespace Go.Proofs.YtchfbpgbojnakaaDoor
open Go.RowKit

/-- alike in all rows before the row Y, and in Y up to X -/
def SeenTo (a b : Ras) (U Y X : Nat) : Prop := ∀ y x : Nat, (y < Y ∧ x < U) ∨ (y = Y ∧ x < X) → cAt a x y = cAt b x y
theorem SeenTo.next {a b : Ras} {U Y X : Nat} (h : SeenTo a b U Y X) (he : cAt a X Y = cAt b X Y) : SeenTo a b U Y (X + 1) := by
  intro y x hxy
  rcases hxy with hxy | ⟨rfl, hx⟩
  · exact h y x (.inl hxy)
  · by_cases hx' : x < X
    · exact h y x (.inr ⟨rfl, hx'⟩)
    · obtain rfl : x = X := by omega
      exact he
theorem SeenTo.row {a b : Ras} {U Y : Nat} (h : SeenTo a b U Y U) : SeenTo a b U (Y + 1) 0 := by
  intro y x hxy
  rcases hxy with ⟨hy, hx⟩ | ⟨rfl, hx⟩
  · by_cases hy' : y < Y
    · exact h y x (.inl ⟨hy', hx⟩)
    · exact h y x (.inr ⟨by omega, hx⟩)
  · omega
/-- a call's colour is put into a box -/
theorem col_made {A wr w4 : World} {B : Nat} (cc : Col) (hB : Below B A wr) (b4 : Below wr.heap.size wr w4) (hBw : B ≤ wr.heap.size) :
    Box (w4.alloc (.cells #[.int .u8 (cc.r.toNat : Int), .int .u8 (cc.g.toNat : Int), .int .u8 (cc.b.toNat : Int), .int .u8 (cc.a.toNat : Int)] 41)) w4.heap.size 41 [.int .u8 (cc.r.toNat : Int), .int .u8 (cc.g.toNat : Int), .int .u8 (cc.b.toNat : Int), .int .u8 (cc.a.toNat : Int)] ∧
    w4.heap.size < (w4.alloc (.cells #[.int .u8 (cc.r.toNat : Int), .int .u8 (cc.g.toNat : Int), .int .u8 (cc.b.toNat : Int), .int .u8 (cc.a.toNat : Int)] 41)).heap.size ∧
    Below B A (w4.alloc (.cells #[.int .u8 (cc.r.toNat : Int), .int .u8 (cc.g.toNat : Int), .int .u8 (cc.b.toNat : Int), .int .u8 (cc.a.toNat : Int)] 41)) := by
  have hs := b4.size
  exact ⟨Box.new w4 _ [.int .u8 (cc.r.toNat : Int), .int .u8 (cc.g.toNat : Int), .int .u8 (cc.b.toNat : Int), .int .u8 (cc.a.toNat : Int)], by simp, (hB.trans (b4.mono hBw)).alloc (by omega) _⟩
/-- two rasters that may be held against each other -/
def Alike (a b : Ras) : Prop := RMay a ∧ RMay b ∧ a.w = b.w ∧ a.h = b.h
/-- where they differ first -/
def IsDiff (a b : Ras) (x y : Int) (d : Bool) : Prop :=
  (d = true ∧ ∃ X Y : Nat, x = X ∧ y = Y ∧ (X : Int) < a.w ∧ (Y : Int) < a.h ∧ SeenTo a b a.w.toNat Y X ∧ cAt a X Y ≠ cAt b X Y) ∨ (d = false ∧ x = 0 ∧ y = 0 ∧ SeenTo a b a.w.toNat a.h.toNat 0)

set_option maxRecDepth 10000 in
set_option maxHeartbeats 3200000 in
theorem ref9_DifferOk (a b : Ras) (p q : Option Addr) (c d : Nat) (h : Alike a b) (w : World) (ha : RdV w w.heap.size p (rowCells a.pix)) (hb : RdV w w.heap.size q (rowCells b.pix)) :
    Calls Tryd.prog 22 #[rasV a p c, rasV b q d] w fun e w' => (∃ x y d, e = .returned (.tuple #[.int .i64 x, .int .i64 y, .bool d]) ∧ IsDiff a b x y d) ∧ Below w.heap.size w w' := by
  obtain ⟨hA, hB, hw, hh⟩ := h
  have ok : ∀ r : Ras, RMay r → RasOk r := fun r hR => by obtain ⟨⟨a1, a2⟩, ⟨a3, a4⟩, a5⟩ := hR; have := side_mul ⟨a1, a2⟩ ⟨a3, a4⟩; exact ⟨⟨by omega, by omega⟩, ⟨by omega, by omega⟩, by omega⟩
  have cM := fun V => ref9_May a p c (ok a hA) V
  have cN := fun V => ref9_May b q d (ok b hB) V
  rw [show mayR a = true by simp [mayR, hA]] at cM
  rw [show mayR b = true by simp [mayR, hB]] at cN
  have at_ : ∀ (r : Ras) (p : Option Addr) (c : Nat), RMay r → ∀ (V : World) (x y : Int), (-9223372036854775808 ≤ x ∧ x ≤ 9223372036854775807) → (-9223372036854775808 ≤ y ∧ y ≤ 9223372036854775807) → RdV V V.heap.size p (rowCells r.pix) →
      Calls Tryd.prog 14 #[rasV r p c, .int .i64 x, .int .i64 y] V fun e w' => (∃ (cc : Col) (d : Bool), Hid (cAt r x y = cc) ∧ e = .returned (.tuple #[.agg #[.int .u8 (cc.r.toNat : Int), .int .u8 (cc.g.toNat : Int), .int .u8 (cc.b.toNat : Int), .int .u8 (cc.a.toNat : Int)], .bool d])) ∧ Below V.heap.size V w' := fun r p c hR V a b h1 h2 hq => by
    refine Calls.mono (ref9_At r p c a b (ok r hR) h1 h2 V hq) ?_
    rintro e w' ⟨rfl, hb⟩
    exact ⟨⟨_, _, Lib.hid rfl, rfl⟩, hb⟩
  have cA := at_ a p c hA
  have cB := at_ b q d hB
  clear at_ ok
  obtain ⟨W, hW, ⟨k1, k2⟩, B0⟩ := ras_two (w := w) a b p q c d
  obtain ⟨⟨a1, a2⟩, ⟨a3, a4⟩, -⟩ := hA
  clear hB
  obtain ⟨U, hU⟩ : ∃ U : Nat, a.w = U := ⟨a.w.toNat, by omega⟩
  obtain ⟨T, hT⟩ : ∃ T : Nat, a.h = T := ⟨a.h.toNat, by omega⟩
  have HI := Lib.hid (show ∀ (x y : Int) (d : Bool), ((d = true ∧ ∃ X Y : Nat, x = X ∧ y = Y ∧ X < U ∧ Y < T ∧ SeenTo a b U Y X ∧ cAt a X Y ≠ cAt b X Y) ∨ (d = false ∧ x = 0 ∧ y = 0 ∧ SeenTo a b U T 0)) → IsDiff a b x y d from fun x y d h => by
    unfold IsDiff
    rw [hU, hT]
    rcases h with ⟨h1, X, Y, h2, h3, h4, h5, h6⟩ | h
    · exact .inl ⟨h1, X, Y, h2, h3, by omega, by omega, by simpa using h6⟩
    · exact .inr (by simpa using h))
  replace ha := Lib.hid (And.intro ha hb)
  clear hb
  unfold rasV at *
  rw [← hw, ← hh] at hW k2 cN cB ⊢
  rw [hU, hT] at hW k1 k2 cM cN cA cB ⊢
  clear hw hh
  rw [hU] at a1 a2
  rw [hT] at a3 a4
  clear hU hT
  replace cM := Lib.hid cM
  replace cN := Lib.hid cN
  replace cA := Lib.hid cA
  replace cB := Lib.hid cB
  have HK := Lib.hid (And.intro (And.intro k1 k2) B0)
  clear k1 k2 B0
  replace hW := Lib.hid hW
  go_enter Tryd.func22, Tryd.ntmps22
  go_wp2_with first
    | (go_at_call 18; rw [hW.out]; with_reducible refine Calls.mono (cM.out _) ?_; rintro e w1 ⟨rfl, b1⟩
       have hk1 := Lib.hid (HK.out.1.1.below b1 HK.out.1.1.lt)
       have hk2 := Lib.hid (HK.out.1.2.below b1 HK.out.1.2.lt)
       have hk3 := Lib.hid (HK.out.2.trans (b1.mono HK.out.2.size))
       clear b1
       obtain ⟨z0, z1, z2⟩ := Box.three hk1.out
       obtain ⟨y0, y1, y2⟩ := Box.three hk2.out)
    | (go_at_call 18; with_reducible refine Calls.mono (cN.out _) ?_; rintro e w2 ⟨rfl, b2⟩
       replace hk1 := Lib.hid (hk1.out.below b2 hk1.out.lt)
       replace hk2 := Lib.hid (hk2.out.below b2 hk2.out.lt)
       replace hk3 := Lib.hid (hk3.out.trans (b2.mono hk3.out.size))
       clear b2 z0 z1 z2 y0 y1 y2
       obtain ⟨z0, z1, z2⟩ := Box.three hk1.out
       obtain ⟨y0, y1, y2⟩ := Box.three hk2.out)
  clear cM cN z0 z1 z2 y0 y1 y2
  have S0 := Lib.hid (show SeenTo a b U 0 0 from fun y x h => by omega)
  go_loopg [7] T (fun gh it wr => ∃ Y : Nat, it = .int .i64 (Y : Int) ∧ gh + Y = T ∧ SeenTo a b U Y 0 ∧ Below w2.heap.size w2 wr)
  case atStart => exact ⟨0, rfl, by omega, S0.out, Below.refl _ _⟩
  case round =>
    obtain ⟨Y, rfl, hg, hs, hB⟩ := hrel
    replace hs := Lib.hid hs
    obtain ⟨z0, z1, z2⟩ := Box.three (hk1.out.below hB hk1.out.lt)
    replace hB := Lib.hid hB
    by_cases hlt : Y < T
    · have hil : (Y : Int) < (T : Int) := by omega
      go_wp2_with fail
      clear z0 z1 z2
      go_loopg [8] U (fun gi it wi => ∃ X : Nat, it = .int .i64 (X : Int) ∧ gi + X = U ∧ SeenTo a b U Y X ∧ Below w2.heap.size w2 wi)
      case atStart => exact ⟨0, rfl, by omega, hs.out, hB.out⟩
      case round =>
        clear hs hB
        obtain ⟨X, rfl, hgi, hs, hB⟩ := hrel
        replace hs := Lib.hid hs
        obtain ⟨z0, z1, z2⟩ := Box.three (hk1.out.below hB hk1.out.lt)
        replace hB := Lib.hid hB
        by_cases hlti : X < U
        · have hili : (X : Int) < (U : Int) := by omega
          have hw0 := Lib.hid (hk3.out.trans (hB.out.mono hk3.out.size))
          go_upto_region 10 with (go_at_call 14; with_reducible refine Calls.mono (cA.out _ _ _ (by constructor <;> omega) (by constructor <;> omega) ((ha.out.1.below hw0.out).mono hw0.out.size)) ?_; rintro e w4 ⟨⟨cc, t, hcc, rfl⟩, b4⟩)
          clear z0 z1 z2
          obtain ⟨c4, h54, hB5⟩ := col_made cc hB.out b4 hB.out.size
          generalize w4.alloc (.cells #[.int .u8 (cc.r.toNat : Int), .int .u8 (cc.g.toNat : Int), .int .u8 (cc.b.toNat : Int), .int .u8 (cc.a.toNat : Int)] 41) = w5 at c4 h54 hB5 ⊢
          clear b4 hB hw0
          replace hB5 := Lib.hid hB5
          obtain ⟨z0, z1, z2⟩ := Box.three (hk2.out.below hB5.out hk2.out.lt)
          have hw0 := Lib.hid (hk3.out.trans (hB5.out.mono hk3.out.size))
          replace c4 := Lib.hid (And.intro c4 h54)
          clear h54
          go_upto_region 11 with (go_at_call 14; with_reducible refine Calls.mono (cB.out _ _ _ (by constructor <;> omega) (by constructor <;> omega) ((ha.out.2.below hw0.out).mono hw0.out.size)) ?_; rintro e w6 ⟨⟨dd, t', hdd, rfl⟩, b6⟩)
          clear z0 z1 z2 hw0
          obtain ⟨d4, h76, hB7⟩ := col_made dd hB5.out b6 hB5.out.size
          have c6 := (c4.out.1.below b6 c4.out.2).alloc (.cells #[.int .u8 (dd.r.toNat : Int), .int .u8 (dd.g.toNat : Int), .int .u8 (dd.b.toNat : Int), .int .u8 (dd.a.toNat : Int)] 41)
          generalize w6.alloc (.cells #[.int .u8 (dd.r.toNat : Int), .int .u8 (dd.g.toNat : Int), .int .u8 (dd.b.toNat : Int), .int .u8 (dd.a.toNat : Int)] 41) = w7 at d4 h76 hB7 c6 ⊢
          clear b6 hB5
          have hs4 := c4.out.2
          replace hB7 := Lib.hid hB7
          obtain ⟨⟨e0, e1, e2, e3⟩, -⟩ := Box.four c6
          obtain ⟨⟨e0', e1', e2', e3'⟩, -⟩ := Box.four d4
          clear c4 c6 d4 h76 hs4
          have HNX := Lib.hid (fun (h : cc = dd) => hs.out.next (by rw [hcc.out, hdd.out, h]))
          have HNO := Lib.hid (fun (h : ¬ cc = dd) => HI.out X Y true (.inl ⟨rfl, X, Y, rfl, rfl, hlti, hlt, hs.out, by rw [hcc.out, hdd.out]; exact h⟩))
          by_cases nr : cc.r = dd.r
          · by_cases ng : cc.g = dd.g
            · by_cases nb : cc.b = dd.b
              · by_cases na : cc.a = dd.a
                · obtain rfl : cc = dd := Col.same.2 ⟨nr, ng, nb, na⟩
                  replace HNX := Lib.hid (HNX.out rfl)
                  clear HNO nr ng nb na
                  go_wp2_with fail
                  go_roundg (U - (X + 1))
                  case measure => omega
                  case rel => exact ⟨X + 1, by simp, by omega, HNX.out, hB7.out⟩
                · skip
                  have na' : ¬ (cc.a.toNat : Int) = (dd.a.toNat : Int) := fun e => na (UInt8.toNat_inj.1 (by omega))
                  rw [nr] at e0
                  rw [ng] at e1
                  rw [nb] at e2
                  go_wp2_with fail
                  go_ret3
                  exact ⟨⟨_, _, true, rfl, HNO.out (fun e => na (by rw [e]))⟩, hk3.out.trans (hB7.out.mono hk3.out.size)⟩
              · skip
                have nb' : ¬ (cc.b.toNat : Int) = (dd.b.toNat : Int) := fun e => nb (UInt8.toNat_inj.1 (by omega))
                rw [nr] at e0
                rw [ng] at e1
                go_wp2_with fail
                go_ret3
                exact ⟨⟨_, _, true, rfl, HNO.out (fun e => nb (by rw [e]))⟩, hk3.out.trans (hB7.out.mono hk3.out.size)⟩
            · skip
              have ng' : ¬ (cc.g.toNat : Int) = (dd.g.toNat : Int) := fun e => ng (UInt8.toNat_inj.1 (by omega))
              rw [nr] at e0
              go_wp2_with fail
              go_ret3
              exact ⟨⟨_, _, true, rfl, HNO.out (fun e => ng (by rw [e]))⟩, hk3.out.trans (hB7.out.mono hk3.out.size)⟩
          · skip
            have nr' : ¬ (cc.r.toNat : Int) = (dd.r.toNat : Int) := fun e => nr (UInt8.toNat_inj.1 (by omega))
            go_wp2_with fail
            go_ret3
            exact ⟨⟨_, _, true, rfl, HNO.out (fun e => nr (by rw [e]))⟩, hk3.out.trans (hB7.out.mono hk3.out.size)⟩
        · obtain rfl : X = U := by omega
          go_wp2_with fail
          go_roundg (T - (Y + 1))
          case measure => omega
          case rel => exact ⟨Y + 1, by simp, by omega, hs.out.row, hB.out⟩
    · obtain rfl : Y = T := by omega
      go_wp2_with fail
      go_ret3
      exact ⟨⟨0, 0, false, rfl, HI.out 0 0 false (.inr ⟨rfl, rfl, rfl, hs.out⟩)⟩, hk3.out.trans (hB.out.mono hk3.out.size)⟩

set_option maxRecDepth 10000 in
set_option maxHeartbeats 3200000 in
theorem ref9_DifferNo (a b : Ras) (p q : Option Addr) (c d : Nat) (hA : RasOk a) (hB : RasOk b) (h : ¬ Alike a b) (w : World) (ha : RdV w w.heap.size p (rowCells a.pix)) (hb : RdV w w.heap.size q (rowCells b.pix)) :
    Calls Tryd.prog 22 #[rasV a p c, rasV b q d] w fun e w' => (∃ d, e = .returned (.tuple #[.int .i64 0, .int .i64 0, .bool d]) ∧ (d = true ↔ ¬ a = b)) ∧ Below w.heap.size w w' := by
  have cM := fun V => ref9_May a p c hA V
  have cN := fun V => ref9_May b q d hB V
  have cS := Lib.hid (fun V h1 h2 => ref9_Same a b p q c d V h1 h2 hA.2.2)
  obtain ⟨W, hW, ⟨k1, k2⟩, B0⟩ := ras_two (w := w) a b p q c d
  replace ha := Lib.hid (And.intro ha hb)
  have HK := Lib.hid (And.intro (And.intro k1 k2) B0)
  clear k1 k2 B0 hb hA hB
  replace hW := Lib.hid hW
  unfold TellsIt at cS
  unfold rasV at *
  by_cases h1 : RMay a
  · rw [show mayR a = true by simp [mayR, h1]] at cM
    by_cases h2 : RMay b
    · rw [show mayR b = true by simp [mayR, h2]] at cN
      replace cM := Lib.hid cM
      replace cN := Lib.hid cN
      by_cases h3 : a.w = b.w
      · have h4 : ¬ a.h = b.h := fun h4 => h ⟨h1, h2, h3, h4⟩
        replace h1 := Lib.hid h1
        replace h2 := Lib.hid h2
        rw [h3] at hW HK cM cS ⊢
        clear h3
        clear h
        go_enter Tryd.func22, Tryd.ntmps22
        go_wp2_with first
          | (go_at_call 18; rw [hW.out]; with_reducible refine Calls.mono (cM.out _) ?_; rintro e w1 ⟨rfl, b1⟩
             have hk1 := Lib.hid (HK.out.1.1.below b1 HK.out.1.1.lt)
             have hk2 := Lib.hid (HK.out.1.2.below b1 HK.out.1.2.lt)
             have hk3 := Lib.hid (HK.out.2.trans (b1.mono HK.out.2.size))
             clear b1
             obtain ⟨z0, z1, z2⟩ := Box.three hk1.out
             obtain ⟨y0, y1, y2⟩ := Box.three hk2.out)
          | (go_at_call 18; with_reducible refine Calls.mono (cN.out _) ?_; rintro e w2 ⟨rfl, b2⟩
             replace hk1 := Lib.hid (hk1.out.below b2 hk1.out.lt)
             replace hk2 := Lib.hid (hk2.out.below b2 hk2.out.lt)
             replace hk3 := Lib.hid (hk3.out.trans (b2.mono hk3.out.size))
             clear b2 z0 z1 z2 y0 y1 y2
             obtain ⟨z0, z1, z2⟩ := Box.three hk1.out
             obtain ⟨y0, y1, y2⟩ := Box.three hk2.out)
          | (go_at_call 11; with_reducible refine Calls.mono (cS.out _ ((ha.out.1.below hk3.out).mono hk3.out.size) ((ha.out.2.below hk3.out).mono hk3.out.size)) ?_; rintro e w3 ⟨⟨t, rfl, ht⟩, b3⟩; replace ht := Lib.hid ht)
        go_ret3
        exact ⟨⟨_, rfl, by have := ht.out; cases t <;> simp_all⟩, hk3.out.trans (b3.mono hk3.out.size)⟩
      · replace h1 := Lib.hid h1
        replace h2 := Lib.hid h2
        clear h
        go_enter Tryd.func22, Tryd.ntmps22
        go_wp2_with first
          | (go_at_call 18; rw [hW.out]; with_reducible refine Calls.mono (cM.out _) ?_; rintro e w1 ⟨rfl, b1⟩
             have hk1 := Lib.hid (HK.out.1.1.below b1 HK.out.1.1.lt)
             have hk2 := Lib.hid (HK.out.1.2.below b1 HK.out.1.2.lt)
             have hk3 := Lib.hid (HK.out.2.trans (b1.mono HK.out.2.size))
             clear b1
             obtain ⟨z0, z1, z2⟩ := Box.three hk1.out
             obtain ⟨y0, y1, y2⟩ := Box.three hk2.out)
          | (go_at_call 18; with_reducible refine Calls.mono (cN.out _) ?_; rintro e w2 ⟨rfl, b2⟩
             replace hk1 := Lib.hid (hk1.out.below b2 hk1.out.lt)
             replace hk2 := Lib.hid (hk2.out.below b2 hk2.out.lt)
             replace hk3 := Lib.hid (hk3.out.trans (b2.mono hk3.out.size))
             clear b2 z0 z1 z2 y0 y1 y2
             obtain ⟨z0, z1, z2⟩ := Box.three hk1.out
             obtain ⟨y0, y1, y2⟩ := Box.three hk2.out)
          | (go_at_call 11; with_reducible refine Calls.mono (cS.out _ ((ha.out.1.below hk3.out).mono hk3.out.size) ((ha.out.2.below hk3.out).mono hk3.out.size)) ?_; rintro e w3 ⟨⟨t, rfl, ht⟩, b3⟩; replace ht := Lib.hid ht)
        go_ret3
        exact ⟨⟨_, rfl, by have := ht.out; cases t <;> simp_all⟩, hk3.out.trans (b3.mono hk3.out.size)⟩
    · rw [show mayR b = false by simp [mayR, h2]] at cN
      replace cM := Lib.hid cM
      replace cN := Lib.hid cN
      replace h1 := Lib.hid h1
      replace h2 := Lib.hid h2
      clear h
      go_enter Tryd.func22, Tryd.ntmps22
      go_wp2_with first
        | (go_at_call 18; rw [hW.out]; with_reducible refine Calls.mono (cM.out _) ?_; rintro e w1 ⟨rfl, b1⟩
           have hk1 := Lib.hid (HK.out.1.1.below b1 HK.out.1.1.lt)
           have hk2 := Lib.hid (HK.out.1.2.below b1 HK.out.1.2.lt)
           have hk3 := Lib.hid (HK.out.2.trans (b1.mono HK.out.2.size))
           clear b1
           obtain ⟨z0, z1, z2⟩ := Box.three hk1.out
           obtain ⟨y0, y1, y2⟩ := Box.three hk2.out)
        | (go_at_call 18; with_reducible refine Calls.mono (cN.out _) ?_; rintro e w2 ⟨rfl, b2⟩
           replace hk1 := Lib.hid (hk1.out.below b2 hk1.out.lt)
           replace hk2 := Lib.hid (hk2.out.below b2 hk2.out.lt)
           replace hk3 := Lib.hid (hk3.out.trans (b2.mono hk3.out.size))
           clear b2 z0 z1 z2 y0 y1 y2
           obtain ⟨z0, z1, z2⟩ := Box.three hk1.out
           obtain ⟨y0, y1, y2⟩ := Box.three hk2.out)
        | (go_at_call 11; with_reducible refine Calls.mono (cS.out _ ((ha.out.1.below hk3.out).mono hk3.out.size) ((ha.out.2.below hk3.out).mono hk3.out.size)) ?_; rintro e w3 ⟨⟨t, rfl, ht⟩, b3⟩; replace ht := Lib.hid ht)
      go_ret3
      exact ⟨⟨_, rfl, by have := ht.out; cases t <;> simp_all⟩, hk3.out.trans (b3.mono hk3.out.size)⟩
  · rw [show mayR a = false by simp [mayR, h1]] at cM
    replace cM := Lib.hid cM
    replace cN := Lib.hid cN
    replace h1 := Lib.hid h1
    clear h
    go_enter Tryd.func22, Tryd.ntmps22
    go_wp2_with first
      | (go_at_call 18; rw [hW.out]; with_reducible refine Calls.mono (cM.out _) ?_; rintro e w1 ⟨rfl, b1⟩
         have hk1 := Lib.hid (HK.out.1.1.below b1 HK.out.1.1.lt)
         have hk2 := Lib.hid (HK.out.1.2.below b1 HK.out.1.2.lt)
         have hk3 := Lib.hid (HK.out.2.trans (b1.mono HK.out.2.size))
         clear b1
         obtain ⟨z0, z1, z2⟩ := Box.three hk1.out
         obtain ⟨y0, y1, y2⟩ := Box.three hk2.out)
      | (go_at_call 18; with_reducible refine Calls.mono (cN.out _) ?_; rintro e w2 ⟨rfl, b2⟩
         replace hk1 := Lib.hid (hk1.out.below b2 hk1.out.lt)
         replace hk2 := Lib.hid (hk2.out.below b2 hk2.out.lt)
         replace hk3 := Lib.hid (hk3.out.trans (b2.mono hk3.out.size))
         clear b2 z0 z1 z2 y0 y1 y2
         obtain ⟨z0, z1, z2⟩ := Box.three hk1.out
         obtain ⟨y0, y1, y2⟩ := Box.three hk2.out)
      | (go_at_call 11; with_reducible refine Calls.mono (cS.out _ ((ha.out.1.below hk3.out).mono hk3.out.size) ((ha.out.2.below hk3.out).mono hk3.out.size)) ?_; rintro e w3 ⟨⟨t, rfl, ht⟩, b3⟩; replace ht := Lib.hid ht)
    go_ret3
    exact ⟨⟨_, rfl, by have := ht.out; cases t <;> simp_all⟩, hk3.out.trans (b3.mono hk3.out.size)⟩
/-- what Differ answers -/
def IsDiffer (a b : Ras) (x y : Int) (d : Bool) : Prop := (Alike a b ∧ IsDiff a b x y d) ∨ (¬ Alike a b ∧ x = 0 ∧ y = 0 ∧ (d = true ↔ ¬ a = b))
theorem IsDiff.unique {a b : Ras} {x y x' y' : Int} {d d' : Bool} (h : IsDiff a b x y d) (h' : IsDiff a b x' y' d') : x = x' ∧ y = y' ∧ d = d' := by
  rcases h with ⟨rfl, X, Y, rfl, rfl, h1, h2, h3, h4⟩ | ⟨rfl, rfl, rfl, h3⟩ <;> rcases h' with ⟨rfl, X', Y', rfl, rfl, h1', h2', h3', h4'⟩ | ⟨rfl, rfl, rfl, h3'⟩
  · have n1 : ¬ ((Y < Y' ∧ X < a.w.toNat) ∨ (Y = Y' ∧ X < X')) := fun e => h4 (h3' Y X e)
    have n2 : ¬ ((Y' < Y ∧ X' < a.w.toNat) ∨ (Y' = Y ∧ X' < X)) := fun e => h4' (h3 Y' X' e)
    refine ⟨?_, ?_, rfl⟩ <;> omega
  · exact absurd (h3' Y X (.inl ⟨by omega, by omega⟩)) h4
  · exact absurd (h3 Y' X' (.inl ⟨by omega, by omega⟩)) h4'
  · exact ⟨rfl, rfl, rfl⟩
theorem IsDiffer.unique {a b : Ras} {x y x' y' : Int} {d d' : Bool} (h : IsDiffer a b x y d) (h' : IsDiffer a b x' y' d') : x = x' ∧ y = y' ∧ d = d' := by
  rcases h with ⟨h1, h2⟩ | ⟨h1, rfl, rfl, h2⟩ <;> rcases h' with ⟨h1', h2'⟩ | ⟨h1', rfl, rfl, h2'⟩
  · exact h2.unique h2'
  · exact absurd h1 h1'
  · exact absurd h1' h1
  · refine ⟨rfl, rfl, ?_⟩
    cases d <;> cases d' <;> simp_all
/-- a raster does not differ from itself -/
theorem IsDiffer.own {a : Ras} {x y : Int} {d : Bool} (h : IsDiffer a a x y d) : d = false := by
  rcases h with ⟨_, ⟨_, X, Y, _, _, _, _, _, h⟩ | ⟨h, _⟩⟩ | ⟨_, _, _, h⟩
  · exact absurd rfl h
  · exact h
  · cases d
    · rfl
    · exact absurd rfl (h.1 rfl)
theorem ref9_Differ (a b : Ras) (p q : Option Addr) (c d : Nat) (hA : RasOk a) (hB : RasOk b) (w : World) (ha : RdV w w.heap.size p (rowCells a.pix)) (hb : RdV w w.heap.size q (rowCells b.pix)) :
    Calls Tryd.prog 22 #[rasV a p c, rasV b q d] w fun e w' => (∃ x y d, e = .returned (.tuple #[.int .i64 x, .int .i64 y, .bool d]) ∧ IsDiffer a b x y d) ∧ Below w.heap.size w w' := by
  by_cases h : Alike a b
  · refine Calls.mono (ref9_DifferOk a b p q c d h w ha hb) ?_
    rintro e w' ⟨⟨x, y, d, rfl, hd⟩, hw⟩
    exact ⟨⟨x, y, d, rfl, .inl ⟨h, hd⟩⟩, hw⟩
  · refine Calls.mono (ref9_DifferNo a b p q c d hA hB h w ha hb) ?_
    rintro e w' ⟨⟨d, rfl, hd⟩, hw⟩
    exact ⟨⟨0, 0, d, rfl, .inr ⟨h, rfl, rfl, hd⟩⟩, hw⟩
end Go.Proofs.YtchfbpgbojnakaaDoor
