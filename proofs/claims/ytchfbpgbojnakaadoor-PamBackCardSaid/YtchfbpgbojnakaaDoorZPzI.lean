/- Rasters: a file is written, the program's own Write. Written by gen/genpbh.py. -/
import Derived.Test.YtchfbpgbojnakaaDoorZPzE
import Derived.Test.YtchfbpgbojnakaaDoorZPzG
import Derived.Test.YtchfbpgbojnakaaDoorZPzB
import Derived.Test.YtchfbpgbojnakaaDoorZPzC
import Derived.Test.YtchfbpgbojnakaaDoorZPzD
import Derived.Test.YtchfbpgbojnakaaDoorZPzF
import Derived.Test.YtchfbpgbojnakaaDoorZPzH
namespace Go.Proofs.YtchfbpgbojnakaaDoor
open Go.RowKit

theorem col_box (w : World) (cc : Col) : ∃ W3, w.alloc (.cells #[.int .u8 (cc.r.toNat : Int), .int .u8 (cc.g.toNat : Int), .int .u8 (cc.b.toNat : Int), .int .u8 (cc.a.toNat : Int)] 41) = W3 ∧ Box W3 w.heap.size 41 [.int .u8 (cc.r.toNat : Int), .int .u8 (cc.g.toNat : Int), .int .u8 (cc.b.toNat : Int), .int .u8 (cc.a.toNat : Int)] ∧ Below w.heap.size w W3 :=
  ⟨_, rfl, Box.new w 41 [.int .u8 (cc.r.toNat : Int), .int .u8 (cc.g.toNat : Int), .int .u8 (cc.b.toNat : Int), .int .u8 (cc.a.toNat : Int)], (Below.refl _ _).alloc (Nat.le_refl _) _⟩

set_option maxRecDepth 10000 in
set_option maxHeartbeats 3200000 in
theorem pam_WriteOk (r : Ras) (p : Option Addr) (c : Nat) (hR : RMay r) (w : World) (hq : RdV w w.heap.size p (rowCells r.pix)) (hH : Heads w) (hT : Tab w) :
    Calls Tryd.prog 7 #[rasV r p c] w fun e w' => (∃ p c, e = .returned (.tuple #[.slice p (fileOf r).length c, .int .i64 0]) ∧ (fileOf r).length ≤ c ∧ (p = none → c = 0) ∧ RdV w' w'.heap.size p (bcells (fileOf r))) ∧ Below w.heap.size w w' := by
  have hR' : RasOk r := by obtain ⟨⟨a1, a2⟩, ⟨a3, a4⟩, a5⟩ := hR; have := side_mul ⟨a1, a2⟩ ⟨a3, a4⟩; exact ⟨⟨by omega, by omega⟩, ⟨by omega, by omega⟩, by omega⟩
  obtain ⟨i0, hi, hz0, hz1, hz2⟩ := info_parts info_u8P
  have cM := fun V => pam_May r p c hR' V
  have cH := Lib.hid (fun V (h : Below w.heap.size w V) => pam_header r.w r.h hR'.1 hR'.2.1 V (hH.on h) (hT.on h))
  rw [show mayR r = true by simp [mayR, hR]] at cM
  obtain ⟨W, hW, HK⟩ : ∃ W, (w.alloc (.cells #[.int .i64 r.w, .int .i64 r.h, .slice p r.pix.length c] 24)) = W ∧ Hid (Box W w.heap.size 24 [.int .i64 r.w, .int .i64 r.h, .slice p r.pix.length c] ∧ Below w.heap.size w W) :=
    ⟨_, rfl, Lib.hid ⟨Box.new w _ [.int .i64 r.w, .int .i64 r.h, .slice p r.pix.length c], (Below.refl _ _).alloc (Nat.le_refl _) _⟩⟩
  replace hW := Lib.hid hW
  replace hq := Lib.hid hq
  replace hR := Lib.hid (And.intro hR hR')
  clear hR' hH hT
  unfold rasV at *
  replace cM := Lib.hid cM
  go_enter Tryd.func7, Tryd.ntmps7
  go_wp2_with first
    | (go_at_call 17; rw [hW.out]; with_reducible refine Calls.mono (cM.out _) ?_; rintro e w1 ⟨rfl, b1⟩
       have hk1 := Lib.hid (HK.out.1.below b1 HK.out.1.lt)
       have hk3 := Lib.hid (HK.out.2.trans (b1.mono HK.out.2.size))
       clear b1
       obtain ⟨z0, z1, z2⟩ := Box.three hk1.out)
    | (go_at_call 23; with_reducible refine Calls.mono (cH.out _ hk3.out) ?_; rintro e w2 ⟨⟨vh, rfl, ho0⟩, b2⟩
       have hl1 := hk1.out.lt
       have HB1 := Lib.hid hk1.out
       have HBK := Lib.hid hk3.out
       have hs1 := hk3.out.size
       replace hk1 := Lib.hid (hk1.out.below b2 hk1.out.lt)
       replace hk3 := Lib.hid (hk3.out.trans (b2.mono hk3.out.size))
       have hb2 := Lib.hid b2
       replace ho0 := Lib.hid ho0
       clear b2 z0 z1 z2
       obtain ⟨z0, z1, z2⟩ := Box.three hk1.out)
  have hhl := Lib.hid (head_len r.w r.h hR.out.2.1 hR.out.2.2.1)
  have hn4 : r.pix.length ≤ 4096 := by have := hR.out.1.2.2; have := side_mul hR.out.1.1 hR.out.1.2.1; omega
  obtain ⟨n, hn⟩ : ∃ n, r.pix.length = n := ⟨_, rfl⟩
  rw [hn] at hn4 hk1 z2 ⊢
  replace hn := Lib.hid hn
  clear z0 z1 z2 cM cH HK
  have HO := Lib.hid (show w2.ownsRow w1.heap.size 5 1 vh (headOf r.w r.h ++ bodyOf (r.pix.take 0)).length (bcells (headOf r.w r.h ++ bodyOf (r.pix.take 0))) by
    have e : headOf r.w r.h ++ bodyOf (r.pix.take 0) = headOf r.w r.h := by simp [bodyOf]
    rw [e]; exact ho0.out)
  clear ho0
  go_loopg [4, 6, 18] n (fun gh vv _ it wr => ∃ i : Nat, it = .int .i64 (i : Int) ∧ gh + i = n ∧ wr.ownsRow w1.heap.size 5 1 vv (headOf r.w r.h ++ bodyOf (r.pix.take i)).length (bcells (headOf r.w r.h ++ bodyOf (r.pix.take i))) ∧ Below w1.heap.size w1 wr)
  case atStart => exact ⟨0, rfl, by omega, HO.out, hb2.out⟩
  case round =>
    obtain ⟨i, rfl, hg, ho, hB⟩ := hrel
    have hk4 := Lib.hid (show Below w.heap.size w wr from by have := hk3.out; exact (HBK.out).trans (hB.mono hs1))
    obtain ⟨z0, z1, z2⟩ := Box.three (HB1.out.below hB hl1)
    replace ho := Lib.hid ho
    replace hB := Lib.hid hB
    by_cases hlt : i < n
    · have hil : (i : Int) < (n : Int) := by omega
      obtain ⟨g, o, rfl, hgl, e0, e1, e2, e3⟩ := (hq.out.below hk4.out).col (i := i) (by rw [hn.out]; exact hlt)
      have hlen : (headOf r.w r.h ++ bodyOf (r.pix.take i)).length ≤ 20000 := by
        rw [List.length_append, bodyOf_length, List.length_take]
        have := hhl.out
        omega
      obtain ⟨m, hm⟩ : ∃ m, (headOf r.w r.h ++ bodyOf (r.pix.take i)).length = m := ⟨_, rfl⟩
      rw [hm] at ho hlen
      have hnx := Lib.hid (show bcells (headOf r.w r.h ++ bodyOf (r.pix.take (i + 1))) = bcells (headOf r.w r.h ++ bodyOf (r.pix.take i)) ++ _ from body_step (headOf r.w r.h) r.pix i (by rw [hn.out]; exact hlt))
      generalize r.pix[i]'(by rw [hn.out]; exact hlt) = cc at e0 e1 e2 e3 hnx
      obtain ⟨W3, hW3, k9, b3⟩ := col_box wr cc
      obtain ⟨⟨c0, c1, c2, c3⟩, -⟩ := Box.four k9
      have ho3 := Lib.hid (own_below ho.out b3)
      have hB3 := Lib.hid (hB.out.trans (b3.mono hB.out.size))
      clear k9 b3 hm
      go_wp2_with (at_builtin; refine wpList_append_own _ rfl (.tmp 22) (.tmp 31) 25 rfl w1.heap.size 5 i0 (.int .u8 0) 1 1 Tryd.underlying25 hi hz0 hz1 hz2 rfl (by decide) _ m _ rfl (ho3.out.alloc _) ⟨W3.heap.size, 0, none⟩ 4 4 [.int .u8 (cc.r.toNat : Int), .int .u8 (cc.g.toNat : Int), .int .u8 (cc.b.toNat : Int), .int .u8 (cc.a.toNat : Int)] rfl rfl (World.news_of_block (cs := #[.int .u8 (cc.r.toNat : Int), .int .u8 (cc.g.toNat : Int), .int .u8 (cc.b.toNat : Int), .int .u8 (cc.a.toNat : Int)]) (t := 5) (fr := (0, 0)) (heap_alloc_new W3 _)) (by simp [Value.oneCell']) (by unfold maxLen; omega) (by omega) (by have := hB3.out.size; simp; omega) ?_; intro v4 w4 ho4 hg4 _
                   have hB4 := Lib.hid ((hB3.out.alloc hB3.out.size (.cells #[.int .u8 (cc.r.toNat : Int), .int .u8 (cc.g.toNat : Int), .int .u8 (cc.b.toNat : Int), .int .u8 (cc.a.toNat : Int)] 5)).grown hg4 (by have := hB3.out.size; simp; omega) (fun g e => (ho3.out.lt g e).1))
                   replace ho4 := Lib.hid ho4
                   clear hg4)
      go_roundg (n - (i + 1))
      case measure => omega
      case rel => exact ⟨i + 1, by simp, by omega, own_by ho4.out hnx.out, hB4.out⟩
    · obtain rfl : i = n := by omega
      have hfin : r.pix.take i = r.pix := List.take_of_length_le (by rw [hn.out]; exact Nat.le_refl _)
      have ho' := ho.out
      rw [hfin] at ho'
      obtain ⟨p', c', hv, h1, h2, h3⟩ := RdV.ofOwn ho'
      subst hv
      have HF := Lib.hid (And.intro h1 (And.intro h2 h3))
      clear h1 h2 h3 ho ho' hfin
      go_wp2_with fail
      go_ret2
      exact ⟨⟨p', c', rfl, HF.out.2⟩, hk4.out⟩

set_option maxRecDepth 10000 in
theorem pam_WriteNo (r : Ras) (p : Option Addr) (c : Nat) (hR' : RasOk r) (hR : ¬ RMay r) (w : World) :
    Calls Tryd.prog 7 #[rasV r p c] w fun e w' => e = .returned (.tuple #[.slice none 0 0, .int .i64 2]) ∧ Below w.heap.size w w' := by
  have cM := fun V => pam_May r p c hR' V
  rw [show mayR r = false by simp [mayR, hR]] at cM
  obtain ⟨W, hW, HK⟩ : ∃ W, (w.alloc (.cells #[.int .i64 r.w, .int .i64 r.h, .slice p r.pix.length c] 24)) = W ∧ Hid (Below w.heap.size w W) :=
    ⟨_, rfl, Lib.hid ((Below.refl _ _).alloc (Nat.le_refl _) _)⟩
  replace hW := Lib.hid hW
  replace hR := Lib.hid hR
  clear hR'
  unfold rasV at *
  replace cM := Lib.hid cM
  go_enter Tryd.func7, Tryd.ntmps7
  go_wp2_with (go_at_call 17; rw [hW.out]; with_reducible refine Calls.mono (cM.out _) ?_; rintro e w1 ⟨rfl, b1⟩)
  go_ret2
  exact ⟨rfl, HK.out.trans (b1.mono HK.out.size)⟩
theorem pam_Write (r : Ras) (p : Option Addr) (c : Nat) (hR : RasOk r) (w : World) (hq : RdV w w.heap.size p (rowCells r.pix)) (hH : Heads w) (hT : Tab w) :
    Calls Tryd.prog 7 #[rasV r p c] w fun e w' => (∃ p c, e = .returned (.tuple #[.slice p (writeB r).length c, .int .i64 (writeE r)]) ∧ (writeB r).length ≤ c ∧ (p = none → c = 0) ∧ RdV w' w'.heap.size p (bcells (writeB r))) ∧ Below w.heap.size w w' := by
  unfold writeB writeE
  by_cases h : RMay r
  · rw [if_pos h, if_pos h]
    exact pam_WriteOk r p c h w hq hH hT
  · rw [if_neg h, if_neg h]
    refine Calls.mono (pam_WriteNo r p c hR h w) ?_
    rintro e w' ⟨rfl, hb⟩
    exact ⟨⟨none, 0, rfl, Nat.le_refl _, fun _ => rfl, RdV.nil _ _ _⟩, hb⟩
end Go.Proofs.YtchfbpgbojnakaaDoor
/- Layer 9: its statements' own question: is a raster of one colour written. -/

namespace Go.Proofs.YtchfbpgbojnakaaDoor
open Go.RowKit

def one9 : Ras := ⟨1, 1, [⟨7, 0, 0, 9⟩]⟩
theorem one9_may : RMay one9 := by decide
theorem one9_ok : RasOk one9 := ⟨by decide, by decide, by decide⟩
theorem one9_len : (fileOf one9).length = 69 := by decide +kernel
theorem one9_a : (fileOf one9)[65]? = some 7 := by decide +kernel
theorem one9_b : (fileOf one9)[68]? = some 9 := by decide +kernel

/-- the tables that writing reads -/
def Env9 (w : World) : Prop := Heads w ∧ Tab w
theorem Env9.on {w w' : World} (h : Env9 w) (hb : Below w.heap.size w w') : Env9 w' := ⟨h.1.on hb, h.2.on hb⟩

set_option maxRecDepth 10000 in
set_option maxHeartbeats 1600000 in
theorem law9_lives (w : World) (hE : Env9 w) : Calls Tryd.prog 12 #[] w fun e w' => e = .returned (.bool true) ∧ Below w.heap.size w w' := by
  obtain ⟨hH, hT⟩ := hE
  have hB := (Below.refl w.heap.size w).alloc (Nat.le_refl _) (.cells #[.int .u8 7, .int .u8 0, .int .u8 0, .int .u8 9] 41)
  have hbox := Box.new w 41 [.int .u8 7, .int .u8 0, .int .u8 0, .int .u8 9]
  have hrd : RdV (w.alloc (.cells #[.int .u8 7, .int .u8 0, .int .u8 0, .int .u8 9] 41)) (w.alloc (.cells #[.int .u8 7, .int .u8 0, .int .u8 0, .int .u8 9] 41)).heap.size (some ⟨w.heap.size, 0, none⟩) (rowCells one9.pix) := hbox.asArr.rd
  have cW : Hid (Calls Tryd.prog 7 #[.agg #[.int .i64 1, .int .i64 1, .slice (some ⟨w.heap.size, 0, none⟩) 1 1]] (w.alloc (.cells #[.int .u8 7, .int .u8 0, .int .u8 0, .int .u8 9] 41)) fun e w' => (∃ p c, e = .returned (.tuple #[.slice p 69 c, .int .i64 0]) ∧ 69 ≤ c ∧ (p = none → c = 0) ∧ RdV w' w'.heap.size p (bcells (fileOf one9))) ∧ Below (w.alloc (.cells #[.int .u8 7, .int .u8 0, .int .u8 0, .int .u8 9] 41)).heap.size (w.alloc (.cells #[.int .u8 7, .int .u8 0, .int .u8 0, .int .u8 9] 41)) w') := Lib.hid (one9_len ▸ pam_WriteOk one9 (some ⟨w.heap.size, 0, none⟩) 1 one9_may (w.alloc (.cells #[.int .u8 7, .int .u8 0, .int .u8 0, .int .u8 9] 41)) hrd (hH.on hB) (hT.on hB))
  have HB := Lib.hid hB
  clear hB hbox hrd hH hT
  go_enter Tryd.func12, Tryd.ntmps12
  go_wp2_with (go_at_call 7; with_reducible refine Calls.mono cW.out ?_; rintro e w1 ⟨⟨p', c', rfl, hc1, hp1, hr⟩, b1⟩
               obtain ⟨g, o, e1, hg1, e2⟩ := hr.byte (i := 65) (by rw [one9_len]; omega)
               subst e1
               obtain ⟨g2, o2, e3, hg2, e4⟩ := hr.byte (i := 68) (by rw [one9_len]; omega)
               cases e3
               rw [(List.getElem?_eq_some_iff.1 one9_a).2] at e2
               rw [(List.getElem?_eq_some_iff.1 one9_b).2] at e4
               clear hr hc1 hp1)
  go_ret
  exact ⟨rfl, HB.out.trans (b1.mono HB.out.size)⟩
end Go.Proofs.YtchfbpgbojnakaaDoor
/- Layer 9: the program's own contracts, and the document's, together. -/

namespace Go.Proofs.YtchfbpgbojnakaaDoor
theorem together9 : True := trivial
end Go.Proofs.YtchfbpgbojnakaaDoor
