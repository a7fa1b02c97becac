/- What the document's own Mul answers. -/
import Derived.Test.YtdmoibphidipeaaGreatDoorZRefX
import Derived.Test.YtdmoibphidipeaaGreatDoorZOaB
import Derived.Deep.RegionWith
import Derived.Deep.CutRange
namespace Go.Proofs.YtdmoibphidipeaaGreatDoor
open Go.RowKit Num

theorem make_digits (n : Nat) (hn : n ≤ 34359738368) (u : World) : (Instr.makeSlice 159 (.int .i64 (n : Int)) (.int .i64 (n : Int))).run Tryz.prog u =
    .ok (.slice (some ⟨u.heap.size, 0, none⟩) n n) (u.alloc (.cells (cells .u64 (List.replicate n 0)).toArray 138)) :=
  run_make_digits 159 138 .u64 8 Tryz.underlying159 info_u64 (by omega) n hn u

set_option maxHeartbeats 1600000 in
/-- a product: each digit with each -/
theorem ref_Mul (a b : List Nat) (A A' : Option Addr) (ca cb : Nat) (S S' : Nat → Prop) (w : World) (h : Rd w S .u32 A a) (h' : Rd w S' .u32 A' b) (hS : ∀ g, S g → g < w.heap.size) (hS' : ∀ g, S' g → g < w.heap.size) (hl : a.length ≤ 134217728) (hl' : b.length ≤ 134217728) (ha : Dg 4294967296 a) (hb : Dg 4294967296 b) :
    Calls Tryz.prog 121 #[.slice A a.length ca, .slice A' b.length cb] w (Gives .u32 4294967296 (val 4294967296 a * val 4294967296 b) w) := by
  go_enter Tryz.func121, Tryz.ntmps121
  go_wp2_with fail
  refine (ref_half a A ca S w h hS (by omega) ha).mono ?_
  rintro e w1 ⟨A1, x, c1, rfl, hc1, hl1, hn1, hv1, hr1, hb1⟩
  have hs1 := hb1.size
  have HN1 := Lib.hid hn1
  have HV1 := Lib.hid hv1
  clear hn1 hv1
  go_wp2_with fail
  refine (ref_half b A' cb S' w1 (h'.below hb1 hS') (fun g hg => by have := hS' g hg; omega) (by omega) hb).mono ?_
  rintro e w2 ⟨A2, y, c2, rfl, hc2, hl2, hn2, hv2, hr2, hb2⟩
  have hs2 := hb2.size
  have HN2 := Lib.hid hn2
  have HV2 := Lib.hid hv2
  clear hn2 hv2
  have hr1' : Rd w2 (fun g => g < w2.heap.size) .u64 A1 x := (hr1.below hb2 (fun g hg => hg.2)).imp (fun g hg => by omega)
  have hr2' : Rd w2 (fun g => g < w2.heap.size) .u64 A2 y := hr2.imp (fun g hg => hg.2)
  clear hr1 hr2
  have hmk : ∀ u : World, (Instr.makeSlice 159 (.int .i64 ((x.length : Int) + (y.length : Int) + 1)) (.int .i64 ((x.length : Int) + (y.length : Int) + 1))).run Tryz.prog u =
    .ok (.slice (some ⟨u.heap.size, 0, none⟩) (x.length + y.length + 1) (x.length + y.length + 1)) (u.alloc (.cells (cells .u64 (List.replicate (x.length + y.length + 1) 0)).toArray 138)) := fun u => make_digits (x.length + y.length + 1) (by omega) u
  have hrx : Rd (w2.alloc (.cells (cells .u64 (List.replicate (x.length + y.length + 1) 0)).toArray 138)) (fun g => g < w2.heap.size) .u64 A1 x := hr1'.keep fun p hp => World.cell?_alloc_lt w2 _ p hp
  have hry : Rd (w2.alloc (.cells (cells .u64 (List.replicate (x.length + y.length + 1) 0)).toArray 138)) (fun g => g < w2.heap.size) .u64 A2 y := hr2'.keep fun p hp => World.cell?_alloc_lt w2 _ p hp
  have hrow0 := Row.new w2 138 .u64 (List.replicate (x.length + y.length + 1) 0)
  clear hr1' hr2'
  go_wp2_with fail
  obtain ⟨W0, hW0⟩ : ∃ W0, w2.alloc (.cells (cells .u64 (List.replicate (x.length + y.length + 1) 0)).toArray 138) = W0 := ⟨_, rfl⟩
  have hsz0 : W0.heap.size = w2.heap.size + 1 := by rw [← hW0]; simp
  have hbel0 : Below w2.heap.size w2 W0 := by rw [← hW0]; exact (Below.refl _ _).alloc (Nat.le_refl _) _
  rw [hW0] at hrx hry hrow0 ⊢
  have HSZ := Lib.hid hsz0
  clear hW0 hsz0 hmk
  go_loopg [8, 9, 10, 11] x.length (fun gh i _ _ _ wr => ∃ (k : Nat) (cs : List Nat), gh + k = x.length ∧ i = .int .i64 k ∧ cs.length = y.length + k ∧ Dg 65536 cs ∧ val 65536 cs = val 65536 y * val 65536 (x.take k) ∧ Row wr w2.heap.size 138 .u64 (cs ++ List.replicate (x.length - k + 1) 0) ∧ W0.grownBy wr (some w2.heap.size))
  case atStart => exact ⟨0, List.replicate y.length 0, by omega, rfl, by simp, Dg.zeros (by omega), by rw [val_zeros]; simp [val], by rw [List.replicate_append_replicate, show y.length + (x.length - 0 + 1) = x.length + y.length + 1 by omega]; exact hrow0, World.grownBy.refl _ _⟩
  case round =>
    obtain ⟨i, cs, hg, rfl, hcl, hcd, hcv, hrow, hgr⟩ := hrel
    have HG := Lib.hid hg
    have HCL := Lib.hid hcl
    have HCV := Lib.hid hcv
    clear hg hcl hcv
    by_cases hlt : i < x.length
    · have hrx1 : Rd wr (fun g => g < w2.heap.size) .u64 A1 x := hrx.grown hgr (fun g hg => ⟨by have := HSZ.out; omega, fun e => by injection e; omega⟩)
      obtain ⟨bx, ox, rfl, hbx, cx0⟩ := hrx1.at_ hlt
      have hp1 := HN1.out.1.get hlt
      have hs2 := val_take_succ (b := 65536) hlt
      obtain ⟨p, hp⟩ : ∃ p, x[i] = p := ⟨_, rfl⟩
      rw [hp] at cx0 hp1 hs2
      have HS2 := Lib.hid hs2
      clear hp hs2
      obtain ⟨zs, hzs⟩ : ∃ zs, cs ++ List.replicate (x.length - i + 1) 0 = zs := ⟨_, rfl⟩
      rw [hzs] at hrow
      have hzl : zs.length = x.length + y.length + 1 := by rw [← hzs, List.length_append, List.length_replicate, HCL.out]; omega
      have hzd : Dg 65536 zs := by rw [← hzs]; exact Dg.append.2 ⟨hcd, Dg.zeros (by omega)⟩
      have HZ := Lib.hid hzs
      have HZL := Lib.hid hzl
      clear hzs hzl
      obtain ⟨wo, rfl⟩ : ∃ wo : World, wo = wr := ⟨_, rfl⟩
      obtain ⟨g1, rfl⟩ : ∃ g1 : Nat, g1 = gk := ⟨_, rfl⟩
      go_wp2_with fail
      go_loopg [9, 10, 11] y.length (fun gh c' j _ wr => ∃ (k cy : Nat) (ds : List Nat), gh + k = y.length ∧ j = .int .i64 k ∧ c' = .int .u64 cy ∧ cy < 65536 ∧ ds.length = k ∧ Dg 65536 ds ∧ Row wr w2.heap.size 138 .u64 (splice zs i ds) ∧ wo.grownBy wr (some w2.heap.size) ∧
        val 65536 ds + 65536 ^ k * cy = val 65536 ((zs.drop i).take k) + val 65536 (y.take k) * p)
      case atStart => exact ⟨0, 0, [], by omega, rfl, rfl, by omega, rfl, Dg.nil _, by rw [splice_nil]; exact hrow, World.grownBy.refl _ _, by simp [val]⟩
      case round =>
        obtain ⟨k, cy, ds, hg2, rfl, rfl, hcy, rfl, hdd, hr, hgr2, hv⟩ := hrel
        have HG2 := Lib.hid hg2
        have HV := Lib.hid hv
        clear hg2 hv
        have hlen : (splice zs i ds).length = zs.length := length_splice' (by have := HG2.out; have := HZL.out; omega)
        have HL := Lib.hid hlen
        clear hlen
        by_cases hlt2 : ds.length < y.length
        · have hzl := HZL.out
          have hcx : wr.cell? ⟨bx, ox + i, none⟩ = some (.int .u64 (p : Int)) := by
            rw [World.cell?_of_block (hgr2.block bx (by have := hgr.size; have := HSZ.out; omega) (fun e => by injection e; omega))]; exact cx0
          have hry1 : Rd wr (fun g => g < w2.heap.size) .u64 A2 y := (hry.grown hgr (fun g hg => ⟨by have := HSZ.out; omega, fun e => by injection e; omega⟩)).grown hgr2 (fun g hg => ⟨by have := hgr.size; have := HSZ.out; omega, fun e => by injection e; omega⟩)
          obtain ⟨by', oy, rfl, _, cy0⟩ := hry1.at_ hlt2
          have ca := hr.cell (i := i + ds.length) (by rw [HL.out]; omega)
          rw [get_splice_ge (by omega) (Nat.le_refl _)] at ca
          have hf := hr.frozen (i + ds.length)
          have hd1 := hzd.get (j := i + ds.length) (by omega)
          have hq1 := HN2.out.1.get hlt2
          have hs1 := take_drop_succ (zs := zs) (off := i) (k := ds.length) (by omega) 65536
          have hs2 := val_take_succ (b := 65536) hlt2
          obtain ⟨d, hd⟩ : ∃ d, zs[i + ds.length]'(by omega) = d := ⟨_, rfl⟩
          obtain ⟨q, hq⟩ : ∃ q, y[ds.length] = q := ⟨_, rfl⟩
          rw [hd] at ca hd1 hs1
          rw [hq] at cy0 hq1 hs2
          have HS1 := Lib.hid hs1
          have HS3 := Lib.hid hs2
          clear hd hq hs1 hs2 hzl
          have hxq : p * q ≤ 65535 * 65535 := Nat.mul_le_mul (by omega) (by omega)
          have hxq1 : (p : Int) * (q : Int) ≤ 4294836225 := by rw [← Int.natCast_mul]; omega
          have hxq0 : 0 ≤ (p : Int) * (q : Int) := by rw [← Int.natCast_mul]; omega
          go_wp2_with fail
          go_quiet (fail)
          go_wp2_with fail
          go_roundg (gk - 1)
          case measure => have := HG2.out; omega
          case rel =>
            have hr2 := hr.set (i + ds.length) ((cy + (p * q + d)) % 65536)
            rw [splice_snoc (by have := HZL.out; omega)] at hr2
            have e1 : (d : Int) + (p : Int) * (q : Int) + (cy : Int) = ((cy + (p * q + d) : Nat) : Int) := by rw [Int.natCast_add, Int.natCast_add, Int.natCast_mul]; omega
            rw [e1]
            refine ⟨ds.length + 1, (cy + (p * q + d)) / 65536, ds ++ [(cy + (p * q + d)) % 65536], by have := HG2.out; omega, by go_num, by go_num, by omega, by simp, hdd.snoc (by omega), hr2, grown_drewN (grown_setCell hgr2 _ _) _, ?_⟩
            rw [mul_step (x := p) (p := d) (q := q) rfl HV.out, HS1.out, HS3.out]
        · have hk : ds.length = y.length := by have := HG2.out; omega
          have hzl := HZL.out
          have hcs : cs.length = i + ds.length := by rw [HCL.out]; omega
          rw [← HZ.out, mul_splice hcs, show x.length - i + 1 = (x.length - (i + 1) + 1) + 1 by omega, List.replicate_succ] at hr
          have hPl : (cs.take i ++ ds).length = i + y.length := by rw [List.length_append, List.length_take]; omega
          have hc2 := hr.cell (i := i + y.length) (by rw [List.length_append, hPl]; simp)
          have e0 : (cs.take i ++ ds ++ 0 :: List.replicate (x.length - (i + 1) + 1) 0)[i + y.length]'(by rw [List.length_append, hPl]; simp) = 0 := by
            rw [List.getElem_append_right (by omega)]; simp [hPl]
          rw [e0] at hc2
          have hf2 := hr.frozen (i + y.length)
          have hset := hr.set (i + y.length) cy
          rw [set_next hPl] at hset
          have hseg : (zs.drop i).take y.length = cs.drop i := by
            rw [← HZ.out, List.drop_append_of_le_length (by omega), List.take_append_of_le_length (by rw [List.length_drop]; omega), List.take_of_length_le (by rw [List.length_drop]; omega)]
          have hv := HV.out
          rw [hk, hseg, List.take_length, ← hk] at hv
          have hrow3 := mul_row (cs := cs) (by omega) HCV.out hv
          rw [← HS2.out] at hrow3
          have HR := Lib.hid hrow3
          have HP := Lib.hid hPl
          clear e0 hseg hv hrow3 hPl hcs hk hzl
          go_wp2
          go_roundg (g1 - 1)
          case measure => have := HG.out; omega
          case rel =>
            refine ⟨i + 1, cs.take i ++ ds ++ [cy], by have := HG.out; omega, by go_num, by rw [List.length_append, HP.out]; simp; omega, (Dg.append.2 ⟨hcd.take, hdd⟩).snoc hcy, HR.out, hset, grown_setCell (grown_trans hgr hgr2) _ _⟩
    · have hk : i = x.length := by have := HG.out; omega
      subst hk
      rw [Nat.sub_self] at hrow
      have hrd3 : Rd wr (fun g => g < wr.heap.size) .u64 (some ⟨w2.heap.size, 0, none⟩) (cs ++ [0]) := hrow.rd_all hrow.lt
      have hwords := ref_words (cs ++ [0]) (some ⟨w2.heap.size, 0, none⟩) (x.length + y.length + 1) _ wr hrd3 (fun g hg => hg) (by rw [List.length_append, HCL.out]; simp; omega) (by rw [List.length_append, HCL.out]; simp; omega) (hcd.snoc (by omega))
      rw [List.length_append, HCL.out, show y.length + x.length + [0].length = x.length + y.length + 1 by simp; omega] at hwords
      go_wp2_with fail
      refine hwords.mono ?_
      rintro e w4 ⟨A4, us, c4, rfl, hc4, hn4, hv4, hr4, hb4⟩
      have HV4 := Lib.hid hv4
      clear hv4 hwords
      go_wp2
      go_ret
      have b03 : Below w2.heap.size w2 wr := hbel0.grown hgr (by have := HSZ.out; omega) (fun q e => by injection e with e; omega)
      have s03 := b03.size
      refine ⟨A4, us, c4, rfl, hc4, hn4, ?_, hr4.imp (fun g hg => hg.2), hb1.trans ((hb2.mono hs1).trans ((b03.mono (by omega)).trans (hb4.mono (by omega))))⟩
      have hv := HCV.out
      rw [List.take_length] at hv
      rw [HV4.out, val_snoc, Nat.mul_zero, Nat.add_zero, hv, HV1.out, HV2.out, Nat.mul_comm]
end Go.Proofs.YtdmoibphidipeaaGreatDoor
/- What the document's own small, Of, twice, Power answer. -/

namespace Go.Proofs.YtdmoibphidipeaaGreatDoor
open Go.RowKit Num

set_option maxHeartbeats 400000 in
/-- the number of at most four digits -/
theorem ref_small (x : List Nat) (A : Option Addr) (c : Nat) (S : Nat → Prop) (w : World) (h : Rd w S .u64 A x) (hl : x.length ≤ 4) (hx : Dg 65536 x) :
    Calls Tryz.prog 229 #[.slice A x.length c] w fun e w' => e = .returned (.int .u64 (val 65536 x : Nat)) ∧ w = w' := by
  go_enter Tryz.func229, Tryz.ntmps229
  go_wp2
  go_loopg [3, 4] x.length (fun g v i wr => ((∃ k : Nat, g = k + 1 ∧ i = .int .i64 k) ∨ (g = 0 ∧ i = .int .i64 (-1))) ∧ g ≤ x.length ∧ w = wr ∧ v = .int .u64 (val 65536 (x.drop g) : Nat))
  case atStart =>
    refine ⟨?_, Nat.le_refl _, rfl, by rw [List.drop_length]; rfl⟩
    by_cases h0 : x.length = 0
    · refine .inr ⟨h0, ?_⟩; congr 1; omega
    · refine .inl ⟨x.length - 1, by omega, ?_⟩; congr 1; omega
  case round =>
    obtain ⟨⟨k, rfl, rfl⟩ | ⟨rfl, rfl⟩, hg, rfl, rfl⟩ := hrel
    · have hk : k < x.length := by omega
      obtain ⟨b, o, rfl, _, hc⟩ := h.at_ hk
      have hp1 := hx.get hk
      have hd := val_drop_succ (b := 65536) hk
      have hv := val_lt_pow (n := 3) (b := 65536) (xs := x.drop (k + 1)) hx.drop (by omega) (by rw [List.length_drop]; omega)
      obtain ⟨p, hp⟩ : ∃ p, x[k] = p := ⟨_, rfl⟩
      obtain ⟨v, hve⟩ : ∃ v, val 65536 (x.drop (k + 1)) = v := ⟨_, rfl⟩
      rw [hp] at hc hp1 hd
      rw [hve] at hd hv ⊢
      have hv2 : v < 281474976710656 := hv
      have HD := Lib.hid hd
      clear hp hve hv hd
      go_wp2
      go_roundg k
      case measure => omega
      case rel =>
        refine ⟨?_, by omega, rfl, ?_⟩
        · by_cases h0 : k = 0
          · subst h0; exact .inr ⟨rfl, by go_num⟩
          · exact .inl ⟨k - 1, by omega, by go_num⟩
        · rw [HD.out]; congr 1; omega
    · go_wp2
      go_ret
      exact ⟨by rw [List.drop_zero]; rfl, rfl⟩

set_option maxHeartbeats 400000 in
/-- a number of 64 bits -/
theorem ref_Of (v : Nat) (hv : v < 18446744073709551616) (w : World) :
    Calls Tryz.prog 138 #[.int .u64 v] w (Gives .u32 4294967296 v w) := by
  have hD : Dg 65536 [v % 65536, v / 65536 % 65536, v / 65536 / 65536 % 65536, v / 65536 / 65536 / 65536] := by simp [Dg]; omega
  have hV : val 65536 [v % 65536, v / 65536 % 65536, v / 65536 / 65536 % 65536, v / 65536 / 65536 / 65536] = v := by simp [val]; omega
  have hrow := Row.new w 138 .u64 [v % 65536, v / 65536 % 65536, v / 65536 / 65536 % 65536, v / 65536 / 65536 / 65536]
  have HV := Lib.hid hV
  clear hV
  go_enter Tryz.func138, Tryz.ntmps138
  go_wp2_with fail
  have e : (Obj.cells #[Value.int IntKind.u64 ((v : Int) % 65536), Value.int IntKind.u64 ((v : Int) / 65536 % 65536), Value.int IntKind.u64 ((v : Int) / 65536 / 65536 % 65536), Value.int IntKind.u64 ((v : Int) / 65536 / 65536 / 65536)] 138) =
      (Obj.cells (cells .u64 [v % 65536, v / 65536 % 65536, v / 65536 / 65536 % 65536, v / 65536 / 65536 / 65536]).toArray 138) := by simp [cells]
  rw [e]
  have hbel : Below w.heap.size w (w.alloc (Obj.cells (cells .u64 [v % 65536, v / 65536 % 65536, v / 65536 / 65536 % 65536, v / 65536 / 65536 / 65536]).toArray 138)) := (Below.refl _ _).alloc (Nat.le_refl _) _
  have hs := hbel.size
  refine (ref_words [v % 65536, v / 65536 % 65536, v / 65536 / 65536 % 65536, v / 65536 / 65536 / 65536] _ 4 _ _ (hrow.rd_all (S := fun g => g < _) hrow.lt) (fun g hg => hg) (by simp) (by simp) hD).mono ?_
  rintro e w4 ⟨A4, us, c4, rfl, hc4, hn4, hv4, hr4, hb4⟩
  have HV4 := Lib.hid hv4
  clear hv4 hrow
  go_wp2
  go_ret
  exact ⟨A4, us, c4, rfl, hc4, hn4, by rw [HV4.out, HV.out], hr4.imp (fun g hg => hg.2), hbel.trans (hb4.mono hs)⟩

end Go.Proofs.YtdmoibphidipeaaGreatDoor
/- What the document's own twice and Power answer. -/

namespace Go.Proofs.YtdmoibphidipeaaGreatDoor
open Go.RowKit Num

set_option maxHeartbeats 800000 in
/-- digits twice, and a bit -/
theorem ref_twice (x : List Nat) (A : Option Addr) (c more : Nat) (S : Nat → Prop) (w : World) (h : Rd w S .u64 A x) (hS : ∀ g, S g → g < w.heap.size) (hl : x.length ≤ 1073741824) (hx : Dg 65536 x) (hm : more ≤ 1) :
    Calls Tryz.prog 247 #[.slice A x.length c, .int .u64 more] w fun e w' => ∃ A3 zs c3, e = .returned (.slice A3 zs.length c3) ∧ zs.length ≤ c3 ∧ Norm 65536 zs ∧ val 65536 zs = 2 * val 65536 x + more ∧
      Rd w' (fun b => w.heap.size ≤ b ∧ b < w'.heap.size) .u64 A3 zs ∧ Below w.heap.size w w' := by
  go_enter Tryz.func247, Tryz.ntmps247
  go_wp2_with fail
  go_loopg [5, 6, 7, 8] (x.length + 1) (fun g v c i _ wr => ∃ (k cy : Nat) (ys : List Nat), g + k = x.length + 1 ∧ i = .int .i64 k ∧ c = .int .u64 cy ∧ cy ≤ 1 ∧ Own wr w.heap.size 138 .u64 v ys ∧ ys.length = k ∧ Dg 65536 ys ∧ val 65536 ys + 65536 ^ k * cy = more + val 65536 (ext x k) * 2 ∧ Below w.heap.size w wr)
  case atStart => exact ⟨0, more, [], by omega, rfl, rfl, hm, Own.nil _ _ _ _, rfl, Dg.nil _, by rw [val_ext_zero]; simp [val], Below.refl _ _⟩
  case round =>
    obtain ⟨k, cy, ys, hg, rfl, rfl, hcy, hown, rfl, hyd, hyv, hbel⟩ := hrel
    have HG := Lib.hid hg
    have HV := Lib.hid hyv
    clear hg hyv
    by_cases hlt : ys.length < x.length + 1
    · have cx := ref_at x A c ys.length _ wr (h.below hbel hS) (by omega)
      have hxd := hx.getD (by omega) ys.length
      obtain ⟨p, hp⟩ : ∃ p, x.getD ys.length 0 = p := ⟨_, rfl⟩
      rw [hp] at cx hxd
      have HP := Lib.hid hp
      clear hp
      go_wp2_with (first
        | (go_at_call 177; refine cx.mono ?_; rintro e w' ⟨rfl, rfl⟩)
        | (at_builtin; refine wpList_app rfl _ _ _ rfl w.heap.size 138 .u64 8 Tryz.underlying159 info_u64 u5 ys rfl (hown.alloc _) wr.heap.size 1 1 [(cy + (2 * p + 0)) % 65536] rfl rfl (by unfold Row; rw [heap_alloc_new]; simp [cells]; omega) (by omega) (by omega) (by omega) (by have := hbel.size; simp; omega) ?_; intro v1 w3 hown1 hgrow))
      have hb3 := below_app (hbel.alloc hbel.size _) hgrow (hown.alloc _) (by have := hbel.size; simp; omega) (Nat.le_refl _)
      go_roundg (gk - 1)
      case measure => have := HG.out; omega
      case rel =>
        have hv := mul_step (x := 2) (p := 0) (q := p) rfl HV.out
        refine ⟨ys.length + 1, (cy + (2 * p + 0)) / 65536, ys ++ [(cy + (2 * p + 0)) % 65536], by have := HG.out; omega, by go_num, by congr 1; omega, by omega, hown1, by simp, hyd.snoc (by omega), ?_, hb3⟩
        rw [hv, val_ext_succ, HP.out, Nat.mul_zero, Nat.add_zero]
    · obtain ⟨A3, c3, rfl, hc3, _, hrd⟩ := hown.form
      have hs3 := hbel.size
      have hlen : ys.length ≤ 1073741825 := by have := HG.out; omega
      go_wp2_with (go_at_call 213; refine (ref_cut _ _ _ _ _ hrd (by omega) hc3).mono ?_; rintro e w' ⟨n, h1, h2, h3, rfl, rfl⟩)
      go_ret
      have hl2 : (ys.take n).length = n := by rw [List.length_take]; omega
      have hk : ys.length = x.length + 1 := by have := HG.out; omega
      refine ⟨A3, ys.take n, c3, by rw [hl2]; rfl, by omega, Norm.take hyd h1 h3, ?_, hrd.take n, hbel⟩
      have hv := HV.out
      rw [hk, val_ext (by omega)] at hv
      have h0 : cy = 0 := by
        rcases Nat.eq_zero_or_pos cy with h0 | h0
        · exact h0
        · have h5 := val_lt hx
          have h6 : 65536 ^ (x.length + 1) * 1 ≤ 65536 ^ (x.length + 1) * cy := Nat.mul_le_mul_left _ h0
          rw [Nat.pow_succ] at h6 hv
          omega
      rw [h0] at hv
      rw [val_take_of_zero h2]; omega

set_option maxHeartbeats 800000 in
/-- 2 to a power -/
theorem ref_Power (n : Nat) (hn : n ≤ 536870912) (w : World) :
    Calls Tryz.prog 228 #[.int .i64 n] w (Gives .u32 4294967296 (2 ^ n) w) := by
  have hrow := Row.new w 138 .u64 [1]
  go_enter Tryz.func228, Tryz.ntmps228
  go_wp2_with fail
  have hbel0 : Below w.heap.size w (w.alloc (Obj.cells #[Value.int IntKind.u64 1] 138)) := (Below.refl _ _).alloc (Nat.le_refl _) _
  go_loopg [3, 4] n (fun g v i wr => ∃ (k : Nat) (A : Option Addr) (xs : List Nat) (c : Nat), g + k = n ∧ i = .int .i64 k ∧ v = .slice A xs.length c ∧ xs.length ≤ c ∧ Norm 65536 xs ∧ val 65536 xs = 2 ^ k ∧ Rd wr (fun g => g < wr.heap.size) .u64 A xs ∧ Below w.heap.size w wr)
  case atStart => exact ⟨0, _, [1], 1, by omega, rfl, rfl, by simp, ⟨by simp [Dg], by simp [Top]⟩, rfl, hrow.rd_all hrow.lt, hbel0⟩
  case round =>
    obtain ⟨k, A, xs, c, hg, rfl, rfl, hc, hn1, hv, hr, hb⟩ := hrel
    have hlen : xs.length ≤ k + 1 := hn1.2.length_le (b := 65536) (by omega) (by
      rw [hv]
      refine Nat.lt_of_lt_of_le (Nat.pow_lt_pow_right (by omega) (Nat.lt_succ_self k)) (Nat.pow_le_pow_left (by omega) _))
    have hs := hb.size
    have HG := Lib.hid hg
    have HN := Lib.hid hn1
    have HV := Lib.hid hv
    clear hg hn1 hv hrow
    by_cases hlt : k < n
    · go_wp2_with (go_at_call 247; refine (ref_twice xs A c 0 _ wr hr (fun g hg => hg) (by omega) HN.out.1 (by omega)).mono ?_; rintro e w2 ⟨A3, zs, c3, rfl, hc3, hn3, hv3, hr3, hb3⟩)
      go_roundg (gk - 1)
      case measure => have := HG.out; omega
      case rel => exact ⟨k + 1, A3, zs, c3, by have := HG.out; omega, by go_num, rfl, hc3, hn3, by rw [hv3, HV.out, Nat.pow_succ]; omega, hr3.imp (fun g hg => hg.2), hb.trans (hb3.mono hs)⟩
    · go_wp2_with (go_at_call 167; refine (ref_words xs A c _ wr hr (fun g hg => hg) (by have := HG.out; omega) hc HN.out.1).mono ?_; rintro e w4 ⟨A4, us, c4, rfl, hc4, hn4, hv4, hr4, hb4⟩)
      go_ret
      refine ⟨A4, us, c4, rfl, hc4, hn4, ?_, hr4.imp (fun g hg => hg.2), hb.trans (hb4.mono hs)⟩
      rw [hv4, HV.out, show k = n by have := HG.out; omega]
end Go.Proofs.YtdmoibphidipeaaGreatDoor
/- What the document's own Div answers: bit by bit; of 64 bits as they are divided. -/

namespace Go.Proofs.YtdmoibphidipeaaGreatDoor
open Go.RowKit Num

theorem quo_wrap (N D : Nat) (hN : N < 18446744073709551616) : IntKind.u64.wrap ((N : Int) / (D : Int)) = ((N / D : Nat) : Int) := by
  have h2 : N / D < 18446744073709551616 := Nat.lt_of_le_of_lt (Nat.div_le_self _ _) hN
  rw [← Int.natCast_ediv]
  generalize N / D = q at h2
  exact IntWalk.u64_in _ (by omega)

theorem val_lt_small {x : List Nat} (hx : Dg 65536 x) (hl : x.length ≤ 4) : val 65536 x < 18446744073709551616 := val_lt_pow (n := 4) hx (by omega) hl

set_option maxRecDepth 100000 in
set_option maxHeartbeats 3200000 in
theorem ref_Div (a b : List Nat) (A A' : Option Addr) (ca cb : Nat) (S S' : Nat → Prop) (w : World) (h : Rd w S .u32 A a) (h' : Rd w S' .u32 A' b) (hS : ∀ g, S g → g < w.heap.size) (hS' : ∀ g, S' g → g < w.heap.size) (hl : a.length ≤ 134217728) (hl' : b.length ≤ 134217728) (ha : Dg 4294967296 a) (hb : Dg 4294967296 b) :
    Calls Tryz.prog 190 #[.slice A a.length ca, .slice A' b.length cb] w (GivesQR .u32 4294967296 (val 4294967296 a) (val 4294967296 b) w) := by
  go_enter Tryz.func190, Tryz.ntmps190
  go_wp2_with fail
  refine (ref_half a A ca S w h hS (by omega) ha).mono ?_
  rintro e w1 ⟨A1, x, c1, rfl, hc1, hl1, hn1, hv1, hr1, hb1⟩
  have hs1 := hb1.size
  have HN1 := Lib.hid hn1
  have HV1 := Lib.hid hv1
  clear hn1 hv1
  go_wp2_with fail
  refine (ref_half b A' cb S' w1 (h'.below hb1 hS') (fun g hg => by have := hS' g hg; omega) (by omega) hb).mono ?_
  rintro e w2 ⟨A2, y, c2, rfl, hc2, hl2, hn2, hv2, hr2, hb2⟩
  have hs2 := hb2.size
  have HN2 := Lib.hid hn2
  have HV2 := Lib.hid hv2
  clear hn2 hv2
  have hr1' : Rd w2 (fun g => g < w2.heap.size) .u64 A1 x := (hr1.below hb2 (fun g hg => hg.2)).imp (fun g hg => by omega)
  have hr2' : Rd w2 (fun g => g < w2.heap.size) .u64 A2 y := hr2.imp (fun g hg => hg.2)
  have hb12 : Below w.heap.size w w2 := hb1.trans (hb2.mono hs1)
  clear hr1 hr2
  by_cases hy0 : y.length = 0
  · obtain rfl : y = [] := List.eq_nil_of_length_eq_zero hy0
    go_wp2_with fail
    go_ret3
    have hD : val 4294967296 b = 0 := by rw [← HV2.out]; rfl
    refine ⟨none, [], 0, none, [], 0, ?_, by simp, by simp, norm_nil _, norm_nil _, ?_, ?_, Rd.nil, Rd.nil, hb12⟩
    · rw [hD]; rfl
    · rw [hD]; simp [val]
    · rw [hD]; simp [val]
  · have hDp : 0 < val 65536 y := by
      rcases Nat.eq_zero_or_pos (val 65536 y) with h0 | h0
      · have := (HN2.out.2.nil_iff (b := 65536) (by omega)).2 h0
        subst this; simp at hy0
      · exact h0
    by_cases hsm : x.length ≤ 4 ∧ y.length ≤ 4
    · obtain ⟨hx4, hy4⟩ := hsm
      have hN := val_lt_small HN1.out.1 hx4
      have hM := val_lt_small HN2.out.1 hy4
      have cx := ref_small x A1 c1 _ w2 hr1' hx4 HN1.out.1
      have cy := ref_small y A2 c2 _ w2 hr2' hy4 HN2.out.1
      obtain ⟨N, hNe⟩ : ∃ N, val 65536 x = N := ⟨_, rfl⟩
      obtain ⟨D, hDe⟩ : ∃ D, val 65536 y = D := ⟨_, rfl⟩
      rw [hNe] at cx hN
      rw [hDe] at cy hM hDp
      have HN := Lib.hid hNe
      have HD := Lib.hid hDe
      clear hNe hDe
      go_wp2_with fail
      refine cx.mono ?_
      rintro e w3 ⟨rfl, rfl⟩
      go_wp2_with fail
      refine cy.mono ?_
      rintro e w3 ⟨rfl, rfl⟩
      go_wp2_with fail
      have hq1 : N / D < 18446744073709551616 := Nat.lt_of_le_of_lt (Nat.div_le_self _ _) hN
      have hq2 : N % D < 18446744073709551616 := Nat.lt_of_le_of_lt (Nat.mod_le _ _) hN
      have hD0 : ¬ D = 0 := by omega
      have hquo := quo_wrap N D hN
      have hrem := tmod_nat N D
      have cQ : ∀ W, Calls Tryz.prog 138 #[.int .u64 ((N : Int) / (D : Int))] W (Gives .u32 4294967296 (N / D) W) := fun W => by
        have := ref_Of (N / D) hq1 W
        rwa [Int.natCast_ediv] at this
      have cR : ∀ W, Calls Tryz.prog 138 #[.int .u64 ((N : Int) % (D : Int))] W (Gives .u32 4294967296 (N % D) W) := fun W => by
        have := ref_Of (N % D) hq2 W
        rwa [Int.natCast_emod] at this
      go_region_held3 (fun _ => True) (trivial) ((first | (go_at_call 138; (with_reducible refine (cQ _).mono ?_); rintro e w4 ⟨A4, q4, c4, rfl, hc4, hn4, hv4, hr4, hb4⟩) | (go_at_call 138; (with_reducible refine (cR _).mono ?_); rintro e w5 ⟨A5, q5, c5, rfl, hc5, hn5, hv5, hr5, hb5⟩)))
      have HQ := Lib.hid hv4
      have HR := Lib.hid hv5
      have HN4 := Lib.hid hn4
      have HN5 := Lib.hid hn5
      have B4 : Below w.heap.size w w4 := hb12.trans ((below_drewN (Below.refl _ _) 1).trans (hb4.mono (by have := hb12.size; simp; omega)))
      clear hv4 hv5 hn4 hn5 hquo hrem cQ cR
      go_wp2_with fail
      go_ret3
      have hs4 := B4.size
      refine ⟨A4, q4, c4, A5, q5, c5, ?_, hc4, hc5, HN4.out, HN5.out, ?_, ?_, (hr4.below hb5 (fun g hg => hg)).imp (fun g hg => by have := hb5.size; omega), hr5, B4.trans (hb5.mono hs4)⟩
      · rw [← HV2.out, HD.out, decide_eq_true hDp]; rfl
      · rw [HQ.out, ← HN.out, ← HD.out, HV1.out, HV2.out]
      · rw [HR.out, ← HV2.out, HD.out, if_neg hD0, ← HV1.out, HN.out]
    · have hmk1 : ∀ u : World, (Instr.makeSlice 159 (.int .i64 (x.length : Int)) (.int .i64 (x.length : Int))).run Tryz.prog u =
        .ok (.slice (some ⟨u.heap.size, 0, none⟩) x.length x.length) (u.alloc (.cells (cells .u64 (List.replicate x.length 0)).toArray 138)) := fun u => make_digits x.length (by omega) u
      have hmk2 : ∀ u : World, (Instr.makeSlice 159 (.int .i64 ((y.length : Int) + 1)) (.int .i64 ((y.length : Int) + 1))).run Tryz.prog u =
        .ok (.slice (some ⟨u.heap.size, 0, none⟩) (y.length + 1) (y.length + 1)) (u.alloc (.cells (cells .u64 (List.replicate (y.length + 1) 0)).toArray 138)) := fun u => make_digits (y.length + 1) (by omega) u
      have hsm2 : 5 ≤ x.length ∨ (x.length ≤ 4 ∧ 5 ≤ y.length) := by omega
      clear hsm
      rcases hsm2 with hx5 | ⟨hx4, hy5⟩
      all_goals
        have hwr : IntKind.i64.wrap ((y.length : Int) + 1) = (y.length : Int) + 1 := IntWalk.i64_in _ (by omega)
        go_upto_region 7 with fail
        go_cut [11, 12] from 46 to 52 (fun vq vr wc => ∃ g1 g2, vq = .slice (some ⟨g1, 0, none⟩) x.length x.length ∧ vr = .slice (some ⟨g2, 0, none⟩) (y.length + 1) (y.length + 1) ∧ g1 ≠ g2 ∧ w2.heap.size ≤ g1 ∧ w2.heap.size ≤ g2 ∧ Row wc g1 138 .u64 (List.replicate x.length 0) ∧ Row wc g2 138 .u64 (List.replicate (y.length + 1) 0) ∧ Below w2.heap.size w2 wc)
        case first =>
          go_region_held3 (fun _ => True) (trivial) ((fail))
          all_goals
            clear hwr hmk1 hmk2
            go_wp2_with fail
            go_meet
          · refine ⟨w2.heap.size, w2.heap.size + 1, rfl, rfl, by omega, by omega, by omega, ?_, ?_, ?_⟩
            · exact (Row.new w2 138 .u64 (List.replicate x.length 0)).alloc _
            · exact Row.at_new (w2.alloc _) 138 .u64 (List.replicate (y.length + 1) 0) (by simp)
            · exact (((Below.refl _ _).alloc (Nat.le_refl _) _).alloc (by simp) _).drew
          · refine ⟨w2.heap.size + 1, w2.heap.size, rfl, rfl, by omega, by omega, by omega, ?_, ?_, ?_⟩
            · exact Row.at_new (w2.alloc _) 138 .u64 (List.replicate x.length 0) (by simp)
            · exact (Row.new w2 138 .u64 (List.replicate (y.length + 1) 0)).alloc _
            · exact (((Below.refl _ _).alloc (Nat.le_refl _) _).alloc (by simp) _).drew
        case rest =>
          clear hwr hmk1 hmk2
          obtain ⟨g1, g2, rfl, rfl, hne, hg1, hg2, hq0, hr0, hbel0⟩ := hcut
          go_wp2_with fail
          obtain ⟨N, hNe⟩ : ∃ N, val 65536 x = N := ⟨_, rfl⟩
          obtain ⟨D, hDe⟩ : ∃ D, val 65536 y = D := ⟨_, rfl⟩
          have hNlt : N < 2 ^ (16 * x.length) := by rw [← hNe, Nat.pow_mul]; exact val_lt HN1.out.1
          have hDlt : D < 65536 ^ y.length := by rw [← hDe]; exact val_lt HN2.out.1
          rw [hDe] at hDp
          have HN := Lib.hid hNe
          have HD := Lib.hid hDe
          have HNL := Lib.hid hNlt
          have HDL := Lib.hid hDlt
          clear hNe hDe hNlt hDlt
          go_loopg [13, 14, 15, 16, 17, 18] (16 * x.length) (fun gh i _ _ _ _ _ wr => ((∃ k : Nat, gh = k + 1 ∧ i = .int .i64 k) ∨ (gh = 0 ∧ i = .int .i64 (-1))) ∧ gh ≤ 16 * x.length ∧ ∃ qs rs, qs.length = x.length ∧ rs.length = y.length + 1 ∧ Dg 65536 qs ∧ Dg 65536 rs ∧ val 65536 qs = 2 ^ gh * (N / 2 ^ gh / D) ∧ val 65536 rs = N / 2 ^ gh % D ∧ Row wr g1 138 .u64 qs ∧ Row wr g2 138 .u64 rs ∧ Below w2.heap.size w2 wr)
          case atStart =>
            have h0 : N / 2 ^ (16 * x.length) = 0 := Nat.div_eq_of_lt HNL.out
            refine ⟨?_, Nat.le_refl _, List.replicate x.length 0, List.replicate (y.length + 1) 0, by simp, by simp, Dg.zeros (by omega), Dg.zeros (by omega), by rw [h0, val_zeros]; simp, by rw [h0, val_zeros]; simp, hq0, hr0, hbel0⟩
            by_cases h1 : x.length = 0
            · refine .inr ⟨by omega, ?_⟩; congr 1; omega
            · refine .inl ⟨16 * x.length - 1, by omega, ?_⟩; congr 1; omega
          case round =>
            clear hq0 hr0 hbel0
            obtain ⟨⟨k, rfl, rfl⟩ | ⟨rfl, rfl⟩, hg, qs, rs, hql, hrl, hqd, hrd, hqv, hrv, hrq, hrr, hbel⟩ := hrel
            · have hbs := hbel.size
              have cb := ref_bit x A1 c1 k _ wr (hr1'.below hbel (fun g hg => hg)) (by omega) (by omega) HN1.out.1
              rw [HN.out] at cb
              have hpre := prefix_step N k
              obtain ⟨c0, hc0⟩ : ∃ c0, (N.testBit k).toNat = c0 := ⟨_, rfl⟩
              have hc01 : c0 ≤ 1 := by rw [← hc0]; cases N.testBit k <;> simp
              rw [hc0] at cb hpre
              have HP := Lib.hid hpre
              have HQL := Lib.hid hql
              have HRL := Lib.hid hrl
              have HQV := Lib.hid hqv
              have HRV := Lib.hid hrv
              clear hpre hc0 hql hrl hqv hrv
              go_wp2_with (go_at_call 168; refine cb.mono ?_; rintro e w' ⟨rfl, rfl⟩)
              obtain ⟨wo, rfl⟩ : ∃ wo : World, wo = wr := ⟨_, rfl⟩
              go_loopg [14, 15, 16] (y.length + 1) (fun gh c j _ wr => ∃ (k cy : Nat) (ds : List Nat), gh + k = y.length + 1 ∧ j = .int .i64 k ∧ c = .int .u64 cy ∧ cy ≤ 1 ∧ ds.length = k ∧ Dg 65536 ds ∧ Row wr g2 138 .u64 (splice rs 0 ds) ∧ Row wr g1 138 .u64 qs ∧ Below w2.heap.size w2 wr ∧ val 65536 ds + 65536 ^ k * cy = c0 + val 65536 (rs.take k) * 2)
              case atStart => exact ⟨0, c0, [], by omega, rfl, rfl, hc01, rfl, Dg.nil _, by rw [splice_nil]; exact hrr, hrq, hbel, by simp [val]⟩
              case round =>
                clear hrq hrr hbel hbs
                obtain ⟨j, cy, ds, hg2, rfl, rfl, hcy, rfl, hdd, hr, hrq, hbel, hv⟩ := hrel
                have hbs := hbel.size
                have HG2 := Lib.hid hg2
                have HV := Lib.hid hv
                clear hg2 hv
                have hlen : (splice rs 0 ds).length = rs.length := length_splice' (by have := HG2.out; have := HRL.out; omega)
                have HL := Lib.hid hlen
                clear hlen
                by_cases hlt : ds.length < y.length + 1
                · have hrl := HRL.out
                  have ca := hr.cell (i := ds.length) (by rw [HL.out]; omega)
                  rw [get_splice_ge (by omega) (by omega)] at ca
                  have hf := hr.frozen ds.length
                  have hd1 := hrd.get (j := ds.length) (by omega)
                  have hs1 := val_take_succ (b := 65536) (xs := rs) (k := ds.length) (by omega)
                  obtain ⟨d, hd⟩ : ∃ d, rs[ds.length]'(by omega) = d := ⟨_, rfl⟩
                  rw [hd] at ca hd1 hs1
                  have HS1 := Lib.hid hs1
                  clear hd hs1 hrl
                  go_wp2_with fail
                  go_roundg (gk - 1)
                  case measure => have := HG2.out; omega
                  case rel =>
                    have hr2 := hr.set ds.length ((cy + (2 * d + 0)) % 65536)
                    rw [splice_snoc0 (by have := HRL.out; omega)] at hr2
                    have e1 : 2 * (d : Int) + (cy : Int) = ((cy + (2 * d + 0) : Nat) : Int) := by omega
                    rw [e1]
                    refine ⟨ds.length + 1, (cy + (2 * d + 0)) / 65536, ds ++ [(cy + (2 * d + 0)) % 65536], by have := HG2.out; omega, by go_num, by go_num, by omega, by simp, hdd.snoc (by omega), hr2, hrq.far (by simpa using hne) _, hbel.setCell (by simpa using hg2) _, ?_⟩
                    have hm := mul_step (x := 2) (p := 0) (q := d) (X := c0) rfl HV.out
                    rw [hm, HS1.out, Nat.mul_zero, Nat.add_zero]
                · have hk : ds.length = y.length + 1 := by have := HG2.out; omega
                  rw [splice_full (by rw [HRL.out]; exact hk)] at hr
                  have hv := HV.out
                  rw [hk, List.take_of_length_le (by rw [HRL.out]; omega), HRV.out] at hv
                  have hmlt := Nat.mod_lt (N / 2 ^ (k + 1)) hDp
                  have hcy0 := dbl_carry (by omega) hmlt HDL.out hc01 hv
                  rw [hcy0, Nat.mul_zero, Nat.add_zero] at hv
                  have hv2 : val 65536 ds = 2 * (N / 2 ^ (k + 1) % D) + c0 := by omega
                  have cc := ref_cmp ds y (some ⟨g2, 0, none⟩) A2 (y.length + 1) c2 _ _ wr (hr.rd_all (S := fun _ => True) trivial) (hr2'.below hbel (fun g hg => hg)) (by omega) (by omega) hdd HN2.out.1
                  rw [hk, HD.out] at cc
                  have hneg := cmpI_neg (val 65536 ds) D
                  have HK := Lib.hid hk
                  have HV2 := Lib.hid hv2
                  clear hv hv2 hcy0 hcy hmlt HG2 HV HL hk
                  by_cases hlt2 : val 65536 ds < D
                  · rw [cmpI_lt hlt2] at cc
                    have HLT := Lib.hid hlt2
                    clear hlt2 hneg
                    go_wp2_with (go_at_call 211; refine cc.mono ?_; rintro e w' ⟨rfl, rfl⟩)
                    go_roundg k
                    case measure => omega
                    case rel =>
                      refine ⟨?_, by omega, qs, ds, HQL.out, HK.out, hqd, hdd, ?_, ?_, hrq, hr, hbel⟩
                      · by_cases h0 : k = 0
                        · subst h0; exact .inr ⟨rfl, by go_num⟩
                        · exact .inl ⟨k - 1, by omega, by go_num⟩
                      · have hst := div_step_lt (P := N / 2 ^ (k + 1)) hDp (by rw [← HV2.out]; exact HLT.out)
                        rw [HQV.out, HP.out, hst.1, Nat.pow_succ, Nat.mul_assoc]
                      · have hst := div_step_lt (P := N / 2 ^ (k + 1)) hDp (by rw [← HV2.out]; exact HLT.out)
                        rw [HP.out, hst.2, HV2.out]
                  · obtain ⟨z, hz⟩ : ∃ z, cmpI (val 65536 ds) D = z := ⟨_, rfl⟩
                    rw [hz] at cc hneg
                    have hz0 : 0 ≤ z := by omega
                    have HGE := Lib.hid hlt2
                    clear hlt2 hneg hz
                    go_wp2_with (go_at_call 211; refine cc.mono ?_; rintro e w' ⟨rfl, rfl⟩)
                    obtain ⟨wi, rfl⟩ : ∃ wi : World, wi = wr := ⟨_, rfl⟩
                    go_loopg [14, 17, 18] (y.length + 1) (fun gh c j _ wr => ∃ (k cy : Nat) (es : List Nat), gh + k = y.length + 1 ∧ j = .int .i64 k ∧ c = .int .u64 cy ∧ cy ≤ 1 ∧ es.length = k ∧ Dg 65536 es ∧ Row wr g2 138 .u64 (splice ds 0 es) ∧ Row wr g1 138 .u64 qs ∧ Below w2.heap.size w2 wr ∧ val 65536 es + val 65536 (ext y k) = val 65536 (ds.take k) + 65536 ^ k * cy)
                    case atStart => exact ⟨0, 0, [], by omega, rfl, rfl, by omega, rfl, Dg.nil _, by rw [splice_nil]; exact hr, hrq, hbel, by simp [val, ext]⟩
                    case round =>
                      clear hrq hr hbel hbs cc
                      obtain ⟨j, cy, es, hg2, rfl, rfl, hcy, rfl, hed, hr, hrq, hbel, hv⟩ := hrel
                      have hbs := hbel.size
                      have HG2 := Lib.hid hg2
                      have HV := Lib.hid hv
                      clear hg2 hv
                      have hlen : (splice ds 0 es).length = ds.length := length_splice' (by have := HG2.out; have := HK.out; omega)
                      have HL := Lib.hid hlen
                      clear hlen
                      by_cases hlt : es.length < y.length + 1
                      · have hdl := HK.out
                        have ca := hr.cell (i := es.length) (by rw [HL.out]; omega)
                        rw [get_splice_ge (by omega) (by omega)] at ca
                        have hf := hr.frozen es.length
                        have hd1 := hdd.get (j := es.length) (by omega)
                        have hs1 := val_take_succ (b := 65536) (xs := ds) (k := es.length) (by omega)
                        have hq1 := HN2.out.1.getD (by omega) es.length
                        have cz := fun n => ref_at y A2 c2 es.length _ (wr.drewN n) ((hr2'.below hbel (fun g hg => hg)).drewN n) (by omega)
                        obtain ⟨d, hd⟩ : ∃ d, ds[es.length]'(by omega) = d := ⟨_, rfl⟩
                        obtain ⟨q, hq⟩ : ∃ q, y.getD es.length 0 = q := ⟨_, rfl⟩
                        rw [hd] at ca hd1 hs1
                        simp only [hq] at cz
                        rw [hq] at hq1
                        have HS1 := Lib.hid hs1
                        have HQ1 := Lib.hid hq
                        clear hd hs1 hdl hq
                        go_wp2_with fail
                        go_quiet ((go_at_call 177; exact quiet_one (cz _)))
                        go_wp2_with fail
                        go_roundg (gk - 1)
                        case measure => have := HG2.out; omega
                        case rel =>
                          have hr2 := (hr.drewN nq).set es.length ((65536 + d - q - cy) % 65536)
                          rw [splice_snoc0 (by have := HK.out; omega)] at hr2
                          have e1 : (65536 : Int) + (d : Int) - (q : Int) - (cy : Int) = ((65536 + d - q - cy : Nat) : Int) := by omega
                          rw [e1]
                          have hss := sub_step (x := d) (y := q) (v := 65536 + d - q - cy) rfl HV.out (by omega) (by omega)
                          refine ⟨es.length + 1, 1 - (65536 + d - q - cy) / 65536, es ++ [(65536 + d - q - cy) % 65536], by have := HG2.out; omega, by go_num, by congr 1; omega, by omega, by simp, hed.snoc (by omega), hr2, (hrq.drewN nq).far (by simpa using hne) _, (below_drewN hbel nq).setCell (by simpa using hg2) _, ?_⟩
                          rw [val_ext_succ, HQ1.out, hss, HS1.out]
                      · have hk : es.length = y.length + 1 := by have := HG2.out; omega
                        rw [splice_full (by rw [HK.out]; exact hk)] at hr
                        have hv := HV.out
                        rw [hk, List.take_of_length_le (by rw [HK.out]; omega), val_ext (by omega), HD.out] at hv
                        have hge : D ≤ val 65536 ds := Nat.le_of_not_lt HGE.out
                        have hcy0 := borrow_zero hcy (by have := val_lt hed; rwa [hk] at this) hge hv
                        rw [hcy0, Nat.mul_zero, Nat.add_zero] at hv
                        have HV3 := Lib.hid hv
                        have HE := Lib.hid hk
                        clear hcy0 hcy hv HG2 HV HL hk hge
                        have hk16 : k / 16 < qs.length := by have := HQL.out; omega
                        have hroom := digit_room hqd HQV.out
                        have hqc := hrq.cell hk16
                        have hqf := hrq.frozen (k / 16)
                        have hgd : qs.getD (k / 16) 0 = qs[k / 16] := by simp [List.getD_eq_getElem?_getD, hk16]
                        rw [hgd] at hroom
                        have hvs := fun v => val_set (b := 65536) (v := v) hk16
                        obtain ⟨d, hd⟩ : ∃ d, qs[k / 16] = d := ⟨_, rfl⟩
                        rw [hd] at hqc hroom
                        simp only [hd] at hvs
                        have HVS := Lib.hid hvs
                        clear hd hvs hgd
                        have e2 : IntKind.u64.wrap ((d : Int) + IntKind.u64.wrap ((2 : Int) ^ (k % 16))) = ((d + 2 ^ (k % 16) : Nat) : Int) := by
                          rw [show (2 : Int) ^ (k % 16) = ((2 ^ (k % 16) : Nat) : Int) by simp]
                          generalize 2 ^ (k % 16) = r at hroom
                          rw [IntWalk.u64_in (r : Int) (by omega), IntWalk.u64_in _ (by omega)]; omega
                        have HE2 := Lib.hid e2
                        clear e2
                        go_wp2_with fail
                        go_roundg k
                        case measure => omega
                        case rel =>
                          rw [HE2.out]
                          have hset := hrq.set (k / 16) (d + 2 ^ (k % 16))
                          have hst := div_step_ge (P := N / 2 ^ (k + 1)) hDp hc01 (by rw [← HV2.out]; exact Nat.le_of_not_lt HGE.out)
                          refine ⟨?_, by omega, qs.set (k / 16) (d + 2 ^ (k % 16)), es, by rw [List.length_set]; exact HQL.out, HE.out, hqd.set hroom, hed, ?_, ?_, hset, hr.far (by simpa using Ne.symm hne) _, hbel.setCell (by simpa using hg1) _⟩
                          · by_cases h0 : k = 0
                            · subst h0; exact .inr ⟨rfl, by go_num⟩
                            · exact .inl ⟨k - 1, by omega, by go_num⟩
                          · have h1 := HVS.out (d + 2 ^ (k % 16))
                            rw [HQV.out, Nat.mul_add, ← pow_split16] at h1
                            have h2 : 2 ^ k * (N / 2 ^ k / D) = 2 ^ (k + 1) * (N / 2 ^ (k + 1) / D) + 2 ^ k := by
                              rw [HP.out, hst.1, Nat.mul_add, Nat.mul_one, Nat.pow_succ, Nat.mul_assoc]
                            omega
                          · rw [HP.out, hst.2, ← HV2.out]
                            have := HV3.out
                            omega
            · have hbs := hbel.size
              have cq := ref_words qs (some ⟨g1, 0, none⟩) x.length _ wr (hrq.rd_all (S := fun g => g < wr.heap.size) hrq.lt) (fun g hg => hg) (by omega) (by omega) hqd
              rw [hql] at cq
              rw [Nat.pow_zero, Nat.one_mul, Nat.div_one] at hqv
              rw [Nat.pow_zero, Nat.div_one] at hrv
              have HQV := Lib.hid hqv
              have HRV := Lib.hid hrv
              have HRL := Lib.hid hrl
              clear hqv hrv hql hrl
              go_wp2_with fail
              refine cq.mono ?_
              rintro e w4 ⟨A4, q4, c4, rfl, hc4, hn4, hv4, hr4, hb4⟩
              have hr' := hrr.below hb4 hrr.lt
              have cr := ref_words rs (some ⟨g2, 0, none⟩) (y.length + 1) _ w4 (hr'.rd_all (S := fun g => g < w4.heap.size) hr'.lt) (fun g hg => hg) (by rw [HRL.out]; omega) (by rw [HRL.out]; omega) hrd
              rw [HRL.out] at cr
              have HN4 := Lib.hid hn4
              have HV4 := Lib.hid hv4
              clear hn4 hv4 cq
              go_wp2_with fail
              refine cr.mono ?_
              rintro e w5 ⟨A5, q5, c5, rfl, hc5, hn5, hv5, hr5, hb5⟩
              have HN5 := Lib.hid hn5
              have HV5 := Lib.hid hv5
              clear hn5 hv5 cr
              go_wp2_with fail
              go_ret3
              have B3 : Below w.heap.size w wr := hb12.trans (hbel.mono hb12.size)
              have B4 : Below w.heap.size w w4 := B3.trans (hb4.mono B3.size)
              have B5 : Below w.heap.size w w5 := B4.trans (hb5.mono B4.size)
              refine ⟨A4, q4, c4, A5, q5, c5, ?_, hc4, hc5, HN4.out, HN5.out, ?_, ?_, (hr4.below hb5 (fun g hg => hg.2)).imp (fun g hg => by have := hb5.size; omega), hr5.imp (fun g hg => hg.2), B5⟩
              · rw [← HV2.out, HD.out, decide_eq_true hDp]; rfl
              · rw [HV4.out, HQV.out, ← HN.out, ← HD.out, HV1.out, HV2.out]
              · rw [HV5.out, HRV.out, ← HV2.out, HD.out, if_neg (by omega), ← HV1.out, HN.out]
end Go.Proofs.YtdmoibphidipeaaGreatDoor
