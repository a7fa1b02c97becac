/- What the document's own Mul answers. -/
import Derived.Test.YtoidhoiadkafhaaRefD
import Derived.Test.YtoidhoiadkafhaaNatD
namespace Go.Proofs.Ytoidhoiadkafhaa
open Go.RowKit Num

theorem make_digits (n : Nat) (hn : n ≤ 34359738368) (u : World) : (Instr.makeSlice 38 (.int .i64 (n : Int)) (.int .i64 (n : Int))).run Try.prog u =
    .ok (.slice (some ⟨u.heap.size, 0, none⟩) n n) (u.alloc (.cells (cells .u64 (List.replicate n 0)).toArray 30)) :=
  run_make_digits 38 30 .u64 8 Try.underlying38 info_u64 (by omega) n hn u

set_option maxHeartbeats 1600000 in
/-- a product: each digit with each -/
theorem ref_Mul (a b : List Nat) (A A' : Option Addr) (ca cb : Nat) (S S' : Nat → Prop) (w : World) (h : Rd w S .u32 A a) (h' : Rd w S' .u32 A' b) (hS : ∀ g, S g → g < w.heap.size) (hS' : ∀ g, S' g → g < w.heap.size) (hl : a.length ≤ 134217728) (hl' : b.length ≤ 134217728) (ha : Dg 4294967296 a) (hb : Dg 4294967296 b) :
    Calls Try.prog 20 #[.slice A a.length ca, .slice A' b.length cb] w (Gives .u32 4294967296 (val 4294967296 a * val 4294967296 b) w) := by
  go_enter Try.func20, Try.ntmps20
  go_wp2_with fail
  refine (ref_half a A ca S w h hS (by omega) ha).mono ?_
  rintro e w1 ⟨A1, x, c1, rfl, hc1, hl1, hn1, hv1, hr1, hb1⟩
  have hs1 := hb1.size
  have HN1 := Lib.hid hn1
  have HV1 := Lib.hid hv1
  clear hn1 hv1
  go_wp2_with fail
  refine (ref_half b A' cb S' w1 (h'.below hb1 hS') (fun g hg => by have := hS' g hg; omega) (by omega) hb).mono ?_
  rintro e w2 ⟨A2, y, c2, rfl, hc2, hl2, hn2, hv2, hr2, hb2⟩
  have hs2 := hb2.size
  have HN2 := Lib.hid hn2
  have HV2 := Lib.hid hv2
  clear hn2 hv2
  have hr1' : Rd w2 (fun g => g < w2.heap.size) .u64 A1 x := (hr1.below hb2 (fun g hg => hg.2)).imp (fun g hg => by omega)
  have hr2' : Rd w2 (fun g => g < w2.heap.size) .u64 A2 y := hr2.imp (fun g hg => hg.2)
  clear hr1 hr2
  have hmk : ∀ u : World, (Instr.makeSlice 38 (.int .i64 ((x.length : Int) + (y.length : Int) + 1)) (.int .i64 ((x.length : Int) + (y.length : Int) + 1))).run Try.prog u =
    .ok (.slice (some ⟨u.heap.size, 0, none⟩) (x.length + y.length + 1) (x.length + y.length + 1)) (u.alloc (.cells (cells .u64 (List.replicate (x.length + y.length + 1) 0)).toArray 30)) := fun u => make_digits (x.length + y.length + 1) (by omega) u
  have hrx : Rd (w2.alloc (.cells (cells .u64 (List.replicate (x.length + y.length + 1) 0)).toArray 30)) (fun g => g < w2.heap.size) .u64 A1 x := hr1'.keep fun p hp => World.cell?_alloc_lt w2 _ p hp
  have hry : Rd (w2.alloc (.cells (cells .u64 (List.replicate (x.length + y.length + 1) 0)).toArray 30)) (fun g => g < w2.heap.size) .u64 A2 y := hr2'.keep fun p hp => World.cell?_alloc_lt w2 _ p hp
  have hrow0 := Row.new w2 30 .u64 (List.replicate (x.length + y.length + 1) 0)
  clear hr1' hr2'
  go_wp2_with fail
  obtain ⟨W0, hW0⟩ : ∃ W0, w2.alloc (.cells (cells .u64 (List.replicate (x.length + y.length + 1) 0)).toArray 30) = W0 := ⟨_, rfl⟩
  have hsz0 : W0.heap.size = w2.heap.size + 1 := by rw [← hW0]; simp
  have hbel0 : Below w2.heap.size w2 W0 := by rw [← hW0]; exact (Below.refl _ _).alloc (Nat.le_refl _) _
  rw [hW0] at hrx hry hrow0 ⊢
  have HSZ := Lib.hid hsz0
  clear hW0 hsz0 hmk
  go_loopg [8, 9, 10, 11] x.length (fun gh i _ _ _ wr => ∃ (k : Nat) (cs : List Nat), gh + k = x.length ∧ i = .int .i64 k ∧ cs.length = y.length + k ∧ Dg 65536 cs ∧ val 65536 cs = val 65536 y * val 65536 (x.take k) ∧ Row wr w2.heap.size 30 .u64 (cs ++ List.replicate (x.length - k + 1) 0) ∧ W0.grownBy wr (some w2.heap.size))
  case atStart => exact ⟨0, List.replicate y.length 0, by omega, rfl, by simp, Dg.zeros (by omega), by rw [val_zeros]; simp [val], by rw [List.replicate_append_replicate, show y.length + (x.length - 0 + 1) = x.length + y.length + 1 by omega]; exact hrow0, World.grownBy.refl _ _⟩
  case round =>
    obtain ⟨i, cs, hg, rfl, hcl, hcd, hcv, hrow, hgr⟩ := hrel
    have HG := Lib.hid hg
    have HCL := Lib.hid hcl
    have HCV := Lib.hid hcv
    clear hg hcl hcv
    by_cases hlt : i < x.length
    · have hrx1 : Rd wr (fun g => g < w2.heap.size) .u64 A1 x := hrx.grown hgr (fun g hg => ⟨by have := HSZ.out; omega, fun e => by injection e; omega⟩)
      obtain ⟨bx, ox, rfl, hbx, cx0⟩ := hrx1.at_ hlt
      have hp1 := HN1.out.1.get hlt
      have hs2 := val_take_succ (b := 65536) hlt
      obtain ⟨p, hp⟩ : ∃ p, x[i] = p := ⟨_, rfl⟩
      rw [hp] at cx0 hp1 hs2
      have HS2 := Lib.hid hs2
      clear hp hs2
      obtain ⟨zs, hzs⟩ : ∃ zs, cs ++ List.replicate (x.length - i + 1) 0 = zs := ⟨_, rfl⟩
      rw [hzs] at hrow
      have hzl : zs.length = x.length + y.length + 1 := by rw [← hzs, List.length_append, List.length_replicate, HCL.out]; omega
      have hzd : Dg 65536 zs := by rw [← hzs]; exact Dg.append.2 ⟨hcd, Dg.zeros (by omega)⟩
      have HZ := Lib.hid hzs
      have HZL := Lib.hid hzl
      clear hzs hzl
      obtain ⟨wo, rfl⟩ : ∃ wo : World, wo = wr := ⟨_, rfl⟩
      obtain ⟨g1, rfl⟩ : ∃ g1 : Nat, g1 = gk := ⟨_, rfl⟩
      go_wp2_with fail
      go_loopg [9, 10, 11] y.length (fun gh c' j _ wr => ∃ (k cy : Nat) (ds : List Nat), gh + k = y.length ∧ j = .int .i64 k ∧ c' = .int .u64 cy ∧ cy < 65536 ∧ ds.length = k ∧ Dg 65536 ds ∧ Row wr w2.heap.size 30 .u64 (splice zs i ds) ∧ wo.grownBy wr (some w2.heap.size) ∧
        val 65536 ds + 65536 ^ k * cy = val 65536 ((zs.drop i).take k) + val 65536 (y.take k) * p)
      case atStart => exact ⟨0, 0, [], by omega, rfl, rfl, by omega, rfl, Dg.nil _, by rw [splice_nil]; exact hrow, World.grownBy.refl _ _, by simp [val]⟩
      case round =>
        obtain ⟨k, cy, ds, hg2, rfl, rfl, hcy, rfl, hdd, hr, hgr2, hv⟩ := hrel
        have HG2 := Lib.hid hg2
        have HV := Lib.hid hv
        clear hg2 hv
        have hlen : (splice zs i ds).length = zs.length := length_splice' (by have := HG2.out; have := HZL.out; omega)
        have HL := Lib.hid hlen
        clear hlen
        by_cases hlt2 : ds.length < y.length
        · have hzl := HZL.out
          have hcx : wr.cell? ⟨bx, ox + i, none⟩ = some (.int .u64 (p : Int)) := by
            rw [World.cell?_of_block (hgr2.block bx (by have := hgr.size; have := HSZ.out; omega) (fun e => by injection e; omega))]; exact cx0
          have hry1 : Rd wr (fun g => g < w2.heap.size) .u64 A2 y := (hry.grown hgr (fun g hg => ⟨by have := HSZ.out; omega, fun e => by injection e; omega⟩)).grown hgr2 (fun g hg => ⟨by have := hgr.size; have := HSZ.out; omega, fun e => by injection e; omega⟩)
          obtain ⟨by', oy, rfl, _, cy0⟩ := hry1.at_ hlt2
          have ca := hr.cell (i := i + ds.length) (by rw [HL.out]; omega)
          rw [get_splice_ge (by omega) (Nat.le_refl _)] at ca
          have hf := hr.frozen (i + ds.length)
          have hd1 := hzd.get (j := i + ds.length) (by omega)
          have hq1 := HN2.out.1.get hlt2
          have hs1 := take_drop_succ (zs := zs) (off := i) (k := ds.length) (by omega) 65536
          have hs2 := val_take_succ (b := 65536) hlt2
          obtain ⟨d, hd⟩ : ∃ d, zs[i + ds.length]'(by omega) = d := ⟨_, rfl⟩
          obtain ⟨q, hq⟩ : ∃ q, y[ds.length] = q := ⟨_, rfl⟩
          rw [hd] at ca hd1 hs1
          rw [hq] at cy0 hq1 hs2
          have HS1 := Lib.hid hs1
          have HS3 := Lib.hid hs2
          clear hd hq hs1 hs2 hzl
          have hxq : p * q ≤ 65535 * 65535 := Nat.mul_le_mul (by omega) (by omega)
          have hxq1 : (p : Int) * (q : Int) ≤ 4294836225 := by rw [← Int.natCast_mul]; omega
          have hxq0 : 0 ≤ (p : Int) * (q : Int) := by rw [← Int.natCast_mul]; omega
          go_wp2_with fail
          go_quiet (fail)
          go_wp2_with fail
          go_roundg (gk - 1)
          case measure => have := HG2.out; omega
          case rel =>
            have hr2 := hr.set (i + ds.length) ((cy + (p * q + d)) % 65536)
            rw [splice_snoc (by have := HZL.out; omega)] at hr2
            have e1 : (d : Int) + (p : Int) * (q : Int) + (cy : Int) = ((cy + (p * q + d) : Nat) : Int) := by rw [Int.natCast_add, Int.natCast_add, Int.natCast_mul]; omega
            rw [e1]
            refine ⟨ds.length + 1, (cy + (p * q + d)) / 65536, ds ++ [(cy + (p * q + d)) % 65536], by have := HG2.out; omega, by go_num, by go_num, by omega, by simp, hdd.snoc (by omega), hr2, grown_drewN (grown_setCell hgr2 _ _) _, ?_⟩
            rw [mul_step (x := p) (p := d) (q := q) rfl HV.out, HS1.out, HS3.out]
        · have hk : ds.length = y.length := by have := HG2.out; omega
          have hzl := HZL.out
          have hcs : cs.length = i + ds.length := by rw [HCL.out]; omega
          rw [← HZ.out, mul_splice hcs, show x.length - i + 1 = (x.length - (i + 1) + 1) + 1 by omega, List.replicate_succ] at hr
          have hPl : (cs.take i ++ ds).length = i + y.length := by rw [List.length_append, List.length_take]; omega
          have hc2 := hr.cell (i := i + y.length) (by rw [List.length_append, hPl]; simp)
          have e0 : (cs.take i ++ ds ++ 0 :: List.replicate (x.length - (i + 1) + 1) 0)[i + y.length]'(by rw [List.length_append, hPl]; simp) = 0 := by
            rw [List.getElem_append_right (by omega)]; simp [hPl]
          rw [e0] at hc2
          have hf2 := hr.frozen (i + y.length)
          have hset := hr.set (i + y.length) cy
          rw [set_next hPl] at hset
          have hseg : (zs.drop i).take y.length = cs.drop i := by
            rw [← HZ.out, List.drop_append_of_le_length (by omega), List.take_append_of_le_length (by rw [List.length_drop]; omega), List.take_of_length_le (by rw [List.length_drop]; omega)]
          have hv := HV.out
          rw [hk, hseg, List.take_length, ← hk] at hv
          have hrow3 := mul_row (cs := cs) (by omega) HCV.out hv
          rw [← HS2.out] at hrow3
          have HR := Lib.hid hrow3
          have HP := Lib.hid hPl
          clear e0 hseg hv hrow3 hPl hcs hk hzl
          go_wp2
          go_roundg (g1 - 1)
          case measure => have := HG.out; omega
          case rel =>
            refine ⟨i + 1, cs.take i ++ ds ++ [cy], by have := HG.out; omega, by go_num, by rw [List.length_append, HP.out]; simp; omega, (Dg.append.2 ⟨hcd.take, hdd⟩).snoc hcy, HR.out, hset, grown_setCell (grown_trans hgr hgr2) _ _⟩
    · have hk : i = x.length := by have := HG.out; omega
      subst hk
      rw [Nat.sub_self] at hrow
      have hrd3 : Rd wr (fun g => g < wr.heap.size) .u64 (some ⟨w2.heap.size, 0, none⟩) (cs ++ [0]) := hrow.rd_all hrow.lt
      have hwords := ref_words (cs ++ [0]) (some ⟨w2.heap.size, 0, none⟩) (x.length + y.length + 1) _ wr hrd3 (fun g hg => hg) (by rw [List.length_append, HCL.out]; simp; omega) (by rw [List.length_append, HCL.out]; simp; omega) (hcd.snoc (by omega))
      rw [List.length_append, HCL.out, show y.length + x.length + [0].length = x.length + y.length + 1 by simp; omega] at hwords
      go_wp2_with fail
      refine hwords.mono ?_
      rintro e w4 ⟨A4, us, c4, rfl, hc4, hn4, hv4, hr4, hb4⟩
      have HV4 := Lib.hid hv4
      clear hv4 hwords
      go_wp2
      go_ret
      have b03 : Below w2.heap.size w2 wr := hbel0.grown hgr (by have := HSZ.out; omega) (fun q e => by injection e with e; omega)
      have s03 := b03.size
      refine ⟨A4, us, c4, rfl, hc4, hn4, ?_, hr4.imp (fun g hg => hg.2), hb1.trans ((hb2.mono hs1).trans ((b03.mono (by omega)).trans (hb4.mono (by omega))))⟩
      have hv := HCV.out
      rw [List.take_length] at hv
      rw [HV4.out, val_snoc, Nat.mul_zero, Nat.add_zero, hv, HV1.out, HV2.out, Nat.mul_comm]
end Go.Proofs.Ytoidhoiadkafhaa
