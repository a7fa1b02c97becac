/- What the program's own calls on numbers answer: addTimes, Mul, Uint. -/
import Derived.Test.YtoidhoiadkafhaaNatC
import Derived.Deep.DeepFit
namespace Go.Proofs.Ytoidhoiadkafhaa
open Go.RowKit Num

set_option maxHeartbeats 800000 in
/-- adding b times x into the words of block g from off on; what goes beyond b's length is answered -/
theorem nat_addTimes (zs b : List Nat) (g off n c x : Nat) (A : Option Addr) (cb : Nat) (t : TypeId) (w : World) (hrow : Row w g t .u32 zs) (hb : Rd w (fun x => x ≠ g) .u32 A b) (hn : off + n ≤ zs.length) (hbn : b.length ≤ n) (hl : n ≤ 4294967296) (hz : Dg 4294967296 zs) (hbd : Dg 4294967296 b) (hx : x < 4294967296) :
    Calls Try.prog 60 #[.slice (some ⟨g, off, none⟩) n c, .slice A b.length cb, .int .u32 x] w fun e w' => ∃ cs cy, e = .returned (.int .u32 (cy : Nat)) ∧ cy < 4294967296 ∧ cs.length = b.length ∧ Dg 4294967296 cs ∧ val 4294967296 cs + 4294967296 ^ b.length * cy = val 4294967296 ((zs.drop off).take b.length) + val 4294967296 b * x ∧ Row w' g t .u32 (splice zs off cs) ∧ w.grownBy w' (some g) := by
  have hbl := hb.below_size
  go_enter Try.func60, Try.ntmps60
  go_wp2_with fail
  go_loopg [7, 8, 9, 12] b.length (fun gh c' _ _ i wr => ∃ (k cy : Nat) (cs : List Nat), gh + k = b.length ∧ i = .int .i64 k ∧ c' = .int .u64 cy ∧ cy < 4294967296 ∧ cs.length = k ∧ Dg 4294967296 cs ∧ Row wr g t .u32 (splice zs off cs) ∧ w.grownBy wr (some g) ∧
    val 4294967296 cs + 4294967296 ^ k * cy = val 4294967296 ((zs.drop off).take k) + val 4294967296 (b.take k) * x)
  case atStart => exact ⟨0, 0, [], by omega, rfl, rfl, by omega, rfl, Dg.nil _, by rw [splice_nil]; exact hrow, World.grownBy.refl _ _, by simp [val]⟩
  case round =>
    obtain ⟨k, cy, cs, hg, rfl, rfl, hcy, rfl, hcd, hr, hgr, hv⟩ := hrel
    have HG := Lib.hid hg
    have HV := Lib.hid hv
    clear hg hv
    have hlen : (splice zs off cs).length = zs.length := length_splice' (by have := HG.out; omega)
    have HL := Lib.hid hlen
    clear hlen
    by_cases hlt : cs.length < b.length
    · have hR := hbl.grown hgr (fun x hx => ⟨hx.2, fun e => hx.1 (by injection e)⟩)
      obtain ⟨bb, ob, rfl, _, cb0⟩ := hR.at_ hlt
      have ca := hr.cell (i := off + cs.length) (by rw [HL.out]; omega)
      rw [get_splice_ge (by omega) (Nat.le_refl _)] at ca
      have hf := hr.frozen (off + cs.length)
      have hp1 := hz.get (j := off + cs.length) (by omega)
      have hq1 := hbd.get hlt
      have hs1 := take_drop_succ (zs := zs) (off := off) (k := cs.length) (by omega) 4294967296
      have hs2 := val_take_succ (b := 4294967296) hlt
      obtain ⟨p, hp⟩ : ∃ p, zs[off + cs.length]'(by omega) = p := ⟨_, rfl⟩
      obtain ⟨q, hq⟩ : ∃ q, b[cs.length] = q := ⟨_, rfl⟩
      rw [hp] at ca hp1 hs1
      rw [hq] at cb0 hq1 hs2
      have HS1 := Lib.hid hs1
      have HS2 := Lib.hid hs2
      clear hp hq hs1 hs2
      have hxq : x * q ≤ 4294967295 * 4294967295 := Nat.mul_le_mul (by omega) (by omega)
      have hxq1 : (x : Int) * (q : Int) ≤ 18446744065119617025 := by rw [← Int.natCast_mul]; omega
      have hxq0 : 0 ≤ (x : Int) * (q : Int) := by rw [← Int.natCast_mul]; omega
      go_wp2
      go_roundg (gk - 1)
      case measure => have := HG.out; omega
      case rel =>
        have hr2 := hr.set (off + cs.length) ((cy + (x * q + p)) % 4294967296)
        rw [splice_snoc (by omega)] at hr2
        have e1 : ((cy : Int) + ((x : Int) * (q : Int) + (p : Int))) = ((cy + (x * q + p) : Nat) : Int) := by rw [Int.natCast_add, Int.natCast_add, Int.natCast_mul]
        rw [e1]
        refine ⟨cs.length + 1, (cy + (x * q + p)) / 4294967296, cs ++ [(cy + (x * q + p)) % 4294967296], by have := HG.out; omega, by go_num, by go_num, by omega, by simp, hcd.snoc (by omega), hr2, grown_setCell hgr _ _, ?_⟩
        rw [mul_step (x := x) (p := p) (q := q) rfl HV.out, HS1.out, HS2.out]
    · have hk : cs.length = b.length := by have := HG.out; omega
      have HK := Lib.hid hk
      clear hk
      go_wp2
      go_ret
      refine ⟨cs, cy, rfl, hcy, HK.out, hcd, ?_, hr, hgr⟩
      have := HV.out
      rw [HK.out, List.take_length] at this
      exact this

theorem mul_splice {cs ds zs : List Nat} {k : Nat} (h : cs.length = k + ds.length) : splice (cs ++ zs) k ds = (cs.take k ++ ds) ++ zs := by
  simp only [splice]
  rw [List.take_append_of_le_length (by omega), List.drop_append, List.drop_of_length_le (by omega), show k + ds.length - cs.length = 0 by omega]
  simp
theorem set_next {P Z : List Nat} {m v : Nat} (h : P.length = m) : (P ++ (0 :: Z)).set m v = (P ++ [v]) ++ Z := by
  rw [List.set_append_right _ _ (by omega), h, Nat.sub_self]; simp

set_option maxHeartbeats 1600000 in
/-- a product -/
theorem nat_Mul (a b : List Nat) (A A' : Option Addr) (ca cb : Nat) (S S' : Nat → Prop) (w : World) (h : Rd w S .u32 A a) (h' : Rd w S' .u32 A' b) (hS : ∀ g, S g → g < w.heap.size) (hS' : ∀ g, S' g → g < w.heap.size) (hl : a.length ≤ 1073741824) (hl' : b.length ≤ 1073741824) (hc : a.length ≤ ca) (hc' : b.length ≤ cb) (ha : Dg 4294967296 a) (hb : Dg 4294967296 b) :
    Calls Try.prog 38 #[.slice A a.length ca, .slice A' b.length cb] w (Gives .u32 4294967296 (val 4294967296 a * val 4294967296 b) w) := by
  go_enter Try.func38, Try.ntmps38
  go_wp2_with fail
  refine (nat_cut a A ca S w h (by omega) hc ha).mono ?_
  rintro e w1 ⟨x, A1, c1, rfl, hcut1, hr1, rfl⟩
  obtain ⟨hc1, hl1, -, hn1, hv1, -⟩ := hcut1
  have HN1 := Lib.hid hn1
  have HV1 := Lib.hid hv1
  clear hn1 hv1 h
  go_wp2_with fail
  refine (nat_cut b A' cb S' w h' (by omega) hc' hb).mono ?_
  rintro e w1 ⟨y, A2, c2, rfl, hcut2, hr2, rfl⟩
  obtain ⟨hc2, hl2, -, hn2, hv2, -⟩ := hcut2
  have HN2 := Lib.hid hn2
  have HV2 := Lib.hid hv2
  clear hn2 hv2 h'
  have hmk : ∀ u : World, (Instr.makeSlice 22 (.int .i64 ((x.length : Int) + (y.length : Int))) (.int .i64 ((x.length : Int) + (y.length : Int)))).run Try.prog u =
    .ok (.slice (some ⟨u.heap.size, 0, none⟩) (x.length + y.length) (x.length + y.length)) (u.alloc (.cells (cells .u32 (List.replicate (x.length + y.length) 0)).toArray 36)) := fun u => make_words (x.length + y.length) (by omega) u
  have hrx : Rd (w.alloc (.cells (cells .u32 (List.replicate (x.length + y.length) 0)).toArray 36)) (fun g => g < w.heap.size) .u32 A1 x := (hr1.imp hS).keep fun p hp => World.cell?_alloc_lt w _ p hp
  have hry : Rd (w.alloc (.cells (cells .u32 (List.replicate (x.length + y.length) 0)).toArray 36)) (fun g => g < w.heap.size) .u32 A2 y := (hr2.imp hS').keep fun p hp => World.cell?_alloc_lt w _ p hp
  have hrow0 := Row.new w 36 .u32 (List.replicate (x.length + y.length) 0)
  clear hr1 hr2
  go_wp2_with fail
  obtain ⟨W0, hW0⟩ : ∃ W0, w.alloc (.cells (cells .u32 (List.replicate (x.length + y.length) 0)).toArray 36) = W0 := ⟨_, rfl⟩
  have hsz0 : W0.heap.size = w.heap.size + 1 := by rw [← hW0]; simp
  have hbel0 : Below w.heap.size w W0 := by rw [← hW0]; exact (Below.refl _ _).alloc (Nat.le_refl _) _
  rw [hW0] at hrx hry hrow0 ⊢
  have HSZ := Lib.hid hsz0
  clear hW0 hsz0
  go_loopg [6, 7, 20] y.length (fun gh _ _ i wr => ∃ (k : Nat) (cs : List Nat), gh + k = y.length ∧ i = .int .i64 k ∧ cs.length = x.length + k ∧ Dg 4294967296 cs ∧ val 4294967296 cs = val 4294967296 x * val 4294967296 (y.take k) ∧ Row wr w.heap.size 36 .u32 (cs ++ List.replicate (y.length - k) 0) ∧ W0.grownBy wr (some w.heap.size))
  case atStart => exact ⟨0, List.replicate x.length 0, by omega, rfl, by simp, Dg.zeros (by omega), by rw [val_zeros]; simp [val], by rw [List.replicate_append_replicate]; exact hrow0, World.grownBy.refl _ _⟩
  case round =>
    obtain ⟨k, cs, hg, rfl, hcl, hcd, hcv, hrow, hgr⟩ := hrel
    have HG := Lib.hid hg
    have HCL := Lib.hid hcl
    have HCV := Lib.hid hcv
    clear hg hcl hcv
    by_cases hlt : k < y.length
    · have hrx1 : Rd wr (fun g => g ≠ w.heap.size) .u32 A1 x := (hrx.grown hgr (fun g hg => ⟨by have := HSZ.out; omega, fun e => by injection e; omega⟩)).imp (fun g hg => by omega)
      have hry1 : Rd wr (fun g => g < w.heap.size) .u32 A2 y := hry.grown hgr (fun g hg => ⟨by have := HSZ.out; omega, fun e => by injection e; omega⟩)
      obtain ⟨bb, ob, rfl, _, cb0⟩ := hry1.at_ hlt
      have hq1 := HN2.out.1.get hlt
      have hs2 := val_take_succ (b := 4294967296) hlt
      obtain ⟨q, hq⟩ : ∃ q, y[k] = q := ⟨_, rfl⟩
      rw [hq] at cb0 hq1 hs2
      have HS2 := Lib.hid hs2
      clear hq hs2
      have hne : ¬ (x.length + y.length = k) := by omega
      have hzl : (cs ++ List.replicate (y.length - k) 0).length = x.length + y.length := by rw [List.length_append, List.length_replicate, HCL.out]; omega
      have HZL := Lib.hid hzl
      clear hzl
      have cad := nat_addTimes (cs ++ List.replicate (y.length - k) 0) x w.heap.size k (x.length + y.length - k) (x.length + y.length - k) q A1 c1 _ wr hrow hrx1 (by rw [HZL.out]; omega) (by omega) (by omega) (Dg.append.2 ⟨hcd, Dg.zeros (by omega)⟩) HN1.out.1 hq1
      go_wp2_with fail
      refine cad.mono ?_
      rintro e w2 ⟨ds, cy, rfl, hcy, hdl, hdd, hdv, hrow2, hgr2⟩
      have hcs : cs.length = k + ds.length := by rw [HCL.out, hdl]; omega
      rw [mul_splice hcs, show y.length - k = (y.length - (k + 1)) + 1 by omega, List.replicate_succ] at hrow2
      have hPl : (cs.take k ++ ds).length = k + x.length := by rw [List.length_append, List.length_take, hdl]; omega
      have hc2 := hrow2.cell (i := k + x.length) (by rw [List.length_append, hPl]; simp)
      have e0 : (cs.take k ++ ds ++ 0 :: List.replicate (y.length - (k + 1)) 0)[k + x.length]'(by rw [List.length_append, hPl]; simp) = 0 := by
        rw [List.getElem_append_right (by omega)]; simp [hPl]
      rw [e0] at hc2
      have hf2 := hrow2.frozen (k + x.length)
      have hset := hrow2.set (k + x.length) cy
      rw [set_next hPl] at hset
      have hseg : ((cs ++ List.replicate (y.length - k) 0).drop k).take x.length = cs.drop k := by
        rw [List.drop_append_of_le_length (by omega), List.take_append_of_le_length (by rw [List.length_drop]; omega), List.take_of_length_le (by rw [List.length_drop]; omega)]
      rw [hseg, ← hdl] at hdv
      have hrow3 := mul_row (cs := cs) (by omega) HCV.out hdv
      rw [← HS2.out] at hrow3
      have HR := Lib.hid hrow3
      have HP := Lib.hid hPl
      clear e0 hseg hdv hrow3 hPl hcs hdl cad
      go_wp2
      go_roundg (gk - 1)
      case measure => have := HG.out; omega
      case rel =>
        refine ⟨k + 1, cs.take k ++ ds ++ [cy], by have := HG.out; omega, by go_num, by rw [List.length_append, HP.out]; simp; omega, (Dg.append.2 ⟨hcd.take, hdd⟩).snoc hcy, HR.out, hset, grown_setCell (grown_trans hgr hgr2) _ _⟩
    · have hk : k = y.length := by have := HG.out; omega
      subst hk
      rw [Nat.sub_self, List.replicate_zero, List.append_nil] at hrow
      have hrd3 : Rd wr (fun g => g < wr.heap.size) .u32 (some ⟨w.heap.size, 0, none⟩) cs := hrow.rd_all hrow.lt
      have hcut := nat_cut cs (some ⟨w.heap.size, 0, none⟩) (x.length + y.length) _ wr hrd3 (by rw [HCL.out]; omega) (by rw [HCL.out]; omega) hcd
      rw [HCL.out] at hcut
      go_wp2_with fail
      refine hcut.mono ?_
      rintro e w4 ⟨us, A4, c4, rfl, hcut4, hr4, rfl⟩
      obtain ⟨hc4, hl4, -, hn4, hv4, -⟩ := hcut4
      have HN4 := Lib.hid hn4
      have HV4 := Lib.hid hv4
      clear hn4 hv4 hcut
      go_wp2
      go_ret
      refine ⟨A4, us, c4, rfl, hc4, HN4.out, ?_, hr4, hbel0.grown hgr (by have := HSZ.out; omega) (fun q e => by injection e with e; omega)⟩
      have hv := HCV.out
      rw [List.take_length] at hv
      rw [HV4.out, hv, HV1.out, HV2.out]
end Go.Proofs.Ytoidhoiadkafhaa
