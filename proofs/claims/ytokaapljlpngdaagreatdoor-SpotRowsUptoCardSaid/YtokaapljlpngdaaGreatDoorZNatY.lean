/- What the program's own calls answer: Uint; Text of a number of 64 bits; lives. -/
import Derived.Test.YtokaapljlpngdaaGreatDoorZNatX
import Derived.Test.YtokaapljlpngdaaGreatDoorZRefX
import Derived.Deep.RegionWith
import Derived.Test.YtokaapljlpngdaaGreatDoorZBase
import Derived.Lib.Hide
import Derived.WalkLawsBesides
import Derived.Lib.ItoaMem
import Derived.Lib.AppendIntMem
namespace Go.Proofs.YtokaapljlpngdaaGreatDoor
open Go.RowKit Num

theorem or_words (p q : Nat) (hp : p < 4294967296) (hq : q < 4294967296) : bits .or .u64 ((q * 4294967296 : Nat) : Int) (p : Int) = ((p + 4294967296 * q : Nat) : Int) := by
  rw [u64_or_nat _ _ (by omega) (by omega)]
  have h := Nat.shiftLeft_add_eq_or_of_lt (a := q) (b := p) (i := 32) (by omega)
  rw [Nat.shiftLeft_eq] at h
  rw [show q * 4294967296 = q * 2 ^ 32 from rfl, ← h]
  congr 1
  omega
set_option maxHeartbeats 800000 in
/-- a number of 64 bits -/
theorem nat_Uint (d : List Nat) (A : Option Addr) (c : Nat) (S : Nat → Prop) (w : World) (h : Rd w S .u32 A d) (hl : d.length ≤ 2147483648) (hc : d.length ≤ c) (hd : Dg 4294967296 d) :
    Calls Tryz.prog 90 #[.slice A d.length c] w fun e w' => w = w' ∧ ((val 4294967296 d < 18446744073709551616 ∧ e = .returned (.tuple #[.int .u64 (val 4294967296 d : Nat), .bool true])) ∨ (¬ val 4294967296 d < 18446744073709551616 ∧ e = .returned (.tuple #[.int .u64 0, .bool false]))) := by
  go_enter Tryz.func90, Tryz.ntmps90
  go_wp2_with fail
  refine (nat_cut d A c S w h (by omega) hc hd).mono ?_
  rintro e w1 ⟨ys, A1, c1, rfl, hcut, hr, rfl⟩
  obtain ⟨hc1, hl1, -, hn, hv, -⟩ := hcut
  have HN := Lib.hid hn
  have HV := Lib.hid hv
  clear hn hv h
  rcases (show ys.length = 0 ∨ ys.length = 1 ∨ ys.length = 2 ∨ 3 ≤ ys.length by omega) with h0 | h0 | h0 | h0
  · obtain rfl : ys = [] := List.eq_nil_of_length_eq_zero h0
    go_wp2
    go_ret2
    refine ⟨rfl, .inl ?_⟩
    rw [← HV.out]
    exact ⟨by simp [val], rfl⟩
  · obtain ⟨p, rfl⟩ : ∃ p, ys = [p] := List.length_eq_one_iff.1 h0
    obtain ⟨b, o, rfl, _, hcell⟩ := hr.at_ (j := 0) (by simp)
    have hp := HN.out.1.get (j := 0) (by simp)
    simp only [List.getElem_cons_zero, Nat.add_zero] at hcell hp
    have e1 : val 4294967296 d = p := by rw [← HV.out]; simp [val]
    have HE := Lib.hid e1
    clear e1
    go_wp2
    go_ret2
    refine ⟨rfl, .inl ?_⟩
    rw [HE.out]
    refine ⟨by omega, ?_⟩
    show Ending.returned (.tuple #[.int .u64 (bits .or .u64 ((0 * 4294967296 : Nat) : Int) (p : Int)), .bool true]) = _
    rw [or_words p 0 hp (by omega)]
    rfl
  · obtain ⟨p, q, rfl⟩ : ∃ p q, ys = [p, q] := by
      match ys, h0 with
      | [p, q], _ => exact ⟨p, q, rfl⟩
    obtain ⟨b, o, rfl, _, hcell⟩ := hr (by simp)
    have hp := HN.out.1.get (j := 0) (by simp)
    have hq := HN.out.1.get (j := 1) (by simp)
    have h1 := hcell 0 (by simp)
    have h2 := hcell 1 (by simp)
    clear hcell
    simp only [List.getElem_cons_zero, List.getElem_cons_succ, Nat.add_zero] at h1 h2 hp hq
    have e1 : val 4294967296 d = p + 4294967296 * q := by rw [← HV.out]; simp [val]
    have HE := Lib.hid e1
    clear e1
    go_wp2
    go_ret2
    refine ⟨rfl, .inl ?_⟩
    rw [HE.out]
    refine ⟨by omega, ?_⟩
    show Ending.returned (.tuple #[.int .u64 (bits .or .u64 ((q : Int) * 4294967296) (p : Int)), .bool true]) = _
    rw [show (q : Int) * 4294967296 = ((q * 4294967296 : Nat) : Int) by omega, or_words p q hp hq]
  · have hbig : ¬ val 4294967296 d < 18446744073709551616 := by
      rw [← HV.out]
      intro hlt
      have := HN.out.2.length_le (b := 4294967296) (n := 2) (by omega) hlt
      omega
    have HB := Lib.hid hbig
    clear hbig
    go_wp2
    go_ret2
    exact ⟨rfl, .inr ⟨HB.out, rfl⟩⟩

theorem row_u32 {w : World} {g : Nat} {vs : Array Value} (xs : List Nat) (h : w.heap[g]? = some (.cells vs 66 (0, 0))) (e : vs = (cells .u32 xs).toArray) : Row w g 66 .u32 xs := by
  unfold Row; rw [h, e]

end Go.Proofs.YtokaapljlpngdaaGreatDoor
/- What the program's own calls on numbers answer: Of, moveUp, moveDown, shiftUp, shiftDown, Shift. -/

namespace Go.Proofs.YtokaapljlpngdaaGreatDoor
open Go.RowKit Num

set_option maxHeartbeats 400000 in
/-- a number of 64 bits -/
theorem nat_Of (v : Nat) (hv : v < 18446744073709551616) (w : World) :
    Calls Tryz.prog 95 #[.int .u64 v] w (Gives .u32 4294967296 v w) := by
  by_cases h0 : v = 0
  · subst h0
    go_enter Tryz.func95, Tryz.ntmps95
    go_wp2
    go_ret
    exact ⟨none, [], 0, rfl, by simp, norm_nil _, rfl, Rd.nil, Below.refl _ _⟩
  · have hbits := isBits_bitLen v hv
    have cl := Tryz.bits_Len64 (v : Int) w (by omega) (by omega)
    rw [Int.toNat_natCast] at cl
    obtain ⟨z, hz⟩ : ∃ z, Lib.bitLen v = z := ⟨_, rfl⟩
    rw [hz] at cl hbits
    have hvp : 1 ≤ v := by omega
    have hz64 : z ≤ 64 := by
      rcases hbits.2 with h1 | h1
      · omega
      · have h2 := Nat.lt_of_le_of_lt h1 (show v < 2 ^ 64 by omega)
        have := (Nat.pow_lt_pow_iff_right (show 1 < 2 by omega)).1 h2
        omega
    by_cases h32 : v < 4294967296
    · have hz1 : 1 ≤ z ∧ z ≤ 32 := by
        refine ⟨?_, ?_⟩
        · rcases Nat.eq_zero_or_pos z with h | h
          · subst h; have := hbits.1; simp at this; omega
          · exact h
        · rcases hbits.2 with h1 | h1
          · omega
          · have h2 := Nat.lt_of_le_of_lt h1 (show v < 2 ^ 32 by omega)
            have := (Nat.pow_lt_pow_iff_right (show 1 < 2 by omega)).1 h2
            omega
      have e : ((z : Int) + 32 - 1) / 32 = ((1 : Nat) : Int) := by omega
      have hmk : ∀ u : World, (Instr.makeSlice 25 (.int .i64 (((z : Int) + 32 - 1) / 32)) (.int .i64 (((z : Int) + 32 - 1) / 32))).run Tryz.prog u =
        .ok (.slice (some ⟨u.heap.size, 0, none⟩) 1 1) (u.alloc (.cells #[.int .u32 0] 66)) := fun u => by rw [e]; exact make_words 1 (by omega) u
      clear hz hbits e
      go_enter Tryz.func95, Tryz.ntmps95
      go_wp2_with (go_at_call 41; refine cl.mono ?_; rintro e w' ⟨rfl, rfl⟩)
      go_ret
      exact ⟨_, [v], 1, rfl, by simp, ⟨by simpa [Dg] using h32, by simpa [Top] using h0⟩, by simp [val], (Row.new _ 66 .u32 [v]).rd_all (Row.new _ 66 .u32 [v]).lt, (Below.refl _ _).alloc (Nat.le_refl _) _⟩
    · have hz1 : 33 ≤ z := by
        rcases Nat.lt_or_ge z 33 with h | h
        · have h1 : (2 : Nat) ^ z ≤ 2 ^ 32 := Nat.pow_le_pow_right (by omega) (by omega)
          have := hbits.1
          omega
        · exact h
      have e : ((z : Int) + 32 - 1) / 32 = ((2 : Nat) : Int) := by omega
      have hmk : ∀ u : World, (Instr.makeSlice 25 (.int .i64 (((z : Int) + 32 - 1) / 32)) (.int .i64 (((z : Int) + 32 - 1) / 32))).run Tryz.prog u =
        .ok (.slice (some ⟨u.heap.size, 0, none⟩) 2 2) (u.alloc (.cells #[.int .u32 0, .int .u32 0] 66)) := fun u => by rw [e]; exact make_words 2 (by omega) u
      clear hz hbits e
      go_enter Tryz.func95, Tryz.ntmps95
      go_wp2_with (go_at_call 41; refine cl.mono ?_; rintro e w' ⟨rfl, rfl⟩)
      go_ret
      have ho : Row (w'.alloc (Obj.cells #[Value.int IntKind.u32 ((v : Int) % 4294967296), Value.int IntKind.u32 ((v : Int) / 4294967296)] 66)) w'.heap.size 66 .u32 [v % 4294967296, v / 4294967296] := Row.new w' 66 .u32 [v % 4294967296, v / 4294967296]
      exact ⟨_, [v % 4294967296, v / 4294967296], 2, rfl, by simp, ⟨by simp [Dg]; omega, by simp [Top]; omega⟩, by simp [val]; omega, ho.rd_all ho.lt, (Below.refl _ _).alloc (Nat.le_refl _) _⟩

set_option maxHeartbeats 800000 in
/-- moving the n words of block g from off on up by s bits: what leaves the last one is lost -/
theorem nat_moveUp (zs : List Nat) (g off n c s : Nat) (t : TypeId) (w : World) (hrow : Row w g t .u32 zs) (hn : off + n ≤ zs.length) (hl : n ≤ 4294967296) (hz : Dg 4294967296 zs) (hs : s < 32) :
    Calls Tryz.prog 134 #[.slice (some ⟨g, off, none⟩) n c, .int .i64 s] w fun e w' => e = .returned (.tuple #[]) ∧ ∃ cs cy, cs.length = n ∧ Dg 4294967296 cs ∧ val 4294967296 cs + 4294967296 ^ n * cy = val 4294967296 ((zs.drop off).take n) * 2 ^ s ∧ Row w' g t .u32 (splice zs off cs) ∧ w.grownBy w' (some g) := by
  go_enter Tryz.func134, Tryz.ntmps134
  go_wp2_with fail
  go_loopg [4, 5, 6, 9] n (fun gh c' _ _ i wr => ∃ (k b : Nat) (cs : List Nat), gh + k = n ∧ i = .int .i64 k ∧ c' = .int .u32 b ∧ b < 4294967296 ∧ cs.length = k ∧ Dg 4294967296 cs ∧ Row wr g t .u32 (splice zs off cs) ∧ w.grownBy wr (some g) ∧
    val 4294967296 cs + 4294967296 ^ k * (b / 2 ^ (32 - s)) = 0 + val 4294967296 ((zs.drop off).take k) * 2 ^ s)
  case atStart => exact ⟨0, 0, [], by omega, rfl, rfl, by omega, rfl, Dg.nil _, by rw [splice_nil]; exact hrow, World.grownBy.refl _ _, by simp [val]⟩
  case round =>
    obtain ⟨k, b, cs, hg, rfl, rfl, hb, rfl, hcd, hr, hgr, hv⟩ := hrel
    have HG := Lib.hid hg
    have HV := Lib.hid hv
    clear hg hv
    have hlen : (splice zs off cs).length = zs.length := length_splice' (by have := HG.out; omega)
    have HL := Lib.hid hlen
    clear hlen
    by_cases hlt : cs.length < n
    · have ca := hr.cell (i := off + cs.length) (by rw [HL.out]; omega)
      rw [get_splice_ge (by omega) (Nat.le_refl _)] at ca
      have hf := hr.frozen (off + cs.length)
      have hp1 := hz.get (j := off + cs.length) (by omega)
      have hs1 := take_drop_succ (zs := zs) (off := off) (k := cs.length) (by omega) 4294967296
      obtain ⟨p, hp⟩ : ∃ p, zs[off + cs.length]'(by omega) = p := ⟨_, rfl⟩
      rw [hp] at ca hp1 hs1
      have HS1 := Lib.hid hs1
      clear hp hs1
      have hs0 : (0 : Int) ≤ (s : Int) := by omega
      have hs32 : (s : Int) < 32 := by omega
      go_wp2_with fail
      go_region
      obtain ⟨ho1, ho2⟩ := or_up (p := p) hb hs
      have e1 : bits BinOp.or IntKind.u32 ((p : Int) * 2 ^ s % 4294967296) ((b : Int) / 2 ^ (32 - s)) = (((b / 2 ^ (32 - s) + (2 ^ s * p + 0)) % 4294967296 : Nat) : Int) := by
        rw [show (p : Int) * 2 ^ s % 4294967296 = ((p * 2 ^ s % 4294967296 : Nat) : Int) by simp, show (b : Int) / 2 ^ (32 - s) = ((b / 2 ^ (32 - s) : Nat) : Int) by simp, u32_or_nat _ _ (Nat.mod_lt _ (by omega)) (Nat.lt_of_le_of_lt (Nat.div_le_self _ _) hb), ho1]
      have HE := Lib.hid e1
      have HO := Lib.hid ho2
      clear e1 ho1 ho2
      go_wp2_with fail
      go_roundg (gk - 1)
      case measure => have := HG.out; omega
      case rel =>
        rw [HE.out]
        have hr2 := hr.set (off + cs.length) ((b / 2 ^ (32 - s) + (2 ^ s * p + 0)) % 4294967296)
        rw [splice_snoc (by omega)] at hr2
        refine ⟨cs.length + 1, p, cs ++ [(b / 2 ^ (32 - s) + (2 ^ s * p + 0)) % 4294967296], by have := HG.out; omega, by go_num, rfl, hp1, by simp, hcd.snoc (Nat.mod_lt _ (by omega)), hr2, grown_drewN (grown_setCell hgr _ _) 1, ?_⟩
        have hm := mul_step (x := 2 ^ s) (p := 0) (q := p) rfl HV.out
        rw [HO.out] at hm
        rw [hm, HS1.out]
        simp
    · have hk : cs.length = n := by have := HG.out; omega
      have HK := Lib.hid hk
      clear hk
      go_wp2
      go_end0
      refine ⟨rfl, cs, b / 2 ^ (32 - s), HK.out, hcd, ?_, hr, hgr⟩
      have := HV.out
      rw [HK.out, Nat.zero_add] at this
      exact this

set_option maxHeartbeats 800000 in
/-- moving the words of block g down by s bits: what leaves the first one is lost -/
theorem nat_moveDown (zs : List Nat) (g c s : Nat) (t : TypeId) (w : World) (hrow : Row w g t .u32 zs) (hl : zs.length ≤ 4294967296) (hz : Dg 4294967296 zs) (hs : s < 32) :
    Calls Tryz.prog 136 #[.slice (some ⟨g, 0, none⟩) zs.length c, .int .i64 s] w fun e w' => e = .returned (.tuple #[]) ∧ ∃ cs, cs.length = zs.length ∧ Dg 4294967296 cs ∧ val 4294967296 cs = val 4294967296 zs / 2 ^ s ∧ Row w' g t .u32 cs ∧ w.grownBy w' (some g) := by
  go_enter Tryz.func136, Tryz.ntmps136
  go_wp2_with fail
  go_loopg [4, 5, 6] zs.length (fun gh c' i _ wr => ((∃ k : Nat, gh = k + 1 ∧ i = .int .i64 k) ∨ (gh = 0 ∧ i = .int .i64 (-1))) ∧ gh ≤ zs.length ∧ ∃ (b : Nat) (es : List Nat), c' = .int .u32 b ∧ b < 4294967296 ∧ val 4294967296 (zs.drop gh) % 4294967296 = b ∧ es.length + gh = zs.length ∧ Dg 4294967296 es ∧ Row wr g t .u32 (zs.take gh ++ es) ∧ w.grownBy wr (some g) ∧
    val 4294967296 es = val 4294967296 (zs.drop gh) / 2 ^ s)
  case atStart =>
    refine ⟨?_, Nat.le_refl _, 0, [], rfl, by omega, by simp [val], by simp, Dg.nil _, by simpa using hrow, World.grownBy.refl _ _, by simp [val]⟩
    by_cases h0 : zs.length = 0
    · refine .inr ⟨h0, ?_⟩; congr 1; omega
    · refine .inl ⟨zs.length - 1, by omega, ?_⟩; congr 1; omega
  case round =>
    obtain ⟨⟨k, rfl, rfl⟩ | ⟨rfl, rfl⟩, hg, b, es, rfl, hb, hbv, hel, hed, hr, hgr, hv⟩ := hrel
    · have hk : k < zs.length := by omega
      have htl : (zs.take (k + 1)).length = k + 1 := by rw [List.length_take]; omega
      have ca := hr.cell (i := k) (by rw [List.length_append, htl]; omega)
      rw [List.getElem_append_left (by rw [htl]; omega), List.getElem_take] at ca
      have hf := hr.frozen k
      have hp1 := hz.get hk
      have hs1 := val_drop_succ (b := 4294967296) hk
      have hse : ∀ v, (zs.take (k + 1) ++ es).set k v = zs.take k ++ (v :: es) := fun v => by
        rw [List.set_append_left _ _ (by rw [htl]; omega), take_succ_get hk, List.set_append_right _ _ (by rw [List.length_take]; omega)]
        simp [Nat.min_eq_left (show k ≤ zs.length by omega)]
      obtain ⟨p, hp⟩ : ∃ p, zs[k] = p := ⟨_, rfl⟩
      rw [hp] at ca hp1 hs1
      have HS1 := Lib.hid hs1
      have HBV := Lib.hid hbv
      have HEL := Lib.hid hel
      have HV := Lib.hid hv
      have HSE := Lib.hid hse
      clear hp hs1 hbv hel hv hse htl
      have hs0 : (0 : Int) ≤ (s : Int) := by omega
      have hs32 : (s : Int) < 32 := by omega
      go_wp2_with fail
      go_region
      have ho := or_down (b := b) hp1 hs
      have hlt32 : p / 2 ^ s + 2 ^ (32 - s) * (b % 2 ^ s) < 4294967296 := by
        rw [← ho]
        exact Nat.or_lt_two_pow (n := 32) (Nat.lt_of_le_of_lt (Nat.div_le_self _ _) hp1) (Nat.mod_lt _ (by omega))
      have e1 : bits BinOp.or IntKind.u32 ((p : Int) / 2 ^ s) ((b : Int) * 2 ^ (32 - s) % 4294967296) = ((p / 2 ^ s + 2 ^ (32 - s) * (b % 2 ^ s) : Nat) : Int) := by
        rw [show (b : Int) * 2 ^ (32 - s) % 4294967296 = ((b * 2 ^ (32 - s) % 4294967296 : Nat) : Int) by simp, show (p : Int) / 2 ^ s = ((p / 2 ^ s : Nat) : Int) by simp, u32_or_nat _ _ (Nat.lt_of_le_of_lt (Nat.div_le_self _ _) hp1) (Nat.mod_lt _ (by omega)), ho]
      have HE := Lib.hid e1
      have HLT := Lib.hid hlt32
      clear e1 ho hlt32
      go_wp2_with fail
      go_roundg k
      case measure => omega
      case rel =>
        rw [HE.out]
        have hr2 := hr.set k (p / 2 ^ s + 2 ^ (32 - s) * (b % 2 ^ s))
        rw [HSE.out] at hr2
        refine ⟨?_, by omega, p, (p / 2 ^ s + 2 ^ (32 - s) * (b % 2 ^ s)) :: es, rfl, hp1, ?_, by have := HEL.out; simp; omega, Dg.cons.2 ⟨HLT.out, hed⟩, hr2, grown_drewN (grown_setCell hgr _ _) 1, ?_⟩
        · by_cases h0 : k = 0
          · subst h0; exact .inr ⟨rfl, by go_num⟩
          · exact .inl ⟨k - 1, by omega, by go_num⟩
        · rw [HS1.out, Nat.add_mul_mod_self_left, Nat.mod_eq_of_lt hp1]
        · rw [val_cons, HS1.out, down_step hs HBV.out, HV.out]
    · go_wp2
      go_end0
      refine ⟨rfl, es, by omega, hed, by simpa using hv, by simpa using hr, hgr⟩

theorem splice_zeros {k m : Nat} {a : List Nat} (h : a.length = m) : splice (List.replicate (k + m + 1) 0) k a = List.replicate k 0 ++ (a ++ [0]) := by
  simp only [splice, h]
  rw [List.take_replicate, List.drop_replicate, Nat.min_eq_left (by omega), show k + m + 1 - (k + m) = 1 by omega]
  rfl
theorem splice_behind {Z Y cs : List Nat} {k : Nat} (hk : Z.length = k) (h : cs.length = Y.length) : splice (Z ++ Y) k cs = Z ++ cs := by
  simp only [splice]
  rw [List.take_left' hk, List.drop_of_length_le (by rw [List.length_append]; omega), List.append_nil]
theorem over_zero {q V X c : Nat} (hX : X < q) (h : V + q * c = X) : c = 0 := by
  rcases Nat.eq_zero_or_pos c with h0 | h0
  · exact h0
  · have h1 : q * 1 ≤ q * c := Nat.mul_le_mul_left _ h0
    omega

end Go.Proofs.YtokaapljlpngdaaGreatDoor
/- What the program's Shift answers. -/

namespace Go.Proofs.YtokaapljlpngdaaGreatDoor
open Go.RowKit Num

/-- a number times a power of 2 -/
theorem up_value {n words s N V : Nat} (h : n = 32 * words + s) (hV : V = 4294967296 ^ words * (N * 2 ^ s)) : V = N * 2 ^ n := by
  rw [hV, h, Nat.pow_add, Nat.pow_mul]
  grind

/-- a number times a power of 2, or by one; of others 0 -/
def shiftVal (N : Nat) (n : Int) : Nat := if n < -4096 ∨ 4096 < n then 0 else if n < 0 then N / 2 ^ (-n).toNat else N * 2 ^ n.toNat
end Go.Proofs.YtokaapljlpngdaaGreatDoor
/- What the library answers for a number's decimal digits: strconv.FormatUint, strconv.AppendUint at base 10. -/

namespace Go.Proofs.YtokaapljlpngdaaGreatDoor
open Go.RowKit Num

/-- the table of powers of 10, as the program's text lays it -/
def Tab (w : World) : Prop := Lib.TabIs Tryz.prog w "internal/strconv.uint64pow10" .u64 Lib.pow10Tab

set_option maxHeartbeats 3200000 in
set_option maxRecDepth 100000 in
theorem int_FormatUint (u : Nat) (hu64 : u < 18446744073709551616) (w : World) (htab : Tab w) :
    Calls Tryz.prog 115 #[.int .u64 u, .int .i64 10] w fun e w' => e = .returned (.string ⟨(Lib.decDigits u).toArray⟩) ∧ Below w.heap.size w w' := by
  by_cases hs : u < 100
  · go_enter Tryz.func115, Tryz.ntmps115
    go_wp2_with (go_at_call 126; refine (Tryz.internal_strconv_small u hs _).mono ?_; rintro e w' ⟨rfl, rfl⟩)
    go_ret
    exact ⟨rfl, Below.refl _ _⟩
  · have hu1 : 1 ≤ u := by omega
    have hnd20 : Lib.nDigits u ≤ 20 := by have := Lib.numDigits_eq u hu1 hu64; split at this <;> omega
    have hal : Tryz.prog.arrayLen 133 = 24 := by kernel_rfl
    have hsl : ∀ W, (Instr.sliceAt 133 (.pointer (some ⟨w.heap.size, 0, none⟩)) none (some (.int .i64 (Lib.nDigits u : Int))) none).run Tryz.prog W = .ok (.slice (some ⟨w.heap.size, 0, none⟩) (Lib.nDigits u) 24) W := fun W => by
      rw [run_sliceAt_array_h W 133 ⟨w.heap.size, 0, none⟩ (by simp [Program.arrayLen, Program.elem, Tryz.underlying133]) .i64 (Lib.nDigits u : Int) (by omega) (by rw [hal]; omega)]
      go_simp
      try omega
    have hH0 := Lib.holds_zero0 w 133 (Lib.nDigits u) (by omega)
    have hfmt := Tryz.internal_strconv_formatBase10 w.heap.size 0 24 u (Array.replicate (Lib.nDigits u) 0) (w.alloc (.cells Lib.zeros24 133)) hH0 (by rw [Array.size_replicate]; exact Lib.lt_pow_nDigits u) hu64 (by rw [Array.size_replicate]; omega)
    rw [Array.size_replicate] at hfmt
    have HH0 := Lib.hid hH0
    have iu : (100 : Int) ≤ (u : Int) := by omega
    clear hH0 hal
    go_enter Tryz.func115, Tryz.ntmps115
    go_wp2_with (first
      | (go_at_call 127; refine (Tryz.internal_strconv_numDigits u hu1 hu64 _ (Lib.tabIs_alloc htab _)).mono ?_; rintro e w' ⟨rfl, rfl⟩))
    go_at_call 128
    refine hfmt.mono ?_
    rintro e w' ⟨rfl, k, v', dk, rfl, hF⟩
    obtain ⟨os, eo⟩ := Lib.fin_at w (.cells Lib.zeros24 133) dk k 0
    have hbel : Below w.heap.size w ((Go.Sort.putRow (fun (b : UInt8) => Value.int .u8 (b.toNat : Int)) (w.alloc (.cells Lib.zeros24 133)) w.heap.size 0 dk).drewN k) := by rw [eo]; exact Lib.below_grow w.heap.size w (Nat.le_refl _) k os
    have hcv : (convert 113 9 (.slice (some ⟨w.heap.size, 0, none⟩) (Lib.nDigits u) 24)).run Tryz.prog ((Go.Sort.putRow (fun (b : UInt8) => Value.int .u8 (b.toNat : Int)) (w.alloc (.cells Lib.zeros24 133)) w.heap.size 0 dk).drewN k) = .ok (.string ⟨(Lib.decDigits u).toArray⟩) ((Go.Sort.putRow (fun (b : UInt8) => Value.int .u8 (b.toNat : Int)) (w.alloc (.cells Lib.zeros24 133)) w.heap.size 0 dk).drewN k) := by
      have h := run_convert_bytes_back (P := Tryz.prog) ((Go.Sort.putRow (fun (b : UInt8) => Value.int .u8 (b.toNat : Int)) (w.alloc (.cells Lib.zeros24 133)) w.heap.size 0 dk).drewN k) 113 9 5 ⟨w.heap.size, 0, none⟩ 24 (Lib.decDigits u) Tryz.underlying113 Tryz.underlying5 Tryz.underlying9 (fun j hj => by
        rw [Lib.add_plain, Lib.row_is_numeral hF j hj, World.cell?_drewN]
        exact Go.Sort.cell?_putRow (fun (b : UInt8) => Value.int .u8 (b.toNat : Int)) _ w.heap.size 0 _ dk HH0.out (by rw [hF.size, Array.size_replicate]) j (by rw [hF.size]; rw [Lib.decDigits_length] at hj; exact hj))
      rw [Lib.decDigits_length] at h
      exact h
    have HB := Lib.hid hbel
    clear eo hbel hfmt
    go_wp2
    go_ret
    exact ⟨rfl, HB.out⟩

/-- strconv.FormatUint at base 10: the number's decimal digits -/
theorem lib_FormatUint (u : Nat) (hu64 : u < 18446744073709551616) (w : World) (htab : Tab w) :
    Calls Tryz.prog 91 #[.int .u64 u, .int .i64 10] w fun e w' => e = .returned (.string ⟨(Lib.decDigits u).toArray⟩) ∧ Below w.heap.size w w' := by
  have c := int_FormatUint u hu64 w htab
  go_enter Tryz.func91, Tryz.ntmps91
  go_wp2_with fail
  refine c.mono ?_
  rintro e w1 ⟨rfl, hb⟩
  go_wp2
  go_ret
  exact ⟨rfl, hb⟩

/-- strconv.AppendUint at base 10, onto a slice that the call owns -/
theorem lib_AppendUint (u B n : Nat) (hu64 : u < 18446744073709551616) (sv : Value) (xs : List Value) (w : World) (hown : w.ownsRow B 5 1 sv n xs) (hBw : B ≤ w.heap.size) (hlim : n + 20 ≤ 140737488355328) (htab : Tab w) :
    Calls Tryz.prog 94 #[sv, .int .u64 u, .int .i64 10] w fun e w' => ∃ v', e = .returned v' ∧ w'.ownsRow B 5 1 v' (n + (Lib.decDigits u).length) (xs ++ Lib.byteCells (Lib.decDigits u)) ∧ Below B w w' := by
  have c : Calls Tryz.prog 116 #[sv, .int .u64 u, .int .i64 10] w fun e w' => ∃ v', e = .returned v' ∧ w'.ownsRow B 5 1 v' (n + (Lib.decDigits u).length) (xs ++ Lib.byteCells (Lib.decDigits u)) ∧ Below B w w' := by
    by_cases hs : u < 100
    · refine (Tryz.internal_strconv_AppendUint_10_small B n u hs sv xs w hown hBw hlim).mono ?_
      rintro e w1 ⟨v', h1, h2, h3, _⟩
      exact ⟨v', h1, h2, h3⟩
    · refine (Tryz.internal_strconv_AppendUint_10_big B n u (by omega) hu64 sv xs w hown hBw hlim htab).mono ?_
      rintro e w1 ⟨v', h1, h2, h3, _⟩
      exact ⟨v', h1, h2, h3⟩
  go_enter Tryz.func94, Tryz.ntmps94
  go_wp2_with fail
  refine c.mono ?_
  rintro e w1 ⟨v', rfl, h2, h3⟩
  go_wp2
  go_ret
  exact ⟨v', rfl, h2, h3⟩
/-- the table stays as it is laid -/
theorem Tab.on {w w' : World} (h : Tab w) (hb : Below w.heap.size w w') : Tab w' := Lib.tabBelow_of_tabIs h w' hb
end Go.Proofs.YtokaapljlpngdaaGreatDoor
/- What the program's own Text answers for a number of 64 bits. -/

namespace Go.Proofs.YtokaapljlpngdaaGreatDoor
open Go.RowKit Num

/-- the text of a number of 64 bits -/
theorem nat_Text_small (d : List Nat) (A : Option Addr) (c : Nat) (S : Nat → Prop) (w : World) (h : Rd w S .u32 A d) (hl : d.length ≤ 2147483648) (hc : d.length ≤ c) (hd : Dg 4294967296 d) (hlt : val 4294967296 d < 18446744073709551616) (htab : Tab w) :
    Calls Tryz.prog 61 #[.slice A d.length c] w fun e w' => e = .returned (.string ⟨(Lib.decDigits (val 4294967296 d)).toArray⟩) ∧ Below w.heap.size w w' := by
  have cu := nat_Uint d A c S w h hl hc hd
  obtain ⟨N, hN⟩ : ∃ N, val 4294967296 d = N := ⟨_, rfl⟩
  rw [hN] at cu hlt ⊢
  have cf := lib_FormatUint N hlt w htab
  have HL := Lib.hid hlt
  clear hlt hN
  go_enter Tryz.func61, Tryz.ntmps61
  go_wp2_with fail
  refine cu.mono ?_
  rintro e w1 ⟨rfl, ⟨_, rfl⟩ | ⟨hn, rfl⟩⟩
  · go_wp2_with fail
    refine cf.mono ?_
    rintro e w1 ⟨rfl, hb⟩
    go_wp2
    go_ret
    exact ⟨rfl, hb⟩
  · exact absurd HL.out hn
end Go.Proofs.YtokaapljlpngdaaGreatDoor
