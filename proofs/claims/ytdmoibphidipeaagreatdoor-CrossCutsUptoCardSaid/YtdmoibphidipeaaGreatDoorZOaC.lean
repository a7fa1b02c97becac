/- What the program's own calls answer: Uint; Text of a number of 64 bits; lives. -/
import Derived.Test.YtdmoibphidipeaaGreatDoorZOaB
import Derived.Test.YtdmoibphidipeaaGreatDoorZRefX
import Derived.Test.YtdmoibphidipeaaGreatDoorZBase
import Derived.Lib.Hide
import Derived.WalkLawsBesides
import Derived.Lib.ItoaMem
import Derived.Lib.AppendIntMem
import Derived.Deep.RegionWith
import Derived.BigQuiet
import Derived.Deep.CutRange
import Derived.Deep.RegionHeld3
import Derived.WalkMore
import Derived.ScopeJumps
namespace Go.Proofs.YtdmoibphidipeaaGreatDoor
open Go.RowKit Num

theorem or_words (p q : Nat) (hp : p < 4294967296) (hq : q < 4294967296) : bits .or .u64 ((q * 4294967296 : Nat) : Int) (p : Int) = ((p + 4294967296 * q : Nat) : Int) := by
  rw [u64_or_nat _ _ (by omega) (by omega)]
  have h := Nat.shiftLeft_add_eq_or_of_lt (a := q) (b := p) (i := 32) (by omega)
  rw [Nat.shiftLeft_eq] at h
  rw [show q * 4294967296 = q * 2 ^ 32 from rfl, ← h]
  congr 1
  omega
set_option maxHeartbeats 800000 in
/-- a number of 64 bits -/
theorem nat_Uint (d : List Nat) (A : Option Addr) (c : Nat) (S : Nat → Prop) (w : World) (h : Rd w S .u32 A d) (hl : d.length ≤ 2147483648) (hc : d.length ≤ c) (hd : Dg 4294967296 d) :
    Calls Tryz.prog 171 #[.slice A d.length c] w fun e w' => w = w' ∧ ((val 4294967296 d < 18446744073709551616 ∧ e = .returned (.tuple #[.int .u64 (val 4294967296 d : Nat), .bool true])) ∨ (¬ val 4294967296 d < 18446744073709551616 ∧ e = .returned (.tuple #[.int .u64 0, .bool false]))) := by
  go_enter Tryz.func171, Tryz.ntmps171
  go_wp2_with fail
  refine (nat_cut d A c S w h (by omega) hc hd).mono ?_
  rintro e w1 ⟨ys, A1, c1, rfl, hcut, hr, rfl⟩
  obtain ⟨hc1, hl1, -, hn, hv, -⟩ := hcut
  have HN := Lib.hid hn
  have HV := Lib.hid hv
  clear hn hv h
  rcases (show ys.length = 0 ∨ ys.length = 1 ∨ ys.length = 2 ∨ 3 ≤ ys.length by omega) with h0 | h0 | h0 | h0
  · obtain rfl : ys = [] := List.eq_nil_of_length_eq_zero h0
    go_wp2
    go_ret2
    refine ⟨rfl, .inl ?_⟩
    rw [← HV.out]
    exact ⟨by simp [val], rfl⟩
  · obtain ⟨p, rfl⟩ : ∃ p, ys = [p] := List.length_eq_one_iff.1 h0
    obtain ⟨b, o, rfl, _, hcell⟩ := hr.at_ (j := 0) (by simp)
    have hp := HN.out.1.get (j := 0) (by simp)
    simp only [List.getElem_cons_zero, Nat.add_zero] at hcell hp
    have e1 : val 4294967296 d = p := by rw [← HV.out]; simp [val]
    have HE := Lib.hid e1
    clear e1
    go_wp2
    go_ret2
    refine ⟨rfl, .inl ?_⟩
    rw [HE.out]
    refine ⟨by omega, ?_⟩
    show Ending.returned (.tuple #[.int .u64 (bits .or .u64 ((0 * 4294967296 : Nat) : Int) (p : Int)), .bool true]) = _
    rw [or_words p 0 hp (by omega)]
    rfl
  · obtain ⟨p, q, rfl⟩ : ∃ p q, ys = [p, q] := by
      match ys, h0 with
      | [p, q], _ => exact ⟨p, q, rfl⟩
    obtain ⟨b, o, rfl, _, hcell⟩ := hr (by simp)
    have hp := HN.out.1.get (j := 0) (by simp)
    have hq := HN.out.1.get (j := 1) (by simp)
    have h1 := hcell 0 (by simp)
    have h2 := hcell 1 (by simp)
    clear hcell
    simp only [List.getElem_cons_zero, List.getElem_cons_succ, Nat.add_zero] at h1 h2 hp hq
    have e1 : val 4294967296 d = p + 4294967296 * q := by rw [← HV.out]; simp [val]
    have HE := Lib.hid e1
    clear e1
    go_wp2
    go_ret2
    refine ⟨rfl, .inl ?_⟩
    rw [HE.out]
    refine ⟨by omega, ?_⟩
    show Ending.returned (.tuple #[.int .u64 (bits .or .u64 ((q : Int) * 4294967296) (p : Int)), .bool true]) = _
    rw [show (q : Int) * 4294967296 = ((q * 4294967296 : Nat) : Int) by omega, or_words p q hp hq]
  · have hbig : ¬ val 4294967296 d < 18446744073709551616 := by
      rw [← HV.out]
      intro hlt
      have := HN.out.2.length_le (b := 4294967296) (n := 2) (by omega) hlt
      omega
    have HB := Lib.hid hbig
    clear hbig
    go_wp2
    go_ret2
    exact ⟨rfl, .inr ⟨HB.out, rfl⟩⟩

end Go.Proofs.YtdmoibphidipeaaGreatDoor
/- What the library answers for a number's decimal digits: strconv.FormatUint, strconv.AppendUint at base 10. -/

namespace Go.Proofs.YtdmoibphidipeaaGreatDoor
open Go.RowKit Num

/-- the table of powers of 10, as the program's text lays it -/
def Tab (w : World) : Prop := Lib.TabIs Tryz.prog w "internal/strconv.uint64pow10" .u64 Lib.pow10Tab

set_option maxHeartbeats 3200000 in
set_option maxRecDepth 100000 in
theorem int_FormatUint (u : Nat) (hu64 : u < 18446744073709551616) (w : World) (htab : Tab w) :
    Calls Tryz.prog 214 #[.int .u64 u, .int .i64 10] w fun e w' => e = .returned (.string ⟨(Lib.decDigits u).toArray⟩) ∧ Below w.heap.size w w' := by
  by_cases hs : u < 100
  · go_enter Tryz.func214, Tryz.ntmps214
    go_wp2_with (go_at_call 236; refine (Tryz.internal_strconv_small u hs _).mono ?_; rintro e w' ⟨rfl, rfl⟩)
    go_ret
    exact ⟨rfl, Below.refl _ _⟩
  · have hu1 : 1 ≤ u := by omega
    have hnd20 : Lib.nDigits u ≤ 20 := by have := Lib.numDigits_eq u hu1 hu64; split at this <;> omega
    have hal : Tryz.prog.arrayLen 210 = 24 := by kernel_rfl
    have hsl : ∀ W, (Instr.sliceAt 210 (.pointer (some ⟨w.heap.size, 0, none⟩)) none (some (.int .i64 (Lib.nDigits u : Int))) none).run Tryz.prog W = .ok (.slice (some ⟨w.heap.size, 0, none⟩) (Lib.nDigits u) 24) W := fun W => by
      rw [run_sliceAt_array_h W 210 ⟨w.heap.size, 0, none⟩ (by simp [Program.arrayLen, Program.elem, Tryz.underlying210]) .i64 (Lib.nDigits u : Int) (by omega) (by rw [hal]; omega)]
      go_simp
      try omega
    have hH0 := Lib.holds_zero0 w 210 (Lib.nDigits u) (by omega)
    have hfmt := Tryz.internal_strconv_formatBase10 w.heap.size 0 24 u (Array.replicate (Lib.nDigits u) 0) (w.alloc (.cells Lib.zeros24 210)) hH0 (by rw [Array.size_replicate]; exact Lib.lt_pow_nDigits u) hu64 (by rw [Array.size_replicate]; omega)
    rw [Array.size_replicate] at hfmt
    have HH0 := Lib.hid hH0
    have iu : (100 : Int) ≤ (u : Int) := by omega
    clear hH0 hal
    go_enter Tryz.func214, Tryz.ntmps214
    go_wp2_with (first
      | (go_at_call 237; refine (Tryz.internal_strconv_numDigits u hu1 hu64 _ (Lib.tabIs_alloc htab _)).mono ?_; rintro e w' ⟨rfl, rfl⟩))
    go_at_call 238
    refine hfmt.mono ?_
    rintro e w' ⟨rfl, k, v', dk, rfl, hF⟩
    obtain ⟨os, eo⟩ := Lib.fin_at w (.cells Lib.zeros24 210) dk k 0
    have hbel : Below w.heap.size w ((Go.Sort.putRow (fun (b : UInt8) => Value.int .u8 (b.toNat : Int)) (w.alloc (.cells Lib.zeros24 210)) w.heap.size 0 dk).drewN k) := by rw [eo]; exact Lib.below_grow w.heap.size w (Nat.le_refl _) k os
    have hcv : (convert 168 9 (.slice (some ⟨w.heap.size, 0, none⟩) (Lib.nDigits u) 24)).run Tryz.prog ((Go.Sort.putRow (fun (b : UInt8) => Value.int .u8 (b.toNat : Int)) (w.alloc (.cells Lib.zeros24 210)) w.heap.size 0 dk).drewN k) = .ok (.string ⟨(Lib.decDigits u).toArray⟩) ((Go.Sort.putRow (fun (b : UInt8) => Value.int .u8 (b.toNat : Int)) (w.alloc (.cells Lib.zeros24 210)) w.heap.size 0 dk).drewN k) := by
      have h := run_convert_bytes_back (P := Tryz.prog) ((Go.Sort.putRow (fun (b : UInt8) => Value.int .u8 (b.toNat : Int)) (w.alloc (.cells Lib.zeros24 210)) w.heap.size 0 dk).drewN k) 168 9 5 ⟨w.heap.size, 0, none⟩ 24 (Lib.decDigits u) Tryz.underlying168 Tryz.underlying5 Tryz.underlying9 (fun j hj => by
        rw [Lib.add_plain, Lib.row_is_numeral hF j hj, World.cell?_drewN]
        exact Go.Sort.cell?_putRow (fun (b : UInt8) => Value.int .u8 (b.toNat : Int)) _ w.heap.size 0 _ dk HH0.out (by rw [hF.size, Array.size_replicate]) j (by rw [hF.size]; rw [Lib.decDigits_length] at hj; exact hj))
      rw [Lib.decDigits_length] at h
      exact h
    have HB := Lib.hid hbel
    clear eo hbel hfmt
    go_wp2
    go_ret
    exact ⟨rfl, HB.out⟩

/-- strconv.FormatUint at base 10: the number's decimal digits -/
theorem lib_FormatUint (u : Nat) (hu64 : u < 18446744073709551616) (w : World) (htab : Tab w) :
    Calls Tryz.prog 172 #[.int .u64 u, .int .i64 10] w fun e w' => e = .returned (.string ⟨(Lib.decDigits u).toArray⟩) ∧ Below w.heap.size w w' := by
  have c := int_FormatUint u hu64 w htab
  go_enter Tryz.func172, Tryz.ntmps172
  go_wp2_with fail
  refine c.mono ?_
  rintro e w1 ⟨rfl, hb⟩
  go_wp2
  go_ret
  exact ⟨rfl, hb⟩

/-- strconv.AppendUint at base 10, onto a slice that the call owns -/
theorem lib_AppendUint (u B n : Nat) (hu64 : u < 18446744073709551616) (sv : Value) (xs : List Value) (w : World) (hown : w.ownsRow B 5 1 sv n xs) (hBw : B ≤ w.heap.size) (hlim : n + 20 ≤ 140737488355328) (htab : Tab w) :
    Calls Tryz.prog 175 #[sv, .int .u64 u, .int .i64 10] w fun e w' => ∃ v', e = .returned v' ∧ w'.ownsRow B 5 1 v' (n + (Lib.decDigits u).length) (xs ++ Lib.byteCells (Lib.decDigits u)) ∧ Below B w w' := by
  have c : Calls Tryz.prog 215 #[sv, .int .u64 u, .int .i64 10] w fun e w' => ∃ v', e = .returned v' ∧ w'.ownsRow B 5 1 v' (n + (Lib.decDigits u).length) (xs ++ Lib.byteCells (Lib.decDigits u)) ∧ Below B w w' := by
    by_cases hs : u < 100
    · refine (Tryz.internal_strconv_AppendUint_10_small B n u hs sv xs w hown hBw hlim).mono ?_
      rintro e w1 ⟨v', h1, h2, h3, _⟩
      exact ⟨v', h1, h2, h3⟩
    · refine (Tryz.internal_strconv_AppendUint_10_big B n u (by omega) hu64 sv xs w hown hBw hlim htab).mono ?_
      rintro e w1 ⟨v', h1, h2, h3, _⟩
      exact ⟨v', h1, h2, h3⟩
  go_enter Tryz.func175, Tryz.ntmps175
  go_wp2_with fail
  refine c.mono ?_
  rintro e w1 ⟨v', rfl, h2, h3⟩
  go_wp2
  go_ret
  exact ⟨v', rfl, h2, h3⟩
/-- the table stays as it is laid -/
theorem Tab.on {w w' : World} (h : Tab w) (hb : Below w.heap.size w w') : Tab w' := Lib.tabBelow_of_tabIs h w' hb
end Go.Proofs.YtdmoibphidipeaaGreatDoor
/- What the program's own Text answers for a number of 64 bits. -/

namespace Go.Proofs.YtdmoibphidipeaaGreatDoor
open Go.RowKit Num

/-- the text of a number of 64 bits -/
theorem nat_Text_small (d : List Nat) (A : Option Addr) (c : Nat) (S : Nat → Prop) (w : World) (h : Rd w S .u32 A d) (hl : d.length ≤ 2147483648) (hc : d.length ≤ c) (hd : Dg 4294967296 d) (hlt : val 4294967296 d < 18446744073709551616) (htab : Tab w) :
    Calls Tryz.prog 130 #[.slice A d.length c] w fun e w' => e = .returned (.string ⟨(Lib.decDigits (val 4294967296 d)).toArray⟩) ∧ Below w.heap.size w w' := by
  have cu := nat_Uint d A c S w h hl hc hd
  obtain ⟨N, hN⟩ : ∃ N, val 4294967296 d = N := ⟨_, rfl⟩
  rw [hN] at cu hlt ⊢
  have cf := lib_FormatUint N hlt w htab
  have HL := Lib.hid hlt
  clear hlt hN
  go_enter Tryz.func130, Tryz.ntmps130
  go_wp2_with fail
  refine cu.mono ?_
  rintro e w1 ⟨rfl, ⟨_, rfl⟩ | ⟨hn, rfl⟩⟩
  · go_wp2_with fail
    refine cf.mono ?_
    rintro e w1 ⟨rfl, hb⟩
    go_wp2
    go_ret
    exact ⟨rfl, hb⟩
  · exact absurd HL.out hn
end Go.Proofs.YtdmoibphidipeaaGreatDoor
/- What the program's own calls on numbers answer: Of, moveUp, moveDown, shiftUp, shiftDown, Shift. -/

namespace Go.Proofs.YtdmoibphidipeaaGreatDoor
open Go.RowKit Num

set_option maxHeartbeats 400000 in
/-- a number of 64 bits -/
theorem nat_Of (v : Nat) (hv : v < 18446744073709551616) (w : World) :
    Calls Tryz.prog 150 #[.int .u64 v] w (Gives .u32 4294967296 v w) := by
  by_cases h0 : v = 0
  · subst h0
    go_enter Tryz.func150, Tryz.ntmps150
    go_wp2
    go_ret
    exact ⟨none, [], 0, rfl, by simp, norm_nil _, rfl, Rd.nil, Below.refl _ _⟩
  · have hbits := isBits_bitLen v hv
    have cl := Tryz.bits_Len64 (v : Int) w (by omega) (by omega)
    rw [Int.toNat_natCast] at cl
    obtain ⟨z, hz⟩ : ∃ z, Lib.bitLen v = z := ⟨_, rfl⟩
    rw [hz] at cl hbits
    have hvp : 1 ≤ v := by omega
    have hz64 : z ≤ 64 := by
      rcases hbits.2 with h1 | h1
      · omega
      · have h2 := Nat.lt_of_le_of_lt h1 (show v < 2 ^ 64 by omega)
        have := (Nat.pow_lt_pow_iff_right (show 1 < 2 by omega)).1 h2
        omega
    by_cases h32 : v < 4294967296
    · have hz1 : 1 ≤ z ∧ z ≤ 32 := by
        refine ⟨?_, ?_⟩
        · rcases Nat.eq_zero_or_pos z with h | h
          · subst h; have := hbits.1; simp at this; omega
          · exact h
        · rcases hbits.2 with h1 | h1
          · omega
          · have h2 := Nat.lt_of_le_of_lt h1 (show v < 2 ^ 32 by omega)
            have := (Nat.pow_lt_pow_iff_right (show 1 < 2 by omega)).1 h2
            omega
      have e : ((z : Int) + 32 - 1) / 32 = ((1 : Nat) : Int) := by omega
      have hmk : ∀ u : World, (Instr.makeSlice 35 (.int .i64 (((z : Int) + 32 - 1) / 32)) (.int .i64 (((z : Int) + 32 - 1) / 32))).run Tryz.prog u =
        .ok (.slice (some ⟨u.heap.size, 0, none⟩) 1 1) (u.alloc (.cells #[.int .u32 0] 102)) := fun u => by rw [e]; exact make_words 1 (by omega) u
      clear hz hbits e
      go_enter Tryz.func150, Tryz.ntmps150
      go_wp2_with (go_at_call 163; refine cl.mono ?_; rintro e w' ⟨rfl, rfl⟩)
      go_ret
      exact ⟨_, [v], 1, rfl, by simp, ⟨by simpa [Dg] using h32, by simpa [Top] using h0⟩, by simp [val], (Row.new _ 102 .u32 [v]).rd_all (Row.new _ 102 .u32 [v]).lt, (Below.refl _ _).alloc (Nat.le_refl _) _⟩
    · have hz1 : 33 ≤ z := by
        rcases Nat.lt_or_ge z 33 with h | h
        · have h1 : (2 : Nat) ^ z ≤ 2 ^ 32 := Nat.pow_le_pow_right (by omega) (by omega)
          have := hbits.1
          omega
        · exact h
      have e : ((z : Int) + 32 - 1) / 32 = ((2 : Nat) : Int) := by omega
      have hmk : ∀ u : World, (Instr.makeSlice 35 (.int .i64 (((z : Int) + 32 - 1) / 32)) (.int .i64 (((z : Int) + 32 - 1) / 32))).run Tryz.prog u =
        .ok (.slice (some ⟨u.heap.size, 0, none⟩) 2 2) (u.alloc (.cells #[.int .u32 0, .int .u32 0] 102)) := fun u => by rw [e]; exact make_words 2 (by omega) u
      clear hz hbits e
      go_enter Tryz.func150, Tryz.ntmps150
      go_wp2_with (go_at_call 163; refine cl.mono ?_; rintro e w' ⟨rfl, rfl⟩)
      go_ret
      have ho : Row (w'.alloc (Obj.cells #[Value.int IntKind.u32 ((v : Int) % 4294967296), Value.int IntKind.u32 ((v : Int) / 4294967296)] 102)) w'.heap.size 102 .u32 [v % 4294967296, v / 4294967296] := Row.new w' 102 .u32 [v % 4294967296, v / 4294967296]
      exact ⟨_, [v % 4294967296, v / 4294967296], 2, rfl, by simp, ⟨by simp [Dg]; omega, by simp [Top]; omega⟩, by simp [val]; omega, ho.rd_all ho.lt, (Below.refl _ _).alloc (Nat.le_refl _) _⟩

set_option maxHeartbeats 800000 in
/-- moving the n words of block g from off on up by s bits: what leaves the last one is lost -/
theorem nat_moveUp (zs : List Nat) (g off n c s : Nat) (t : TypeId) (w : World) (hrow : Row w g t .u32 zs) (hn : off + n ≤ zs.length) (hl : n ≤ 4294967296) (hz : Dg 4294967296 zs) (hs : s < 32) :
    Calls Tryz.prog 260 #[.slice (some ⟨g, off, none⟩) n c, .int .i64 s] w fun e w' => e = .returned (.tuple #[]) ∧ ∃ cs cy, cs.length = n ∧ Dg 4294967296 cs ∧ val 4294967296 cs + 4294967296 ^ n * cy = val 4294967296 ((zs.drop off).take n) * 2 ^ s ∧ Row w' g t .u32 (splice zs off cs) ∧ w.grownBy w' (some g) := by
  go_enter Tryz.func260, Tryz.ntmps260
  go_wp2_with fail
  go_loopg [4, 5, 6, 9] n (fun gh c' _ _ i wr => ∃ (k b : Nat) (cs : List Nat), gh + k = n ∧ i = .int .i64 k ∧ c' = .int .u32 b ∧ b < 4294967296 ∧ cs.length = k ∧ Dg 4294967296 cs ∧ Row wr g t .u32 (splice zs off cs) ∧ w.grownBy wr (some g) ∧
    val 4294967296 cs + 4294967296 ^ k * (b / 2 ^ (32 - s)) = 0 + val 4294967296 ((zs.drop off).take k) * 2 ^ s)
  case atStart => exact ⟨0, 0, [], by omega, rfl, rfl, by omega, rfl, Dg.nil _, by rw [splice_nil]; exact hrow, World.grownBy.refl _ _, by simp [val]⟩
  case round =>
    obtain ⟨k, b, cs, hg, rfl, rfl, hb, rfl, hcd, hr, hgr, hv⟩ := hrel
    have HG := Lib.hid hg
    have HV := Lib.hid hv
    clear hg hv
    have hlen : (splice zs off cs).length = zs.length := length_splice' (by have := HG.out; omega)
    have HL := Lib.hid hlen
    clear hlen
    by_cases hlt : cs.length < n
    · have ca := hr.cell (i := off + cs.length) (by rw [HL.out]; omega)
      rw [get_splice_ge (by omega) (Nat.le_refl _)] at ca
      have hf := hr.frozen (off + cs.length)
      have hp1 := hz.get (j := off + cs.length) (by omega)
      have hs1 := take_drop_succ (zs := zs) (off := off) (k := cs.length) (by omega) 4294967296
      obtain ⟨p, hp⟩ : ∃ p, zs[off + cs.length]'(by omega) = p := ⟨_, rfl⟩
      rw [hp] at ca hp1 hs1
      have HS1 := Lib.hid hs1
      clear hp hs1
      have hs0 : (0 : Int) ≤ (s : Int) := by omega
      have hs32 : (s : Int) < 32 := by omega
      go_wp2_with fail
      go_region
      obtain ⟨ho1, ho2⟩ := or_up (p := p) hb hs
      have e1 : bits BinOp.or IntKind.u32 ((p : Int) * 2 ^ s % 4294967296) ((b : Int) / 2 ^ (32 - s)) = (((b / 2 ^ (32 - s) + (2 ^ s * p + 0)) % 4294967296 : Nat) : Int) := by
        rw [show (p : Int) * 2 ^ s % 4294967296 = ((p * 2 ^ s % 4294967296 : Nat) : Int) by simp, show (b : Int) / 2 ^ (32 - s) = ((b / 2 ^ (32 - s) : Nat) : Int) by simp, u32_or_nat _ _ (Nat.mod_lt _ (by omega)) (Nat.lt_of_le_of_lt (Nat.div_le_self _ _) hb), ho1]
      have HE := Lib.hid e1
      have HO := Lib.hid ho2
      clear e1 ho1 ho2
      go_wp2_with fail
      go_roundg (gk - 1)
      case measure => have := HG.out; omega
      case rel =>
        rw [HE.out]
        have hr2 := hr.set (off + cs.length) ((b / 2 ^ (32 - s) + (2 ^ s * p + 0)) % 4294967296)
        rw [splice_snoc (by omega)] at hr2
        refine ⟨cs.length + 1, p, cs ++ [(b / 2 ^ (32 - s) + (2 ^ s * p + 0)) % 4294967296], by have := HG.out; omega, by go_num, rfl, hp1, by simp, hcd.snoc (Nat.mod_lt _ (by omega)), hr2, grown_drewN (grown_setCell hgr _ _) 1, ?_⟩
        have hm := mul_step (x := 2 ^ s) (p := 0) (q := p) rfl HV.out
        rw [HO.out] at hm
        rw [hm, HS1.out]
        simp
    · have hk : cs.length = n := by have := HG.out; omega
      have HK := Lib.hid hk
      clear hk
      go_wp2
      go_end0
      refine ⟨rfl, cs, b / 2 ^ (32 - s), HK.out, hcd, ?_, hr, hgr⟩
      have := HV.out
      rw [HK.out, Nat.zero_add] at this
      exact this

set_option maxHeartbeats 800000 in
/-- moving the words of block g down by s bits: what leaves the first one is lost -/
theorem nat_moveDown (zs : List Nat) (g c s : Nat) (t : TypeId) (w : World) (hrow : Row w g t .u32 zs) (hl : zs.length ≤ 4294967296) (hz : Dg 4294967296 zs) (hs : s < 32) :
    Calls Tryz.prog 262 #[.slice (some ⟨g, 0, none⟩) zs.length c, .int .i64 s] w fun e w' => e = .returned (.tuple #[]) ∧ ∃ cs, cs.length = zs.length ∧ Dg 4294967296 cs ∧ val 4294967296 cs = val 4294967296 zs / 2 ^ s ∧ Row w' g t .u32 cs ∧ w.grownBy w' (some g) := by
  go_enter Tryz.func262, Tryz.ntmps262
  go_wp2_with fail
  go_loopg [4, 5, 6] zs.length (fun gh c' i _ wr => ((∃ k : Nat, gh = k + 1 ∧ i = .int .i64 k) ∨ (gh = 0 ∧ i = .int .i64 (-1))) ∧ gh ≤ zs.length ∧ ∃ (b : Nat) (es : List Nat), c' = .int .u32 b ∧ b < 4294967296 ∧ val 4294967296 (zs.drop gh) % 4294967296 = b ∧ es.length + gh = zs.length ∧ Dg 4294967296 es ∧ Row wr g t .u32 (zs.take gh ++ es) ∧ w.grownBy wr (some g) ∧
    val 4294967296 es = val 4294967296 (zs.drop gh) / 2 ^ s)
  case atStart =>
    refine ⟨?_, Nat.le_refl _, 0, [], rfl, by omega, by simp [val], by simp, Dg.nil _, by simpa using hrow, World.grownBy.refl _ _, by simp [val]⟩
    by_cases h0 : zs.length = 0
    · refine .inr ⟨h0, ?_⟩; congr 1; omega
    · refine .inl ⟨zs.length - 1, by omega, ?_⟩; congr 1; omega
  case round =>
    obtain ⟨⟨k, rfl, rfl⟩ | ⟨rfl, rfl⟩, hg, b, es, rfl, hb, hbv, hel, hed, hr, hgr, hv⟩ := hrel
    · have hk : k < zs.length := by omega
      have htl : (zs.take (k + 1)).length = k + 1 := by rw [List.length_take]; omega
      have ca := hr.cell (i := k) (by rw [List.length_append, htl]; omega)
      rw [List.getElem_append_left (by rw [htl]; omega), List.getElem_take] at ca
      have hf := hr.frozen k
      have hp1 := hz.get hk
      have hs1 := val_drop_succ (b := 4294967296) hk
      have hse : ∀ v, (zs.take (k + 1) ++ es).set k v = zs.take k ++ (v :: es) := fun v => by
        rw [List.set_append_left _ _ (by rw [htl]; omega), take_succ_get hk, List.set_append_right _ _ (by rw [List.length_take]; omega)]
        simp [Nat.min_eq_left (show k ≤ zs.length by omega)]
      obtain ⟨p, hp⟩ : ∃ p, zs[k] = p := ⟨_, rfl⟩
      rw [hp] at ca hp1 hs1
      have HS1 := Lib.hid hs1
      have HBV := Lib.hid hbv
      have HEL := Lib.hid hel
      have HV := Lib.hid hv
      have HSE := Lib.hid hse
      clear hp hs1 hbv hel hv hse htl
      have hs0 : (0 : Int) ≤ (s : Int) := by omega
      have hs32 : (s : Int) < 32 := by omega
      go_wp2_with fail
      go_region
      have ho := or_down (b := b) hp1 hs
      have hlt32 : p / 2 ^ s + 2 ^ (32 - s) * (b % 2 ^ s) < 4294967296 := by
        rw [← ho]
        exact Nat.or_lt_two_pow (n := 32) (Nat.lt_of_le_of_lt (Nat.div_le_self _ _) hp1) (Nat.mod_lt _ (by omega))
      have e1 : bits BinOp.or IntKind.u32 ((p : Int) / 2 ^ s) ((b : Int) * 2 ^ (32 - s) % 4294967296) = ((p / 2 ^ s + 2 ^ (32 - s) * (b % 2 ^ s) : Nat) : Int) := by
        rw [show (b : Int) * 2 ^ (32 - s) % 4294967296 = ((b * 2 ^ (32 - s) % 4294967296 : Nat) : Int) by simp, show (p : Int) / 2 ^ s = ((p / 2 ^ s : Nat) : Int) by simp, u32_or_nat _ _ (Nat.lt_of_le_of_lt (Nat.div_le_self _ _) hp1) (Nat.mod_lt _ (by omega)), ho]
      have HE := Lib.hid e1
      have HLT := Lib.hid hlt32
      clear e1 ho hlt32
      go_wp2_with fail
      go_roundg k
      case measure => omega
      case rel =>
        rw [HE.out]
        have hr2 := hr.set k (p / 2 ^ s + 2 ^ (32 - s) * (b % 2 ^ s))
        rw [HSE.out] at hr2
        refine ⟨?_, by omega, p, (p / 2 ^ s + 2 ^ (32 - s) * (b % 2 ^ s)) :: es, rfl, hp1, ?_, by have := HEL.out; simp; omega, Dg.cons.2 ⟨HLT.out, hed⟩, hr2, grown_drewN (grown_setCell hgr _ _) 1, ?_⟩
        · by_cases h0 : k = 0
          · subst h0; exact .inr ⟨rfl, by go_num⟩
          · exact .inl ⟨k - 1, by omega, by go_num⟩
        · rw [HS1.out, Nat.add_mul_mod_self_left, Nat.mod_eq_of_lt hp1]
        · rw [val_cons, HS1.out, down_step hs HBV.out, HV.out]
    · go_wp2
      go_end0
      refine ⟨rfl, es, by omega, hed, by simpa using hv, by simpa using hr, hgr⟩

theorem over_zero {q V X c : Nat} (hX : X < q) (h : V + q * c = X) : c = 0 := by
  rcases Nat.eq_zero_or_pos c with h0 | h0
  · exact h0
  · have h1 : q * 1 ≤ q * c := Nat.mul_le_mul_left _ h0
    omega

end Go.Proofs.YtdmoibphidipeaaGreatDoor
/- What the program's Shift answers. -/

namespace Go.Proofs.YtdmoibphidipeaaGreatDoor
open Go.RowKit Num

end Go.Proofs.YtdmoibphidipeaaGreatDoor
/- Plain facts about long division: what the highest words say about how often one number is in another one. -/

namespace Go.Proofs.YtdmoibphidipeaaGreatDoor.Num

theorem guess_first {P D0 V0 d2 l2 top head Q B : Nat} (hV0 : V0 < P) (hl2 : l2 < B) (htop : 0 < top) (h : Q * (D0 + P * (d2 + B * top)) ≤ V0 + P * (l2 + B * head)) : Q ≤ head / top := by
  rw [Nat.le_div_iff_mul_le htop]
  rcases Nat.lt_or_ge head (Q * top) with hlt | hge
  · exfalso
    have h1 : P * (B * (head + 1)) ≤ P * (B * (Q * top)) := Nat.mul_le_mul_left _ (Nat.mul_le_mul_left _ hlt)
    have h2 : P * (l2 + 1) ≤ P * B := Nat.mul_le_mul_left _ hl2
    have e1 : Q * (D0 + P * (d2 + B * top)) = Q * D0 + P * (Q * d2) + P * (B * (Q * top)) := by grind
    have e2 : P * (l2 + B * head) = P * l2 + P * (B * head) := by grind
    have e3 : P * (B * (head + 1)) = P * (B * head) + P * B := by grind
    have e4 : P * (l2 + 1) = P * l2 + P := by grind
    omega
  · exact hge

theorem guess_over {q P D0 V0 d2 l2 top head rest B : Nat} (hV0 : V0 < P) (hh : q * top + rest = head) (h : rest * B + l2 < q * d2) : V0 + P * (l2 + B * head) < q * (D0 + P * (d2 + B * top)) := by
  have h1 : P * (l2 + B * head + 1) ≤ P * (q * d2 + B * (q * top)) := Nat.mul_le_mul_left _ (by
    rw [← hh]
    have e : B * (q * top + rest) = B * (q * top) + rest * B := by grind
    omega)
  have e1 : q * (D0 + P * (d2 + B * top)) = q * D0 + P * (q * d2 + B * (q * top)) := by grind
  have e2 : P * (l2 + B * head + 1) = P * (l2 + B * head) + P := by grind
  omega

theorem guess_fits {q d2 l2 top head rest B : Nat} (hh : q * top + rest = head) (h : q * d2 ≤ rest * B + l2) : q * (d2 + B * top) ≤ l2 + B * head := by
  rw [← hh]
  have e : B * (q * top + rest) = B * (q * top) + rest * B := by grind
  have e1 : q * (d2 + B * top) = q * d2 + B * (q * top) := by grind
  omega
theorem guess_break {q d2 l2 top head rest B : Nat} (hh : q * top + rest = head) (hr : B ≤ rest) (hq : q < B) (hd : d2 < B) : q * (d2 + B * top) ≤ l2 + B * head := by
  refine guess_fits hh ?_
  have h1 : q * d2 ≤ B * B := Nat.mul_le_mul (by omega) (by omega)
  have h2 : B * B ≤ rest * B := Nat.mul_le_mul_right _ hr
  omega
theorem guess_close {q P D0 V0 d2 l2 top head B : Nat} (hq : q ≤ B) (hD0 : D0 < P) (htop : 0 < top) (h : q * (d2 + B * top) ≤ l2 + B * head) : (q - 1) * (D0 + P * (d2 + B * top)) ≤ V0 + P * (l2 + B * head) := by
  match q with
  | 0 => simp
  | m + 1 =>
    rw [Nat.add_sub_cancel]
    have h1 : m * D0 ≤ B * P := Nat.mul_le_mul (by omega) (by omega)
    have h2 : P * (B * 1) ≤ P * (d2 + B * top) := Nat.mul_le_mul_left _ (Nat.le_trans (Nat.mul_le_mul_left _ htop) (Nat.le_add_left _ _))
    have h3 : P * ((m + 1) * (d2 + B * top)) ≤ P * (l2 + B * head) := Nat.mul_le_mul_left _ h
    have e1 : m * (D0 + P * (d2 + B * top)) = m * D0 + P * (m * (d2 + B * top)) := by grind
    have e2 : P * ((m + 1) * (d2 + B * top)) = P * (m * (d2 + B * top)) + P * (d2 + B * top) := by grind
    have e3 : P * (B * 1) = B * P := by grind
    omega
/-- the highest word of what is divided isn't above the divisor's -/
theorem guess_top {P D0 V0 d2 l0 l1 l2 top B : Nat} (hD0 : D0 < P) (hd2 : d2 < B) (h : V0 + P * (l2 + B * (l1 + B * l0)) < B * (D0 + P * (d2 + B * top))) : l0 ≤ top := by
  rcases Nat.lt_or_ge top l0 with hlt | hge
  · exfalso
    have h1 : P * (B * (B * (top + 1))) ≤ P * (B * (B * l0)) := Nat.mul_le_mul_left _ (Nat.mul_le_mul_left _ (Nat.mul_le_mul_left _ hlt))
    have e1 : P * (l2 + B * (l1 + B * l0)) = P * l2 + P * (B * l1) + P * (B * (B * l0)) := by grind
    have e2 : B * (D0 + P * (d2 + B * top)) = B * (D0 + P * d2) + P * (B * (B * top)) := by grind
    have h3 : P * (d2 + 1) ≤ P * B := Nat.mul_le_mul_left _ hd2
    have e3 : P * (d2 + 1) = P * d2 + P := by grind
    have h2 : B * (D0 + P * d2) ≤ B * (P * B) := Nat.mul_le_mul_left _ (by omega)
    have e4 : P * (B * (B * (top + 1))) = P * (B * (B * top)) + B * (P * B) := by grind
    omega
  · exact hge
theorem guess_word {q top rest head l0 l1 B : Nat} (hh : q * top + rest = head) (hr : B ≤ rest) (hl0 : l0 ≤ top) (hl1 : l1 < B) (e : head = l1 + B * l0) : q < B := by
  rcases Nat.lt_or_ge q B with hlt | hge
  · exact hlt
  · have h1 : B * l0 ≤ q * top := Nat.mul_le_mul hge hl0
    omega
theorem guess_next {q top rest head : Nat} (hh : q * top + rest = head) (hq : 1 ≤ q) : (q - 1) * top + (rest + top) = head := by
  rw [← hh]
  match q with
  | m + 1 => rw [Nat.add_sub_cancel]; grind
theorem quot_le {Q q D V : Nat} (hQ : Q = V / D) (h : V < q * D) : Q ≤ q - 1 := by
  have h1 : Q < q := by rw [hQ]; exact Nat.div_lt_of_lt_mul (by rw [Nat.mul_comm]; exact h)
  omega
theorem val_three {b k : Nat} {x : List Nat} (h : x.length = k + 3) : val b x = val b (x.take k) + b ^ k * (x[k] + b * (x[k + 1] + b * x[k + 2])) := by
  have h1 := val_take_succ (b := b) (xs := x) (k := k) (by omega)
  have h2 := val_take_succ (b := b) (xs := x) (k := k + 1) (by omega)
  have h3 := val_take_succ (b := b) (xs := x) (k := k + 2) (by omega)
  rw [List.take_of_length_le (by omega)] at h3
  rw [h3, h2, h1, Nat.pow_succ, Nat.pow_succ]
  grind
theorem val_two {b k : Nat} {x : List Nat} (h : x.length = k + 2) : val b x = val b (x.take k) + b ^ k * (x[k] + b * x[k + 1]) := by
  have h1 := val_take_succ (b := b) (xs := x) (k := k) (by omega)
  have h2 := val_take_succ (b := b) (xs := x) (k := k + 1) (by omega)
  rw [List.take_of_length_le (by omega)] at h2
  rw [h2, h1, Nat.pow_succ]
  grind
/-- taking q times d off, word by word -/
theorem times_step {b X Y c x y q v k : Nat} {ys : List Nat} (hk : ys.length = k) (h : val b ys + Y * q = X + b ^ k * c) (hb : 0 < b) (hv : v = c + y * q) (hw : x < b) :
    val b (ys ++ [(b + x - v % b) % b]) + (Y + b ^ k * y) * q = X + b ^ k * x + b ^ (k + 1) * (v / b + (1 - (b + x - v % b) / b)) := by
  rw [val_snoc, hk]
  have h1 : (b + x - v % b) % b + v = x + b * (v / b + (1 - (b + x - v % b) / b)) := by
    have hm := Nat.mod_lt v hb
    have hd := Nat.div_add_mod v b
    rcases Nat.lt_or_ge x (v % b) with hlt | hge
    · have e1 : (b + x - v % b) / b = 0 := Nat.div_eq_of_lt (by omega)
      rw [e1, Nat.mod_eq_of_lt (by omega), Nat.mul_add, Nat.sub_zero, Nat.mul_one]
      omega
    · have e0 : b + x - v % b = (x - v % b) + b := by omega
      have e1 : (b + x - v % b) / b = 1 := by rw [e0, Nat.add_div_right _ hb, Nat.div_eq_of_lt (by omega)]
      have e2 : (b + x - v % b) % b = x - v % b := by rw [e0, Nat.add_mod_right, Nat.mod_eq_of_lt (by omega)]
      rw [e1, e2, Nat.sub_self, Nat.add_zero]
      omega
  have h2 : b ^ k * ((b + x - v % b) % b) + b ^ k * v = b ^ k * x + b ^ (k + 1) * (v / b + (1 - (b + x - v % b) / b)) := by
    rw [← Nat.mul_add, h1, Nat.mul_add, Nat.pow_succ, Nat.mul_assoc]
  have e3 : (Y + b ^ k * y) * q = Y * q + b ^ k * (y * q) := by grind
  have e4 : b ^ k * v = b ^ k * c + b ^ k * (y * q) := by rw [hv, Nat.mul_add]
  rw [e3]
  omega
/-- what is carried stays a word -/
theorem times_carry {c x y q : Nat} (hc : c < 4294967296) (hy : y < 4294967296) (hq : q < 4294967296) :
    (c + y * q) / 4294967296 + (1 - (4294967296 + x - (c + y * q) % 4294967296) / 4294967296) < 4294967296 := by
  have h1 : y * q ≤ 4294967295 * 4294967295 := Nat.mul_le_mul (by omega) (by omega)
  generalize y * q = z at h1
  omega
/-- the words that are left, and how often -/
theorem take_fine {V D q E : Nat} (h : E + D * q = V) (h1 : V / D ≤ q) (hD : 0 < D) : q = V / D ∧ E = V % D := by
  have h2 : q ≤ V / D := by
    rw [Nat.le_div_iff_mul_le hD, Nat.mul_comm]; omega
  have e : q = V / D := by omega
  refine ⟨e, ?_⟩
  have := Nat.div_add_mod V D
  rw [← e] at this
  omega
/-- too much was taken, and is given back once -/
theorem take_back {E C V D q P cc : Nat} (hE : E < P) (hD : D ≤ P) (hC : C < P) (h1 : C + D * q = V + P) (h2 : E + P * cc = C + D) (h3 : (q - 1) * D ≤ V) : 1 ≤ q ∧ V < q * D ∧ E + D * (q - 1) = V := by
  match q with
  | 0 => rw [Nat.mul_zero] at h1; omega
  | m + 1 =>
    rw [Nat.add_sub_cancel] at h3 ⊢
    have e1 : D * (m + 1) = D * m + D := Nat.mul_succ D m
    have e2 : (m + 1) * D = D * m + D := by rw [Nat.mul_comm]; exact e1
    rw [Nat.mul_comm] at h3
    refine ⟨by omega, by omega, ?_⟩
    rcases (show cc = 0 ∨ cc = 1 ∨ 2 ≤ cc by omega) with h | h | h
    · subst h; rw [Nat.mul_zero] at h2; omega
    · subst h; rw [Nat.mul_one] at h2; omega
    · have : P * 2 ≤ P * cc := Nat.mul_le_mul_left _ h
      omega
theorem seg_splice {zs cs : List Nat} {off n : Nat} (hc : cs.length = n) (ho : off ≤ zs.length) : ((splice zs off cs).drop off).take n = cs := by
  simp only [splice]
  rw [List.drop_left' (by rw [List.length_take]; omega), List.take_left' hc]
theorem splice_again {zs cs es : List Nat} {off : Nat} (h : es.length = cs.length) (ho : off ≤ zs.length) : splice (splice zs off cs) off es = splice zs off es := by
  simp only [splice]
  rw [List.take_left' (by rw [List.length_take]; omega), h, ← List.drop_drop, List.drop_left' (by rw [List.length_take]; omega), List.drop_left' rfl]
end Go.Proofs.YtdmoibphidipeaaGreatDoor.Num
/- What the program's own long division answers: divWord, guess. -/

namespace Go.Proofs.YtdmoibphidipeaaGreatDoor
open Go.RowKit Num

theorem div_word_step {V p d q r : Nat} (hd : 0 < d) (hr : V % d = r) (hq : V / d = q) : (p + 4294967296 * V) / d = (p + 4294967296 * r) / d + 4294967296 * q ∧ (p + 4294967296 * V) % d = (p + 4294967296 * r) % d := by
  have h := Nat.div_add_mod V d
  rw [hr, hq] at h
  have e : p + 4294967296 * V = (p + 4294967296 * r) + d * (4294967296 * q) := by rw [← h]; grind
  rw [e, Nat.add_mul_div_left _ _ hd, Nat.add_mul_mod_self_left]
  exact ⟨rfl, rfl⟩

theorem u64_quo (N D : Nat) (hN : N < 18446744073709551616) : IntKind.u64.wrap ((N : Int) / (D : Int)) = ((N / D : Nat) : Int) := by
  have h2 : N / D < 18446744073709551616 := Nat.lt_of_le_of_lt (Nat.div_le_self _ _) hN
  rw [← Int.natCast_ediv]
  generalize N / D = q at h2
  exact IntWalk.u64_in _ (by omega)

set_option maxHeartbeats 800000 in
/-- the words of block g become how often d is in them; what is left is answered -/
theorem nat_divWord (zs tl : List Nat) (g c d : Nat) (t : TypeId) (w : World) (hrow : Row w g t .u32 (zs ++ tl)) (hl : zs.length ≤ 4294967296) (hz : Dg 4294967296 zs) (hd0 : 0 < d) (hd : d < 4294967296) :
    Calls Tryz.prog 174 #[.slice (some ⟨g, 0, none⟩) zs.length c, .int .u32 d] w fun e w' => e = .returned (.int .u32 ((val 4294967296 zs % d : Nat) : Int)) ∧ ∃ cs, cs.length = zs.length ∧ Dg 4294967296 cs ∧ val 4294967296 cs = val 4294967296 zs / d ∧ Row w' g t .u32 (cs ++ tl) ∧ w.grownBy w' (some g) := by
  go_enter Tryz.func174, Tryz.ntmps174
  go_wp2_with fail
  go_loopg [5, 6] zs.length (fun gh c' i wr => ((∃ k : Nat, gh = k + 1 ∧ i = .int .i64 k) ∨ (gh = 0 ∧ i = .int .i64 (-1))) ∧ gh ≤ zs.length ∧ ∃ (b : Nat) (es : List Nat), c' = .int .u64 b ∧ b < d ∧ val 4294967296 (zs.drop gh) % d = b ∧ es.length + gh = zs.length ∧ Dg 4294967296 es ∧ Row wr g t .u32 (zs.take gh ++ (es ++ tl)) ∧ w.grownBy wr (some g) ∧
    val 4294967296 (zs.drop gh) / d = val 4294967296 es)
  case atStart =>
    refine ⟨?_, Nat.le_refl _, 0, [], rfl, hd0, by simp [val], by simp, Dg.nil _, by simpa using hrow, World.grownBy.refl _ _, by simp [val]⟩
    by_cases h0 : zs.length = 0
    · refine .inr ⟨h0, ?_⟩; congr 1; omega
    · refine .inl ⟨zs.length - 1, by omega, ?_⟩; congr 1; omega
  case round =>
    obtain ⟨⟨k, rfl, rfl⟩ | ⟨rfl, rfl⟩, hg, b, es, rfl, hb, hbv, hel, hed, hr, hgr, hv⟩ := hrel
    · have hk : k < zs.length := by omega
      have htl : (zs.take (k + 1)).length = k + 1 := by rw [List.length_take]; omega
      have ca := hr.cell (i := k) (by rw [List.length_append, htl]; omega)
      rw [List.getElem_append_left (by rw [htl]; omega), List.getElem_take] at ca
      have hf := hr.frozen k
      have hp1 := hz.get hk
      have hs1 := val_drop_succ (b := 4294967296) hk
      have hse : ∀ v, (zs.take (k + 1) ++ (es ++ tl)).set k v = zs.take k ++ ((v :: es) ++ tl) := fun v => by
        rw [List.set_append_left _ _ (by rw [htl]; omega), take_succ_get hk, List.set_append_right _ _ (by rw [List.length_take]; omega)]
        simp [Nat.min_eq_left (show k ≤ zs.length by omega)]
      obtain ⟨p, hp⟩ : ∃ p, zs[k] = p := ⟨_, rfl⟩
      rw [hp] at ca hp1 hs1
      have HS1 := Lib.hid hs1
      have HBV := Lib.hid hbv
      have HEL := Lib.hid hel
      have HV := Lib.hid hv
      have HSE := Lib.hid hse
      clear hp hs1 hbv hel hv hse htl
      have hb1 : b < 4294967296 := by omega
      have hor1 := or_words p b hp1 hb1
      have hN64 : p + 4294967296 * b < 18446744073709551616 := by omega
      have hNd : p + 4294967296 * b < d * 4294967296 := by omega
      have hst := fun h1 h2 => div_word_step (V := val 4294967296 (zs.drop (k + 1))) (p := p) (d := d) (q := val 4294967296 es) (r := b) hd0 h1 h2
      obtain ⟨N, hN⟩ : ∃ N, p + 4294967296 * b = N := ⟨_, rfl⟩
      rw [hN] at hor1 hN64 hNd hst
      have hor : bits BinOp.or IntKind.u64 ((b : Int) * 4294967296) (p : Int) = (N : Int) := by rw [← hor1]; congr 1
      have hquo := u64_quo N d hN64
      have hrem := tmod_nat N d
      have hq := Nat.div_lt_of_lt_mul hNd
      have HST := Lib.hid hst
      clear hor1 hst hN
      go_wp2_with fail
      go_roundg k
      case measure => omega
      case rel =>
        obtain ⟨e1, e2⟩ := HST.out HBV.out HV.out
        have e0 : ∀ Q : Nat, Q < 4294967296 → (Q : Int) % 4294967296 = Q := fun Q hQ => by omega
        have e3 : (N : Int) / (d : Int) % 4294967296 = ((N / d : Nat) : Int) := by
          rw [← Int.natCast_ediv, e0 _ hq]
        rw [e3]
        have hr2 := hr.set k (N / d)
        rw [HSE.out] at hr2
        refine ⟨?_, by omega, N % d, N / d :: es, by simp, Nat.mod_lt _ hd0, ?_, by have := HEL.out; simp; omega, Dg.cons.2 ⟨hq, hed⟩, hr2, grown_setCell hgr _ _, ?_⟩
        · by_cases h0 : k = 0
          · subst h0; exact .inr ⟨rfl, by go_num⟩
          · exact .inl ⟨k - 1, by omega, by go_num⟩
        · rw [HS1.out, e2]
        · rw [HS1.out, e1, val_cons]
    · rw [List.drop_zero] at hbv hv
      rw [List.take_zero, List.nil_append] at hr
      have HBV := Lib.hid hbv
      have HV := Lib.hid hv
      have HEL := Lib.hid hel
      have hb1 : b < 4294967296 := by omega
      clear hbv hv hel
      go_wp2
      go_ret
      exact ⟨by rw [HBV.out]; rfl, es, HEL.out, hed, HV.out.symm, hr, hgr⟩

set_option maxHeartbeats 1600000 in
/-- a guess at how often d is in left: as often as it is, or once more -/
theorem nat_guess (x d : List Nat) (k : Nat) (A A' : Option Addr) (c c' : Nat) (S S' : Nat → Prop) (w : World) (h : Rd w S .u32 A x) (h' : Rd w S' .u32 A' d) (hxl : x.length = k + 3) (hdl : d.length = k + 2) (hk : k ≤ 1073741824) (hx : Dg 4294967296 x) (hd : Dg 4294967296 d) (htop : 0 < d[k + 1]) (hlt : val 4294967296 x < 4294967296 * val 4294967296 d) :
    Calls Tryz.prog 267 #[.slice A (k + 3) c, .slice A' (k + 2) c'] w fun e w' => ∃ (q : Nat), e = .returned (.int .u32 q) ∧ q < 4294967296 ∧ val 4294967296 x / val 4294967296 d ≤ q ∧ (q - 1) * val 4294967296 d ≤ val 4294967296 x ∧ ∃ m, w' = w.drewN m := by
  obtain ⟨bx, ox, rfl, _, hcx⟩ := h (by omega)
  obtain ⟨bd, od, rfl, _, hcd⟩ := h' (by omega)
  have c0 := hcx k (by omega)
  have c1 := hcx (k + 1) (by omega)
  have c2 := hcx (k + 2) (by omega)
  have t0 := hcd k (by omega)
  have t1 := hcd (k + 1) (by omega)
  have l0 := hx.get (j := k) (by omega)
  have l1 := hx.get (j := k + 1) (by omega)
  have l2 := hx.get (j := k + 2) (by omega)
  have m0 := hd.get (j := k) (by omega)
  have m1 := hd.get (j := k + 1) (by omega)
  have hvx := val_three (b := 4294967296) hxl
  have hvd := val_two (b := 4294967296) hdl
  have hV0 := val_lt (b := 4294967296) (xs := x.take k) hx.take
  have hD0 := val_lt (b := 4294967296) (xs := d.take k) hd.take
  rw [List.length_take, Nat.min_eq_left (by omega)] at hV0 hD0
  have hPp : 0 < 4294967296 ^ k := Nat.pow_pos (by omega)
  obtain ⟨P, hP⟩ : ∃ P, 4294967296 ^ k = P := ⟨_, rfl⟩
  obtain ⟨V0, hV0e⟩ : ∃ V0, val 4294967296 (x.take k) = V0 := ⟨_, rfl⟩
  obtain ⟨D0, hD0e⟩ : ∃ D0, val 4294967296 (d.take k) = D0 := ⟨_, rfl⟩
  obtain ⟨p0, hp0⟩ : ∃ p, x[k] = p := ⟨_, rfl⟩
  obtain ⟨p1, hp1⟩ : ∃ p, x[k + 1] = p := ⟨_, rfl⟩
  obtain ⟨p2, hp2⟩ : ∃ p, x[k + 2] = p := ⟨_, rfl⟩
  obtain ⟨q0, hq0⟩ : ∃ p, d[k] = p := ⟨_, rfl⟩
  obtain ⟨q1, hq1⟩ : ∃ p, d[k + 1] = p := ⟨_, rfl⟩
  rw [hP] at hvx hvd hV0 hD0 hPp
  rw [hV0e] at hvx hV0
  rw [hD0e] at hvd hD0
  rw [hp0] at hvx c0 l0
  rw [hp1] at hvx c1 l1
  rw [hp2] at hvx c2 l2
  rw [hq0] at hvd t0 m0
  rw [hq1] at hvd t1 m1 htop
  rw [hvx, hvd] at hlt ⊢
  clear hP hV0e hD0e hp0 hp1 hp2 hq0 hq1 hcx hcd hvx hvd hx hd h h' hxl hdl
  have hle := guess_top hD0 m0 hlt
  obtain ⟨head, hhead⟩ : ∃ head, p1 + 4294967296 * p2 = head := ⟨_, rfl⟩
  rw [hhead] at hlt ⊢
  have hh64 : head < 18446744073709551616 := by omega
  have HH := Lib.hid hhead
  have HLT := Lib.hid hlt
  have hor1 := or_words p1 p2 l1 l2
  rw [hhead] at hor1
  clear hhead hlt
  have hor : bits BinOp.or IntKind.u64 ((p2 : Int) * 4294967296) (p1 : Int) = (head : Int) := by rw [← hor1]; congr 1
  have hquo := u64_quo head q1 hh64
  have hQ0 : (V0 + P * (p0 + 4294967296 * head)) / (D0 + P * (q0 + 4294967296 * q1)) ≤ head / q1 := guess_first hV0 l0 htop (Nat.div_mul_le_self _ _)
  have hr0 : head % q1 < 4294967296 := Nat.lt_trans (Nat.mod_lt _ htop) m1
  have hhr : head / q1 * q1 + head % q1 = head := by rw [Nat.mul_comm]; exact Nat.div_add_mod head q1
  have hQ64 : head / q1 < 18446744073709551616 := Nat.lt_of_le_of_lt (Nat.div_le_self _ _) hh64
  obtain ⟨Q, hQ⟩ : ∃ Q, (V0 + P * (p0 + 4294967296 * head)) / (D0 + P * (q0 + 4294967296 * q1)) = Q := ⟨_, rfl⟩
  rw [hQ] at hQ0
  have HQ := Lib.hid hQ
  have HQ0 := Lib.hid hQ0
  have HHR := Lib.hid hhr
  have HQ64 := Lib.hid hQ64
  have HR0 := Lib.hid hr0
  clear hor1 hQ hQ0 hhr hQ64 hr0
  go_enter Tryz.func267, Tryz.ntmps267
  go_wp2_with fail
  go_region
  go_wp2_with fail
  go_region
  go_wp2_with fail
  go_loopg [8, 9] (4294967296 - head % q1) (fun gh q' r' wr => ∃ (q r m : Nat), gh + r = 4294967296 ∧ q' = .int .u64 q ∧ r' = .int .u64 r ∧ wr = w.drewN m ∧ r < 4294967296 ∧ q * q1 + r = head ∧ Q ≤ q ∧ q < 18446744073709551616)
  case atStart => exact ⟨head / q1, head % q1, 2, by have := HR0.out; omega, rfl, rfl, rfl, HR0.out, HHR.out, HQ0.out, HQ64.out⟩
  case round =>
    obtain ⟨q, r, m, hg, rfl, rfl, rfl, hr, hqr, hQq, hq64⟩ := hrel
    have HG := Lib.hid hg
    have HQR := Lib.hid hqr
    have HQQ := Lib.hid hQq
    clear hg hqr hQq
    have hstop : ∀ q' : Nat, q' < 4294967296 → q' * (q0 + 4294967296 * q1) ≤ p0 + 4294967296 * head → Q ≤ q' → ∀ n : Nat, ∃ q, (Ending.returned (Value.int IntKind.u32 (q' : Int))) = Ending.returned (Value.int IntKind.u32 (q : Nat)) ∧ q < 4294967296 ∧ (V0 + P * (p0 + 4294967296 * head)) / (D0 + P * (q0 + 4294967296 * q1)) ≤ q ∧ (q - 1) * (D0 + P * (q0 + 4294967296 * q1)) ≤ V0 + P * (p0 + 4294967296 * head) ∧ ∃ m, w.drewN n = w.drewN m := fun q' h1 h2 h3 n =>
      ⟨q', rfl, h1, by rw [HQ.out]; exact h3, guess_close (by omega) hD0 htop h2, n, rfl⟩
    have HSTOP := Lib.hid hstop
    have hbrk : ∀ q' r', q' * q1 + r' = head → 4294967296 ≤ r' → q' < 4294967296 ∧ q' * (q0 + 4294967296 * q1) ≤ p0 + 4294967296 * head := fun q' r' h1 h2 =>
      have h3 := guess_word h1 h2 hle l1 HH.out.symm
      ⟨h3, guess_break h1 h2 h3 m0⟩
    have HBRK := Lib.hid hbrk
    clear hstop hbrk
    by_cases hq : 4294967295 < q
    · have hd1 : decide ((4294967295 : Int) < (q : Int)) = true := by simp; omega
      have hq1 : 1 ≤ (q : Int) := by omega
      have hQ1 : Q ≤ q - 1 := by
        have hlt2 : V0 + P * (p0 + 4294967296 * head) < (D0 + P * (q0 + 4294967296 * q1)) * 4294967296 := by rw [Nat.mul_comm _ 4294967296]; exact HLT.out
        have := Nat.div_lt_of_lt_mul hlt2
        have := HQ.out
        omega
      have HQ1 := Lib.hid hQ1
      have HN := Lib.hid (guess_next HQR.out (by omega))
      clear hQ1
      by_cases hbr : r + q1 < 4294967296
      · go_wp2_with fail
        go_quiet (fail)
        go_wp2_with fail
        go_roundg (4294967296 - (r + q1))
        case measure => have := HG.out; omega
        case rel => exact ⟨q - 1, r + q1, _, by omega, by congr 1; omega, by go_num, rfl, hbr, HN.out, HQ1.out, by omega⟩
      · go_wp2_with fail
        go_quiet (fail)
        go_wp2_with fail
        go_ret
        obtain ⟨h1, h2⟩ := HBRK.out (q - 1) (r + q1) HN.out (by omega)
        have := HSTOP.out (q - 1) h1 h2 HQ1.out (m + nq)
        rw [show ((q : Int) - 1) % 4294967296 = ((q - 1 : Nat) : Int) by omega]
        exact this
    · have hd1 : decide ((4294967295 : Int) < (q : Int)) = false := by simp; omega
      have hor1 := or_words p0 r l0 hr
      have hqq : q * q0 ≤ 4294967295 * 4294967295 := Nat.mul_le_mul (by omega) (by omega)
      have hqq1 : (q : Int) * (q0 : Int) ≤ 18446744065119617025 := by rw [← Int.natCast_mul]; omega
      have hqq0 : 0 ≤ (q : Int) * (q0 : Int) := by rw [← Int.natCast_mul]; omega
      have hor : bits BinOp.or IntKind.u64 ((r : Int) * 4294967296) (p0 : Int) = (p0 : Int) + 4294967296 * (r : Int) := by
        have e : (p0 : Int) + 4294967296 * (r : Int) = ((p0 + 4294967296 * r : Nat) : Int) := by omega
        rw [e, ← hor1]; congr 1
      clear hor1
      by_cases hc : r * 4294967296 + p0 < q * q0
      · have hcI : (p0 : Int) + 4294967296 * (r : Int) < (q : Int) * (q0 : Int) := by rw [← Int.natCast_mul]; omega
        have hq1 : 1 ≤ (q : Int) := by
          rcases Nat.eq_zero_or_pos q with h0 | h0
          · subst h0; rw [Nat.zero_mul] at hc; omega
          · omega
        have hQ1 : Q ≤ q - 1 := quot_le HQ.out.symm (guess_over hV0 HQR.out hc)
        have HQ1 := Lib.hid hQ1
        have HN := Lib.hid (guess_next HQR.out (by omega))
        clear hQ1 hc hqq
        by_cases hbr : r + q1 < 4294967296
        · go_wp2_with fail
          go_quiet (fail)
          go_wp2_with fail
          go_roundg (4294967296 - (r + q1))
          case measure => have := HG.out; omega
          case rel => exact ⟨q - 1, r + q1, _, by omega, by congr 1; omega, by go_num, rfl, hbr, HN.out, HQ1.out, by omega⟩
        · go_wp2_with fail
          go_quiet (fail)
          go_wp2_with fail
          go_ret
          obtain ⟨h1, h2⟩ := HBRK.out (q - 1) (r + q1) HN.out (by omega)
          have := HSTOP.out (q - 1) h1 h2 HQ1.out (m + nq)
          rw [show (q : Int) - 1 = ((q - 1 : Nat) : Int) by omega]
          exact this
      · have hcI : (q : Int) * (q0 : Int) ≤ (p0 : Int) + 4294967296 * (r : Int) := by rw [← Int.natCast_mul]; omega
        have HC := Lib.hid (guess_fits (l2 := p0) HQR.out (Nat.le_of_not_lt hc))
        clear hc hqq
        go_wp2_with fail
        go_quiet (fail)
        go_wp2_with fail
        go_ret
        exact HSTOP.out q (by omega) HC.out HQQ.out _
end Go.Proofs.YtdmoibphidipeaaGreatDoor
/- What the program's own long division answers: takeTimes, takeAll. -/

namespace Go.Proofs.YtdmoibphidipeaaGreatDoor
open Go.RowKit Num

theorem dg_splice {b off : Nat} {zs cs : List Nat} (hz : Dg b zs) (hc : Dg b cs) : Dg b (splice zs off cs) := by
  simp only [splice]
  exact Dg.append.2 ⟨hz.take, Dg.append.2 ⟨hc, hz.drop⟩⟩

set_option maxHeartbeats 1600000 in
/-- taking b q times off the words of block g from off on, one more than b's; true: that was too much -/
theorem nat_takeTimes (zs b : List Nat) (g off n c q : Nat) (A : Option Addr) (cb : Nat) (t : TypeId) (w : World) (hrow : Row w g t .u32 zs) (hb : Rd w (fun x => x ≠ g) .u32 A b) (hbn : b.length = n) (hn : off + (n + 1) ≤ zs.length) (hl : n ≤ 2147483648) (hz : Dg 4294967296 zs) (hbd : Dg 4294967296 b) (hq : q < 4294967296) :
    Calls Tryz.prog 268 #[.slice (some ⟨g, off, none⟩) (n + 1) c, .slice A n cb, .int .u32 q] w fun e w' => ∃ (cs : List Nat) (cy : Nat), e = .returned (.bool (decide (0 < cy))) ∧ cy ≤ 1 ∧ cs.length = n + 1 ∧ Dg 4294967296 cs ∧ val 4294967296 cs + val 4294967296 b * q = val 4294967296 ((zs.drop off).take (n + 1)) + 4294967296 ^ (n + 1) * cy ∧ Row w' g t .u32 (splice zs off cs) ∧ w.grownBy w' (some g) := by
  have hbl := hb.below_size
  have HBN := Lib.hid hbn
  clear hbn hb
  go_enter Tryz.func268, Tryz.ntmps268
  go_wp2_with fail
  go_loopg [7, 8, 9, 10, 11, 15] n (fun gh c' _ _ _ _ i wr => ∃ (k cy : Nat) (cs : List Nat), gh + k = n ∧ i = .int .i64 k ∧ c' = .int .u64 cy ∧ cy < 4294967296 ∧ cs.length = k ∧ Dg 4294967296 cs ∧ Row wr g t .u32 (splice zs off cs) ∧ w.grownBy wr (some g) ∧
    val 4294967296 cs + val 4294967296 (b.take k) * q = val 4294967296 ((zs.drop off).take k) + 4294967296 ^ k * cy)
  case atStart => exact ⟨0, 0, [], by omega, rfl, rfl, by omega, rfl, Dg.nil _, by rw [splice_nil]; exact hrow, World.grownBy.refl _ _, by simp [val]⟩
  case round =>
    obtain ⟨k, cy, cs, hg, rfl, rfl, hcy, rfl, hcd, hr, hgr, hv⟩ := hrel
    have HG := Lib.hid hg
    have HV := Lib.hid hv
    clear hg hv
    have hlen : (splice zs off cs).length = zs.length := length_splice' (by have := HG.out; omega)
    have HL := Lib.hid hlen
    clear hlen
    have ca := hr.cell (i := off + cs.length) (by have := HG.out; rw [HL.out]; omega)
    rw [get_splice_ge (by have := HG.out; omega) (Nat.le_refl _)] at ca
    have hf := hr.frozen (off + cs.length)
    have hp1 := hz.get (j := off + cs.length) (by have := HG.out; omega)
    have hs1 := take_drop_succ (zs := zs) (off := off) (k := cs.length) (by have := HG.out; omega) 4294967296
    obtain ⟨p, hp⟩ : ∃ p, zs[off + cs.length]'(by have := HG.out; omega) = p := ⟨_, rfl⟩
    rw [hp] at ca hp1 hs1
    have HS1 := Lib.hid hs1
    clear hp hs1
    by_cases hlt : cs.length < n
    · have hR := hbl.grown hgr (fun x hx => ⟨hx.2, fun e => hx.1 (by injection e)⟩)
      have hlb : cs.length < b.length := by have := HBN.out; omega
      obtain ⟨bb, ob, rfl, _, cb0⟩ := hR.at_ hlb
      have hq1 := hbd.get hlb
      have hs2 := val_take_succ (b := 4294967296) hlb
      obtain ⟨y, hy⟩ : ∃ y, b[cs.length] = y := ⟨_, rfl⟩
      rw [hy] at cb0 hq1 hs2
      have HS2 := Lib.hid hs2
      clear hy hs2 hlb
      have hxq : y * q ≤ 4294967295 * 4294967295 := Nat.mul_le_mul (by omega) (by omega)
      have hxq1 : (y : Int) * (q : Int) ≤ 18446744065119617025 := by rw [← Int.natCast_mul]; omega
      have hxq0 : 0 ≤ (y : Int) * (q : Int) := by rw [← Int.natCast_mul]; omega
      have hcar := times_carry (x := p) hcy hq1 hq
      have hst := fun v hv => times_step (v := v) (x := p) (y := y) rfl HV.out (by omega) hv hp1
      obtain ⟨v, hvv⟩ : ∃ v, cy + y * q = v := ⟨_, rfl⟩
      have hvI : (cy : Int) + (y : Int) * (q : Int) = (v : Int) := by rw [← Int.natCast_mul]; omega
      rw [hvv] at hcar
      have hst2 := hst v hvv.symm
      have cS := sub32 p (v % 4294967296) 0 wr hp1 (Nat.mod_lt _ (by omega)) (by omega)
      rw [Nat.sub_zero] at cS
      have hlo1 : (4294967296 + p - v % 4294967296) % 4294967296 < 4294967296 := Nat.mod_lt _ (by omega)
      have hbo1 : 1 - (4294967296 + p - v % 4294967296) / 4294967296 ≤ 1 := by omega
      obtain ⟨lo, hlo⟩ : ∃ lo, (4294967296 + p - v % 4294967296) % 4294967296 = lo := ⟨_, rfl⟩
      obtain ⟨bo, hbo⟩ : ∃ bo, 1 - (4294967296 + p - v % 4294967296) / 4294967296 = bo := ⟨_, rfl⟩
      rw [hlo] at cS hst2 hlo1
      rw [hbo] at cS hst2 hbo1 hcar
      have hv64 : v < 18446744073709551616 := by omega
      have HST := Lib.hid hst2
      clear hlo hbo hst hst2 hvv hxq
      have cS' : Calls Tryz.prog 255 #[.int .u32 p, .int .u32 ((v : Int) % 4294967296), .int .u32 0] wr fun e w' => e = .returned (.tuple #[.int .u32 (lo : Int), .int .u32 (bo : Int)]) ∧ wr = w' := cS
      clear cS
      go_wp2_with (go_at_call 255; refine cS'.mono ?_; rintro e w' ⟨rfl, rfl⟩)
      go_roundg (gk - 1)
      case measure => have := HG.out; omega
      case rel =>
        have hr2 := hr.set (off + cs.length) lo
        rw [splice_snoc (by omega)] at hr2
        refine ⟨cs.length + 1, v / 4294967296 + bo, cs ++ [lo], by have := HG.out; omega, by go_num, by go_num, hcar, by simp, hcd.snoc hlo1, hr2, grown_setCell hgr _ _, ?_⟩
        rw [HS1.out, HS2.out]
        exact HST.out
    · have hk : cs.length = n := by have := HG.out; omega
      have HK := Lib.hid hk
      have hnn := HK.out
      clear hlt
      subst hnn
      have hst := times_step (v := cy) (x := p) (y := 0) (q := q) rfl HV.out (by omega) (by omega) hp1
      rw [Nat.mod_eq_of_lt hcy, Nat.div_eq_of_lt hcy, Nat.zero_add, Nat.mul_zero, Nat.add_zero, ← HS1.out, List.take_of_length_le (by have := HBN.out; omega)] at hst
      have HST := Lib.hid hst
      clear hst
      go_wp2
      go_ret
      have hr2 := hr.set (off + cs.length) ((4294967296 + p - cy) % 4294967296)
      rw [splice_snoc (by omega)] at hr2
      rw [show ((p : Int) - (cy : Int)) % 4294967296 = (((4294967296 + p - cy) % 4294967296 : Nat) : Int) by omega]
      refine ⟨cs ++ [(4294967296 + p - cy) % 4294967296], 1 - (4294967296 + p - cy) / 4294967296, ?_, by omega, by simp, hcd.snoc (Nat.mod_lt _ (by omega)), HST.out, hr2, grown_setCell hgr _ _⟩
      have e : decide (0 < 1 - (4294967296 + p - cy) / 4294967296) = decide (p < cy) := by
        by_cases h : p < cy
        · rw [decide_eq_true h, decide_eq_true (by omega)]
        · rw [decide_eq_false h, decide_eq_false (by omega)]
      rw [e]
      rfl

set_option maxHeartbeats 1600000 in
/-- taking d off the words of block g from off on as often as it is in them: how often that is; what is left stays there -/
theorem nat_takeAll (zs d : List Nat) (g off k c : Nat) (A : Option Addr) (cb : Nat) (t : TypeId) (w : World) (hrow : Row w g t .u32 zs) (hb : Rd w (fun x => x ≠ g) .u32 A d) (hdl : d.length = k + 2) (hn : off + (k + 3) ≤ zs.length) (hl : k ≤ 1073741824) (hz : Dg 4294967296 zs) (hbd : Dg 4294967296 d) (htop : 0 < d[k + 1]) (hlt : val 4294967296 ((zs.drop off).take (k + 3)) < 4294967296 * val 4294967296 d) :
    Calls Tryz.prog 261 #[.slice (some ⟨g, off, none⟩) (k + 3) c, .slice A (k + 2) cb] w fun e w' => ∃ cs, e = .returned (.int .u32 ((val 4294967296 ((zs.drop off).take (k + 3)) / val 4294967296 d : Nat) : Int)) ∧ val 4294967296 ((zs.drop off).take (k + 3)) / val 4294967296 d < 4294967296 ∧ cs.length = k + 3 ∧ Dg 4294967296 cs ∧ val 4294967296 cs = val 4294967296 ((zs.drop off).take (k + 3)) % val 4294967296 d ∧ Row w' g t .u32 (splice zs off cs) ∧ w.grownBy w' (some g) := by
  have hxl : ((zs.drop off).take (k + 3)).length = k + 3 := by rw [List.length_take, List.length_drop]; omega
  have hdp : 0 < val 4294967296 d := by
    rcases Nat.eq_zero_or_pos (val 4294967296 d) with h0 | h0
    · rw [h0] at hlt; omega
    · exact h0
  have cg := nat_guess ((zs.drop off).take (k + 3)) d k (some ⟨g, off, none⟩) A c cb (fun _ => True) _ w (hrow.rd trivial hn) hb hxl hdl hl hz.drop.take hbd htop hlt
  have hdlt := val_lt (b := 4294967296) hbd
  rw [hdl] at hdlt
  clear hxl hlt htop
  go_enter Tryz.func261, Tryz.ntmps261
  go_wp2_with fail
  refine cg.mono ?_
  rintro e w1 ⟨q, rfl, hq, hq1, hq2, m, rfl⟩
  have ct := nat_takeTimes zs d g off (k + 2) c q A cb t (w.drewN m) hrow (hb.drewN m) hdl hn (by omega) hz hbd hq
  rw [show k + 2 + 1 = k + 3 from rfl] at ct
  have HQ1 := Lib.hid hq1
  have HQ2 := Lib.hid hq2
  have HDL := Lib.hid hdl
  have HDLT := Lib.hid hdlt
  clear hq1 hq2 hdl hdlt cg
  go_wp2_with fail
  refine ct.mono ?_
  rintro e w2 ⟨cs, cy, rfl, hcy, hcl, hcd, hcv, hrow2, hgr2⟩
  have HCL := Lib.hid hcl
  have HCV := Lib.hid hcv
  clear hcl hcv ct
  by_cases h0 : cy = 0
  · subst h0
    go_wp2_with fail
    go_ret
    rw [Nat.mul_zero, Nat.add_zero] at HCV
    obtain ⟨h1, h2⟩ := take_fine HCV.out HQ1.out hdp
    exact ⟨cs, by rw [← h1]; rfl, by rw [← h1]; exact hq, HCL.out, hcd, h2, hrow2, grown_trans (grown_drewN (World.grownBy.refl _ _) m) hgr2⟩
  · have h1 : cy = 1 := by omega
    subst h1
    rw [Nat.mul_one] at HCV
    have hrd : Rd w2 (fun x => x ≠ g) .u32 A d := by
      have := hb.below_size
      exact ((this.drewN m).grown hgr2 (fun x hx => ⟨hx.2, fun e => hx.1 (by injection e)⟩)).imp (fun x hx => hx.1)
    have hsl : (splice zs off cs).length = zs.length := length_splice' (by rw [HCL.out]; exact hn)
    have hsd : Dg 4294967296 (splice zs off cs) := dg_splice hz hcd
    have ca := nat_addIn (splice zs off cs) d g off (k + 3) c A cb t w2 hrow2 hrd (by rw [hsl]; exact hn) (by rw [HDL.out]; omega) (by omega) hsd hbd
    rw [seg_splice HCL.out (by omega), HDL.out] at ca
    clear hsl hsd
    go_wp2_with fail
    refine ca.mono ?_
    rintro e w3 ⟨rfl, es, cc, hel, hed, hev, hrow3, hgr3⟩
    have h5 := val_lt (b := 4294967296) hed
    have h6 := val_lt (b := 4294967296) hcd
    rw [hel] at h5
    rw [HCL.out] at h6
    have h7 : val 4294967296 d ≤ 4294967296 ^ (k + 3) := Nat.le_trans (Nat.le_of_lt HDLT.out) (Nat.pow_le_pow_right (by omega) (by omega))
    obtain ⟨h8, h9, h10⟩ := take_back h5 h7 h6 HCV.out hev HQ2.out
    obtain ⟨h11, h12⟩ := take_fine h10 (quot_le rfl h9) hdp
    rw [splice_again (by rw [hel, HCL.out]) (by omega)] at hrow3
    have H11 := Lib.hid h11
    have H12 := Lib.hid h12
    have HEL := Lib.hid hel
    clear h5 h6 h7 h9 h10 h11 h12 hel hev ca
    go_wp2_with fail
    go_ret
    rw [← H11.out]
    refine ⟨es, ?_, by omega, HEL.out, hed, H12.out, hrow3, grown_trans (grown_trans (grown_drewN (World.grownBy.refl _ _) m) hgr2) hgr3⟩
    rw [show ((q - 1 : Nat) : Int) = (q : Int) - 1 by omega]
    rfl
end Go.Proofs.YtdmoibphidipeaaGreatDoor
/- What the program's own long division answers: divWords. -/

namespace Go.Proofs.YtdmoibphidipeaaGreatDoor
open Go.RowKit Num

/-- moving up by as many bits as are free at the top loses none -/
theorem lead_zeros {x : Nat} (h0 : 0 < x) (hx : x < 4294967296) : ∃ s : Nat, s < 32 ∧ (32 - (Lib.bitLen x : Int)) = (s : Int) ∧ (x + 1) * 2 ^ s ≤ 4294967296 := by
  have hb := isBits_bitLen x (by omega)
  obtain ⟨z, hz⟩ : ∃ z, Lib.bitLen x = z := ⟨_, rfl⟩
  rw [hz] at hb ⊢
  have hz1 : 1 ≤ z := by
    rcases Nat.eq_zero_or_pos z with h | h
    · subst h; have := hb.1; simp at this; omega
    · exact h
  have hz32 : z ≤ 32 := by
    rcases hb.2 with h1 | h1
    · omega
    · have h2 := Nat.lt_of_le_of_lt h1 (show x < 2 ^ 32 by omega)
      have := (Nat.pow_lt_pow_iff_right (show 1 < 2 by omega)).1 h2
      omega
  refine ⟨32 - z, by omega, by omega, ?_⟩
  have h1 : (x + 1) * 2 ^ (32 - z) ≤ 2 ^ z * 2 ^ (32 - z) := Nat.mul_le_mul_right _ hb.1
  rw [← Nat.pow_add, show z + (32 - z) = 32 by omega] at h1
  exact h1
theorem val_le_top {k : Nat} {b : List Nat} (hb : Dg 4294967296 b) (hl : b.length = k + 2) : 4294967296 ^ (k + 1) * b[k + 1] ≤ val 4294967296 b ∧ val 4294967296 b < 4294967296 ^ (k + 1) * (b[k + 1] + 1) := by
  have h1 := val_take_succ (b := 4294967296) (xs := b) (k := k + 1) (by omega)
  rw [List.take_of_length_le (by omega)] at h1
  have h2 := val_lt (b := 4294967296) (xs := b.take (k + 1)) hb.take
  rw [List.length_take, Nat.min_eq_left (by omega)] at h2
  rw [h1, Nat.mul_add, Nat.mul_one]
  omega

/-- a number below b^n has nothing behind its n lowest words -/
theorem low_words {B D n p : Nat} {rs : List Nat} (h : Dg B (p :: rs)) (hr : val B rs < D) (hD : D * B ≤ B ^ n) : val B ((p :: rs).take n) = p + B * val B rs ∧ val B ((p :: rs).drop n) = 0 := by
  have hp := (Dg.cons.1 h).1
  have e0 : val B (p :: rs) = p + B * val B rs := rfl
  have h2 : p + B * val B rs < B ^ n := by
    have : B * (val B rs + 1) ≤ B * D := Nat.mul_le_mul_left _ hr
    rw [Nat.mul_add, Nat.mul_one, Nat.mul_comm B D] at this
    omega
  rcases Nat.le_total n (p :: rs).length with hn | hn
  · have h1 := val_split (b := B) (k := n) (xs := p :: rs) hn
    have h3 : val B ((p :: rs).drop n) = 0 := by
      rcases Nat.eq_zero_or_pos (val B ((p :: rs).drop n)) with h0 | h0
      · exact h0
      · have : B ^ n * 1 ≤ B ^ n * val B ((p :: rs).drop n) := Nat.mul_le_mul_left _ h0
        omega
    rw [h3, Nat.mul_zero, Nat.add_zero] at h1
    exact ⟨by rw [← h1]; rfl, h3⟩
  · rw [List.take_of_length_le hn, List.drop_of_length_le hn]
    exact ⟨rfl, rfl⟩
theorem set_zero {i v : Nat} {qs : List Nat} : (List.replicate (i + 1) 0 ++ qs).set i v = List.replicate i 0 ++ (v :: qs) := by
  rw [List.replicate_succ', List.append_assoc, List.set_append_right _ _ (by simp)]
  simp
theorem splice_tail {Z Y cs : List Nat} {i : Nat} (h : Z.length = i) : splice (Z ++ Y) i cs = Z ++ (cs ++ Y.drop cs.length) := by
  simp only [splice]
  rw [List.take_left' h, ← List.drop_drop, List.drop_left' h]
theorem low_lt {B p V D : Nat} (hp : p < B) (h : V < D) : p + B * V < B * D := by
  have : B * (V + 1) ≤ B * D := Nat.mul_le_mul_left _ h
  rw [Nat.mul_add, Nat.mul_one] at this
  omega

set_option maxHeartbeats 3200000 in
/-- a divided by b, of two words or more and not above a -/
theorem nat_divWords (a b : List Nat) (k : Nat) (A A' : Option Addr) (ca cb : Nat) (S S' : Nat → Prop) (w : World) (h : Rd w S .u32 A a) (h' : Rd w S' .u32 A' b) (hS : ∀ g, S g → g < w.heap.size) (hS' : ∀ g, S' g → g < w.heap.size) (hl : a.length ≤ 1073741824) (hbl : b.length = k + 2) (hle : b.length ≤ a.length) (ha : Dg 4294967296 a) (hb : Norm 4294967296 b) :
    Calls Tryz.prog 246 #[.slice A a.length ca, .slice A' b.length cb] w fun e w' => ∃ A1 q c1 A2 r c2, e = .returned (.tuple #[.slice A1 q.length c1, .slice A2 r.length c2]) ∧ q.length ≤ c1 ∧ r.length ≤ c2 ∧ Norm 4294967296 q ∧ Norm 4294967296 r ∧ val 4294967296 q = val 4294967296 a / val 4294967296 b ∧ val 4294967296 r = val 4294967296 a % val 4294967296 b ∧
      Rd w' (fun g => g < w'.heap.size) .u32 A1 q ∧ Rd w' (fun g => g < w'.heap.size) .u32 A2 r ∧ Below w.heap.size w w' := by
  obtain ⟨hbd, hbt⟩ := hb
  obtain ⟨b0, o0, rfl, _, hcb⟩ := h' (by omega)
  have cx := hcb (k + 1) (by omega)
  have hx1 := hbd.get (j := k + 1) (by omega)
  have hx0 : 0 < b[k + 1] := by
    unfold Top at hbt
    rw [List.getLast?_eq_getElem?, hbl, show k + 2 - 1 = k + 1 from rfl, List.getElem?_eq_getElem (by omega)] at hbt
    have : b[k + 1] ≠ 0 := fun e => hbt (by rw [e])
    omega
  obtain ⟨hbv1, hbv2⟩ := val_le_top hbd hbl
  obtain ⟨x, hx⟩ : ∃ x, b[k + 1] = x := ⟨_, rfl⟩
  rw [hx] at cx hx1 hx0 hbv1 hbv2
  obtain ⟨s, hs, hsI, hs2⟩ := lead_zeros hx0 hx1
  have clz := Tryz.bits_LeadingZeros32 (x : Int) w (by omega) (by omega)
  rw [Int.toNat_natCast, hsI] at clz
  have clz' := clz.mono (R' := fun e w' => e = .returned (.int .i64 (s : Int)) ∧ w = w') fun _ _ hh => ⟨hh.1, hh.2.symm⟩
  clear hx hcb hsI
  rw [hbl]
  have hmk : ∀ u : World, (Instr.makeSlice 35 (.int .i64 ((a.length : Int) + 1)) (.int .i64 ((a.length : Int) + 1))).run Tryz.prog u =
    .ok (.slice (some ⟨u.heap.size, 0, none⟩) (a.length + 1) (a.length + 1)) (u.alloc (.cells (cells .u32 (List.replicate (a.length + 1) 0)).toArray 102)) := fun u => make_words1 a.length (by omega) u
  have hra : Rd (w.alloc (.cells (cells .u32 (List.replicate (a.length + 1) 0)).toArray 102)) S .u32 A a := h.keep fun p hp => World.cell?_alloc_lt w _ p (hS _ hp)
  have hmin : a.length = Nat.min a.length (a.length + 1) := by show _ = min _ _; omega
  have HMIN := Lib.hid hmin
  have HBL := Lib.hid hbl
  rw [hbl] at hle
  clear hmin hbl
  go_enter Tryz.func246, Tryz.ntmps246
  go_wp2_with (first
    | (go_at_call 256; refine clz'.mono ?_; rintro e w' ⟨rfl, rfl⟩)
    | (with_reducible refine wpList_copy_digits rfl _ _ 35 rfl 102 .u32 Tryz.underlying35 size_u32 _ _ _ _ _ _ rfl rfl w.heap.size 0 (List.replicate (a.length + 1) 0) (Row.new w _ _ _) a HMIN.out (fun _ => rfl) S hra (by rw [List.length_replicate]; omega) ?_; intro w2 hrow2 hgr2))
  rw [splice_zero] at hrow2
  have hal : (a ++ (List.replicate (a.length + 1) 0).drop a.length) = a ++ [0] := by rw [List.drop_replicate, Nat.add_sub_cancel_left]; rfl
  rw [hal] at hrow2
  have hzl : (a ++ [0]).length = a.length + 1 := by simp
  have hseg : (((a ++ [0]).drop 0).take (a.length + 1)) = a ++ [0] := by rw [List.drop_zero, List.take_of_length_le (by omega)]
  have cm := nat_moveUp (a ++ [0]) w.heap.size 0 (a.length + 1) (a.length + 1) s _ w2 hrow2 (by omega) (by omega) (ha.snoc (by omega)) hs
  rw [hseg] at cm
  clear hzl hseg hra hmk hal clz clz'
  go_wp2_with fail
  refine cm.mono ?_
  rintro e w3 ⟨rfl, xs, cy, hxl, hxd, hxv, hrow3, hgr3⟩
  rw [splice_full (by simp; omega)] at hrow3
  have hpow : val 4294967296 a * 2 ^ s < 4294967296 ^ (a.length + 1) := by
    rw [Nat.pow_succ]
    refine Nat.mul_lt_mul'' (val_lt ha) ?_
    exact Nat.lt_of_lt_of_le (Nat.pow_lt_pow_right (by omega) hs) (Nat.le_refl _)
  rw [val_snoc, Nat.mul_zero] at hxv
  simp only [Nat.add_zero] at hxv
  have hcy := over_zero hpow hxv
  rw [hcy, Nat.mul_zero, Nat.add_zero] at hxv
  have HXL := Lib.hid hxl
  have HXV := Lib.hid hxv
  have hb3 : Below w.heap.size w w3 := below_alloc_grown (Nat.le_refl _) (grown_trans hgr2 hgr3) (Nat.le_refl _)
  have hs3 := hrow3.lt
  clear hpow hcy hxl hxv cm hrow2 hgr2 hgr3
  have hmk : ∀ u : World, (Instr.makeSlice 35 (.int .i64 ((k : Int) + 2)) (.int .i64 ((k : Int) + 2))).run Tryz.prog u =
    .ok (.slice (some ⟨u.heap.size, 0, none⟩) (k + 2) (k + 2)) (u.alloc (.cells (cells .u32 (List.replicate (k + 2) 0)).toArray 102)) := fun u => make_words (k + 2) (by omega) u
  have hrb : Rd (w3.alloc (.cells (cells .u32 (List.replicate (k + 2) 0)).toArray 102)) S' .u32 (some ⟨b0, o0, none⟩) b := (h'.below hb3 hS').keep fun p hp => World.cell?_alloc_lt w3 _ p (by have := hS' _ hp; have := hb3.size; omega)
  have hmin2 : b.length = Nat.min (k + 2) (k + 2) := by rw [HBL.out]; show _ = min _ _; omega
  have HMIN2 := Lib.hid hmin2
  clear hmin2
  go_wp2_with (with_reducible refine wpList_copy_digits rfl _ _ 35 rfl 102 .u32 Tryz.underlying35 size_u32 _ _ _ _ _ _ rfl rfl w3.heap.size 0 (List.replicate (k + 2) 0) (Row.new w3 _ _ _) b HMIN2.out (fun _ => rfl) S' hrb (by rw [List.length_replicate, HBL.out]; omega) ?_; intro w4 hrow4 hgr4)
  rw [splice_full (by rw [List.length_replicate, HBL.out])] at hrow4
  have hseg : ((b.drop 0).take (k + 2)) = b := by rw [List.drop_zero, List.take_of_length_le (by rw [HBL.out]; omega)]
  have cm := nat_moveUp b w3.heap.size 0 (k + 2) (k + 2) s _ w4 hrow4 (by rw [HBL.out]; omega) (by omega) hbd hs
  rw [hseg] at cm
  clear hseg hrb hmk
  go_wp2_with fail
  refine cm.mono ?_
  rintro e w5 ⟨rfl, ds, cy, hdl, hdd, hdv, hrow5, hgr5⟩
  rw [splice_full (by rw [HBL.out]; exact hdl)] at hrow5
  have hpow : val 4294967296 b * 2 ^ s < 4294967296 ^ (k + 2) := by
    have h1 : val 4294967296 b * 2 ^ s < 4294967296 ^ (k + 1) * (x + 1) * 2 ^ s := (Nat.mul_lt_mul_right (Nat.pow_pos (by omega))).2 hbv2
    have h2 : 4294967296 ^ (k + 1) * ((x + 1) * 2 ^ s) ≤ 4294967296 ^ (k + 1) * 4294967296 := Nat.mul_le_mul_left _ hs2
    rw [Nat.mul_assoc] at h1
    exact Nat.lt_of_lt_of_le h1 h2
  have hcy := over_zero hpow hdv
  rw [hcy, Nat.mul_zero, Nat.add_zero] at hdv
  have hlow : 4294967296 ^ (k + 1) * 2 ^ s ≤ val 4294967296 ds := by
    rw [hdv]
    refine Nat.mul_le_mul_right _ (Nat.le_trans ?_ hbv1)
    exact Nat.le_mul_of_pos_right _ hx0
  have hdtop : 0 < ds[k + 1] := by
    rcases Nat.eq_zero_or_pos ds[k + 1] with h0 | h0
    · exfalso
      have h1 := (val_le_top hdd hdl).2
      rw [h0, Nat.zero_add, Nat.mul_one] at h1
      have h2 : 4294967296 ^ (k + 1) * 1 ≤ 4294967296 ^ (k + 1) * 2 ^ s := Nat.mul_le_mul_left _ (Nat.pow_pos (by omega))
      omega
    · exact h0
  have hdlt := val_lt (b := 4294967296) hdd
  rw [hdl] at hdlt
  have hgr35 := grown_trans hgr4 hgr5
  have hrow3' : Row w5 w.heap.size 102 .u32 xs := (hrow3.alloc _).grown hgr35 (fun e => by injection e; omega)
  have hb5 : Below w.heap.size w w5 := hb3.trans (below_alloc_grown hb3.size hgr35 hb3.size)
  have hs5 := hrow5.lt
  obtain ⟨D, hDe⟩ : ∃ D, val 4294967296 ds = D := ⟨_, rfl⟩
  rw [hDe] at hdv hlow hdlt
  obtain ⟨t, ht⟩ : ∃ t, a.length = t + k + 1 := ⟨a.length - k - 1, by omega⟩
  have ht1 : 1 ≤ t := by omega
  have htk : t + k + 1 ≤ a.length := by omega
  have hts : (a.length : Int) - ((k : Int) + 2) + 1 = (t : Int) := by omega
  have hmk : ∀ u : World, (Instr.makeSlice 35 (.int .i64 ((a.length : Int) - ((k : Int) + 2) + 1)) (.int .i64 ((a.length : Int) - ((k : Int) + 2) + 1))).run Tryz.prog u =
    .ok (.slice (some ⟨u.heap.size, 0, none⟩) t t) (u.alloc (.cells (cells .u32 (List.replicate t 0)).toArray 102)) := fun u => by rw [hts]; exact make_words t (by omega) u
  have htop' : ∃ h : k + 1 < ds.length, 0 < ds[k + 1]'h := ⟨by omega, hdtop⟩
  have HTOP := Lib.hid htop'
  clear htop' hdtop
  have HDE := Lib.hid hDe
  have HDV := Lib.hid hdv
  have HDL := Lib.hid hdl
  have HT := Lib.hid ht
  clear hDe hdv hdl hcy hpow cm hts hrow4 hgr4 hgr5 hgr35 hrow3 ht
  go_wp2_with fail
  obtain ⟨w6, hw6⟩ : ∃ w6, w5.alloc (.cells (cells .u32 (List.replicate t 0)).toArray 102) = w6 := ⟨_, rfl⟩
  have hs6 : w6.heap.size = w5.heap.size + 1 := by rw [← hw6]; simp
  have hb6 : Below w.heap.size w w6 := by rw [← hw6]; exact hb5.alloc hb5.size _
  have hr6x : Row w6 w.heap.size 102 .u32 xs := by rw [← hw6]; exact hrow3'.alloc _
  have hr6d : Row w6 w3.heap.size 102 .u32 ds := by rw [← hw6]; exact hrow5.alloc _
  have hr6o : Row w6 w5.heap.size 102 .u32 (List.replicate t 0) := by rw [← hw6]; exact Row.new w5 _ _ _
  have HS6 := Lib.hid hs6
  rw [hw6]
  clear hw6 hb5 hrow3' hrow5 hs6 hmk
  have hstart : val 4294967296 (xs.drop t) < D := by
    have h1 := val_split (b := 4294967296) (k := t) (xs := xs) (by rw [HXL.out, HT.out]; omega)
    have h2 := val_lt (b := 4294967296) ha
    rw [HXV.out] at h1
    have h3 : val 4294967296 a * 2 ^ s < 4294967296 ^ a.length * 2 ^ s := (Nat.mul_lt_mul_right (Nat.pow_pos (by omega))).2 h2
    rw [h1, HT.out, Nat.add_assoc, Nat.pow_add, Nat.mul_assoc] at h3
    have h4 : 4294967296 ^ t * val 4294967296 (xs.drop t) < 4294967296 ^ t * (4294967296 ^ (k + 1) * 2 ^ s) := Nat.lt_of_le_of_lt (Nat.le_add_left _ _) h3
    exact Nat.lt_of_lt_of_le (Nat.lt_of_mul_lt_mul_left h4) hlow
  have hDp : 0 < D := by omega
  have HST := Lib.hid hstart
  clear hstart hlow
  go_loopg [10] t (fun gh i wr => ((∃ k : Nat, gh = k + 1 ∧ i = .int .i64 k) ∨ (gh = 0 ∧ i = .int .i64 (-1))) ∧ gh ≤ t ∧ ∃ (rs qs : List Nat), rs.length + gh = a.length + 1 ∧ qs.length + gh = t ∧ Dg 4294967296 rs ∧ Dg 4294967296 qs ∧ Row wr w.heap.size 102 .u32 (xs.take gh ++ rs) ∧ Row wr w3.heap.size 102 .u32 ds ∧ Row wr w5.heap.size 102 .u32 (List.replicate gh 0 ++ qs) ∧ Below w.heap.size w wr ∧
    val 4294967296 rs = val 4294967296 (xs.drop gh) % D ∧ val 4294967296 qs = val 4294967296 (xs.drop gh) / D)
  case atStart =>
    refine ⟨?_, Nat.le_refl _, xs.drop t, [], by rw [List.length_drop, HXL.out]; omega, by simp, hxd.drop, Dg.nil _, by rw [List.take_append_drop]; exact hr6x, hr6d, by rw [List.append_nil]; exact hr6o, hb6, (Nat.mod_eq_of_lt HST.out).symm, by rw [Nat.div_eq_of_lt HST.out]; rfl⟩
    refine .inl ⟨t - 1, by omega, ?_⟩; congr 1; omega
  case round =>
    clear hr6x hr6d hr6o hb6
    obtain ⟨⟨i, rfl, rfl⟩ | ⟨rfl, rfl⟩, hg, rs, qs, hrl, hql, hrd, hqd, hrx, hrD, hrq, hbel, hrv, hqv⟩ := hrel
    · have hix : i < xs.length := by have := HXL.out; omega
      have hxtl : (xs.take i).length = i := by rw [List.length_take]; omega
      have hp1 := hxd.get hix
      have hs1 := val_drop_succ (b := 4294967296) hix
      obtain ⟨p, hp⟩ : ∃ p, xs[i] = p := ⟨_, rfl⟩
      rw [hp] at hp1 hs1
      have hsplit : xs.take (i + 1) ++ rs = xs.take i ++ (p :: rs) := by rw [take_succ_get hix, hp]; simp
      rw [hsplit] at hrx
      have hzl : (xs.take i ++ (p :: rs)).length = a.length + 1 := by rw [List.length_append, hxtl, List.length_cons]; omega
      have hseg : ((xs.take i ++ (p :: rs)).drop i).take (k + 3) = (p :: rs).take (k + 3) := by rw [List.drop_left' hxtl]
      have hpr : Dg 4294967296 (p :: rs) := Dg.cons.2 ⟨hp1, hrd⟩
      have hrvD : val 4294967296 rs < D := by rw [hrv]; exact Nat.mod_lt _ hDp
      obtain ⟨hw1, hw2⟩ := low_words (n := k + 3) hpr hrvD (by rw [Nat.pow_succ]; exact Nat.mul_le_mul_right _ (Nat.le_of_lt hdlt))
      obtain ⟨_, hdtop⟩ := HTOP.out
      have ct := nat_takeAll (xs.take i ++ (p :: rs)) ds w.heap.size i k (a.length + 1 - i) (some ⟨w3.heap.size, 0, none⟩) (k + 2) 102 wr hrx (hrD.rd_all (by omega)) HDL.out (by rw [hzl]; omega) (by omega) (Dg.append.2 ⟨hxd.take, hpr⟩) hdd hdtop (by rw [hseg, hw1, HDE.out]; exact low_lt hp1 hrvD)
      rw [hseg, hw1, HDE.out] at ct
      obtain ⟨e1, e2⟩ := div_word_step (p := p) (d := D) (V := val 4294967296 (xs.drop (i + 1))) hDp hrv.symm hqv.symm
      rw [← hs1] at e1 e2
      have HRL := Lib.hid hrl
      have HQL := Lib.hid hql
      have HXT := Lib.hid hxtl
      have HW2 := Lib.hid hw2
      have HE1 := Lib.hid e1
      have HE2 := Lib.hid e2
      have hrlk : k + 1 < rs.length := by omega
      clear hrl hql hxtl hw1 hw2 e1 e2 hs1 hp hsplit hseg hrv hqv hzl hdtop
      go_wp2_with fail
      rw [show i + (k + 2) + 1 - i = k + 3 by omega]
      refine ct.mono ?_
      rintro e w7 ⟨cs, rfl, hq1, hcl, hcd, hcv, hrow7, hgr7⟩
      have hrq7 : Row w7 w5.heap.size 102 .u32 (List.replicate (i + 1) 0 ++ qs) := hrq.grown hgr7 (fun e => by injection e; omega)
      have hrd7 : Row w7 w3.heap.size 102 .u32 ds := hrD.grown hgr7 (fun e => by injection e; omega)
      have hf7 := hrq7.frozen i
      have hc7 := hrq7.cell (i := i) (by rw [List.length_append, List.length_replicate]; omega)
      have hb7 : Below w.heap.size w w7 := hbel.grown hgr7 hbel.size (fun q e => by injection e with e; omega)
      obtain ⟨Qd, hQd⟩ : ∃ Qd, (p + 4294967296 * val 4294967296 rs) / D = Qd := ⟨_, rfl⟩
      have hset := hrq7.set i Qd
      rw [set_zero] at hset
      rw [hQd] at hq1 ⊢
      have HQd := Lib.hid hQd
      have HCL := Lib.hid hcl
      have HCV := Lib.hid hcv
      clear hQd hcl hcv ct hrq hrD hrx
      go_wp2_with fail
      go_roundg i
      case measure => omega
      case rel =>
        have hrow8 := hrow7.far (p := ⟨w5.heap.size, i, none⟩) (by simp; omega) (.int .u32 (Qd : Int))
        rw [splice_tail HXT.out] at hrow8
        have hrl := HRL.out
        refine ⟨?_, by omega, cs ++ (p :: rs).drop cs.length, Qd :: qs, ?_, by have := HQL.out; simp; omega, Dg.append.2 ⟨hcd, hpr.drop⟩, Dg.cons.2 ⟨hq1, hqd⟩, hrow8, hrd7.far (by simp; omega) _, hset, hb7.setCell (by simp; omega) _, ?_, ?_⟩
        · by_cases h0 : i = 0
          · subst h0; exact .inr ⟨rfl, by go_num⟩
          · exact .inl ⟨i - 1, by omega, by go_num⟩
        · rw [List.length_append, List.length_drop, List.length_cons, HCL.out]; omega
        · rw [val_append, HCL.out, HW2.out, Nat.mul_zero, Nat.add_zero, HCV.out, HE2.out]
        · rw [val_cons, HE1.out, HQd.out]
    · rw [List.drop_zero, HXV.out, HDV.out] at hrv hqv
      rw [List.take_zero, List.nil_append] at hrx
      rw [List.replicate_zero, List.nil_append] at hrq
      rw [Nat.mul_mod_mul_right] at hrv
      rw [Nat.mul_div_mul_right _ _ (Nat.pow_pos (by omega))] at hqv
      have hrl : rs.length = a.length + 1 := by omega
      have hql : qs.length = t := by omega
      have cm := nat_moveDown rs w.heap.size (a.length + 1) s 102 wr hrx (by omega) hrd hs
      rw [hrl] at cm
      have HRV := Lib.hid hrv
      have HQV := Lib.hid hqv
      have HQL := Lib.hid hql
      clear hrv hqv hrl hql
      go_wp2_with fail
      refine cm.mono ?_
      rintro e w7 ⟨rfl, cs, hcl, hcd, hcv, hrow7, hgr7⟩
      have hrq7 : Row w7 w5.heap.size 102 .u32 qs := hrq.grown hgr7 (fun e => by injection e; omega)
      have hb7 : Below w.heap.size w w7 := hbel.grown hgr7 hbel.size (fun q e => by injection e with e; omega)
      rw [HRV.out, Nat.mul_div_cancel _ (Nat.pow_pos (by omega))] at hcv
      have HCL := Lib.hid hcl
      have HCV := Lib.hid hcv
      have cA := nat_cut qs (some ⟨w5.heap.size, 0, none⟩) t _ w7 (hrq7.rd_all (S := fun g => g < w7.heap.size) hrq7.lt) (by rw [HQL.out]; omega) (by rw [HQL.out]; omega) hqd
      have cB := nat_cut cs (some ⟨w.heap.size, 0, none⟩) (a.length + 1) _ w7 (hrow7.rd_all (S := fun g => g < w7.heap.size) hrow7.lt) (by rw [HCL.out]; omega) (by rw [HCL.out]; omega) hcd
      rw [HQL.out] at cA
      rw [HCL.out] at cB
      clear hcl hcv cm
      go_wp2_with fail
      refine cA.mono ?_
      rintro e w8 ⟨us, A4, c4, rfl, hcut4, hr4, rfl⟩
      obtain ⟨hc4, -, -, hn4, hv4, -⟩ := hcut4
      have HN4 := Lib.hid hn4
      have HV4 := Lib.hid hv4
      clear hn4 hv4 cA
      go_wp2_with fail
      refine cB.mono ?_
      rintro e w8 ⟨vs, A5, c5, rfl, hcut5, hr5, rfl⟩
      obtain ⟨hc5, -, -, hn5, hv5, -⟩ := hcut5
      have HN5 := Lib.hid hn5
      have HV5 := Lib.hid hv5
      clear hn5 hv5 cB
      go_wp2_with fail
      go_ret2
      exact ⟨A4, us, c4, A5, vs, c5, rfl, hc4, hc5, HN4.out, HN5.out, by rw [HV4.out, HQV.out], by rw [HV5.out, HCV.out], hr4, hr5, hb7⟩
end Go.Proofs.YtdmoibphidipeaaGreatDoor
/- What the program's own Div answers. -/

namespace Go.Proofs.YtdmoibphidipeaaGreatDoor
open Go.RowKit Num

theorem nat_Trim_g (d : List Nat) (A : Option Addr) (c : Nat) (S : Nat → Prop) (w : World) (h : Rd w S .u32 A d) (hS : ∀ b, S b → b < w.heap.size) (hl : d.length ≤ 2147483648) (hc : d.length ≤ c) (hd : Dg 4294967296 d) :
    Calls Tryz.prog 173 #[.slice A d.length c] w (Gives .u32 4294967296 (val 4294967296 d) w) := by
  refine (nat_Trim d A c S w h hS hl hc hd).mono ?_
  rintro e w' ⟨ys, hn, hv, -, hb, ⟨rfl, rfl⟩ | ⟨-, g, rfl, -, hr⟩⟩
  · exact ⟨none, [], 0, rfl, by simp, hn, hv, Rd.nil, hb⟩
  · exact ⟨_, ys, _, rfl, Nat.le_refl _, hn, hv, hr.rd_all hr.lt, hb⟩

set_option maxHeartbeats 3200000 in
theorem nat_Div (a b : List Nat) (A A' : Option Addr) (ca cb : Nat) (S S' : Nat → Prop) (w : World) (h : Rd w S .u32 A a) (h' : Rd w S' .u32 A' b) (hS : ∀ g, S g → g < w.heap.size) (hS' : ∀ g, S' g → g < w.heap.size) (hl : a.length ≤ 1073741824) (hl' : b.length ≤ 1073741824) (hc : a.length ≤ ca) (hc' : b.length ≤ cb) (ha : Dg 4294967296 a) (hb : Dg 4294967296 b) :
    Calls Tryz.prog 222 #[.slice A a.length ca, .slice A' b.length cb] w (GivesQR .u32 4294967296 (val 4294967296 a) (val 4294967296 b) w) := by
  obtain ⟨N, hN⟩ : ∃ N, val 4294967296 a = N := ⟨_, rfl⟩
  obtain ⟨D, hD⟩ : ∃ D, val 4294967296 b = D := ⟨_, rfl⟩
  rw [hN, hD]
  go_enter Tryz.func222, Tryz.ntmps222
  go_wp2_with fail
  refine (nat_cut a A ca S w h (by omega) hc ha).mono ?_
  rintro e w1 ⟨x, A1, c1, rfl, hcut1, hr1, rfl⟩
  obtain ⟨hc1, hl1, -, hn1, hv1, -⟩ := hcut1
  rw [hN] at hv1
  have HN1 := Lib.hid hn1
  have HV1 := Lib.hid hv1
  clear hn1 hv1 h
  go_wp2_with fail
  refine (nat_cut b A' cb S' w h' (by omega) hc' hb).mono ?_
  rintro e w1 ⟨y, A2, c2, rfl, hcut2, hr2, rfl⟩
  obtain ⟨hc2, hl2, -, hn2, hv2, -⟩ := hcut2
  rw [hD] at hv2
  have HN2 := Lib.hid hn2
  have HV2 := Lib.hid hv2
  clear hn2 hv2 h'
  clear ha hb hN hD
  by_cases hy0 : y.length = 0
  · obtain rfl : y = [] := List.eq_nil_of_length_eq_zero hy0
    go_wp2_with fail
    go_ret3
    have hD0 : D = 0 := HV2.out.symm
    subst hD0
    exact ⟨none, [], 0, none, [], 0, by rfl, by simp, by simp, norm_nil _, norm_nil _, by simp [val], by simp [val], Rd.nil, Rd.nil, Below.refl _ _⟩
  · have hDp : 0 < D := by
      rw [← HV2.out]
      rcases Nat.eq_zero_or_pos (val 4294967296 y) with h0 | h0
      · have := (HN2.out.2.nil_iff (b := 4294967296) (by omega)).2 h0
        subst this; simp at hy0
      · exact h0
    have cc := nat_Cmp x y A1 A2 c1 c2 S S' w hr1 hr2 (by omega) (by omega) hc1 hc2 HN1.out.1 HN2.out.1
    rw [HV1.out, HV2.out] at cc
    have hneg := cmpI_neg N D
    by_cases hlt : N < D
    · rw [cmpI_lt hlt] at cc
      clear hneg
      go_wp2_with fail
      refine cc.mono ?_
      rintro e w3 ⟨rfl, m, rfl⟩
      have ct := nat_Trim_g x A1 c1 S (w.drewN m) (hr1.drewN m) hS (by omega) hc1 HN1.out.1
      rw [HV1.out] at ct
      have HLT := Lib.hid hlt
      clear cc hlt
      go_wp2_with fail
      refine ct.mono ?_
      rintro e w4 ⟨A4, r4, c4, rfl, hc4, hn4, hv4, hr4, hb4⟩
      have HN4 := Lib.hid hn4
      have HV4 := Lib.hid hv4
      clear hn4 hv4 ct
      go_wp2_with fail
      go_ret3
      refine ⟨none, [], 0, A4, r4, c4, ?_, by simp, hc4, norm_nil _, HN4.out, ?_, ?_, Rd.nil, hr4, (below_drewN (Below.refl _ _) m).trans hb4⟩
      · rw [decide_eq_true hDp]; rfl
      · rw [Nat.div_eq_of_lt HLT.out]; rfl
      · rw [if_neg (by omega), HV4.out, Nat.mod_eq_of_lt HLT.out]
    · obtain ⟨z, hz⟩ : ∃ z, cmpI N D = z := ⟨_, rfl⟩
      rw [hz] at cc hneg
      have hz0 : 0 ≤ z := by omega
      have HGE := Lib.hid hlt
      clear hlt hneg hz
      go_wp2_with fail
      refine cc.mono ?_
      rintro e w3 ⟨rfl, m, rfl⟩
      clear cc
      by_cases hx2 : x.length ≤ 2
      · have hN64 : N < 18446744073709551616 := by rw [← HV1.out]; exact val_lt_pow (n := 2) HN1.out.1 (by omega) hx2
        have hD64 : D < 18446744073709551616 := by have := HGE.out; omega
        have cU1 := nat_Uint x A1 c1 S (w.drewN m) (hr1.drewN m) (by omega) hc1 HN1.out.1
        have cU2 := nat_Uint y A2 c2 S' (w.drewN m) (hr2.drewN m) (by omega) hc2 HN2.out.1
        rw [HV1.out] at cU1
        rw [HV2.out] at cU2
        have hD0 : ¬ D = 0 := by omega
        have hquo := u64_quo N D hN64
        have hrem := tmod_nat N D
        have hq1 : N / D < 18446744073709551616 := Nat.lt_of_le_of_lt (Nat.div_le_self _ _) hN64
        have hq2 : N % D < 18446744073709551616 := Nat.lt_of_le_of_lt (Nat.mod_le _ _) hN64
        have cQ : ∀ W, Calls Tryz.prog 150 #[.int .u64 ((N : Int) / (D : Int))] W (Gives .u32 4294967296 (N / D) W) := fun W => by
          have := nat_Of (N / D) hq1 W
          rwa [Int.natCast_ediv] at this
        have cR : ∀ W, Calls Tryz.prog 150 #[.int .u64 ((N : Int) % (D : Int))] W (Gives .u32 4294967296 (N % D) W) := fun W => by
          have := nat_Of (N % D) hq2 W
          rwa [Int.natCast_emod] at this
        go_wp2_with fail
        refine cU1.mono ?_
        rintro e w4 ⟨rfl, ⟨-, rfl⟩ | ⟨hno, -⟩⟩
        rotate_left
        · exact absurd hN64 hno
        go_wp2_with fail
        refine cU2.mono ?_
        rintro e w4 ⟨rfl, ⟨-, rfl⟩ | ⟨hno, -⟩⟩
        rotate_left
        · exact absurd hD64 hno
        clear cU1 cU2
        go_wp2_with fail
        go_region_held3 (fun _ => True) (trivial) ((first | (go_at_call 150; (with_reducible refine (cQ _).mono ?_); rintro e w4 ⟨A4, q4, c4, rfl, hc4, hn4, hv4, hr4, hb4⟩) | (go_at_call 150; (with_reducible refine (cR _).mono ?_); rintro e w5 ⟨A5, q5, c5, rfl, hc5, hn5, hv5, hr5, hb5⟩)))
        have HQ := Lib.hid hv4
        have HR := Lib.hid hv5
        have HN4 := Lib.hid hn4
        have HN5 := Lib.hid hn5
        have B4 : Below w.heap.size w w4 := (below_drewN (below_drewN (Below.refl _ _) m) 1).trans hb4
        clear hv4 hv5 hn4 hn5 hquo hrem cQ cR
        go_wp2_with fail
        go_ret3
        have hs4 := B4.size
        refine ⟨A4, q4, c4, A5, q5, c5, ?_, hc4, hc5, HN4.out, HN5.out, HQ.out, ?_, (hr4.below hb5 (fun g hg => hg)).imp (fun g hg => by have := hb5.size; omega), hr5, B4.trans (hb5.mono hs4)⟩
        · rw [decide_eq_true hDp]; rfl
        · rw [if_neg (by omega), HR.out]
      · by_cases hy1 : y.length = 1
        · obtain ⟨d, rfl⟩ : ∃ d, y = [d] := List.length_eq_one_iff.1 hy1
          obtain ⟨b2, o2, rfl, hS2, hcell⟩ := hr2.at_ (j := 0) (by simp)
          have hd1 := HN2.out.1.get (j := 0) (by simp)
          simp only [List.getElem_cons_zero, Nat.add_zero] at hcell hd1
          have hdD : d = D := by rw [← HV2.out]; simp [val]
          subst hdD
          have ct := nat_Trim x A1 c1 S (w.drewN m) (hr1.drewN m) hS (by omega) hc1 HN1.out.1
          go_wp2_with fail
          refine ct.mono ?_
          rintro e w4 ⟨xs, hn4, hv4, hl4, hb4, ⟨rfl, rfl⟩ | ⟨-, g, rfl, hg4, hr4⟩⟩
          · exfalso
            rw [HV1.out] at hv4
            have := HGE.out
            have e0 : val 4294967296 ([] : List Nat) = 0 := rfl
            omega
          rw [HV1.out] at hv4
          have HV4 := Lib.hid hv4
          have cd := nat_divWord xs [] g xs.length d 102 w4 (by rw [List.append_nil]; exact hr4) (by omega) hn4.1 hDp hd1
          rw [hv4] at cd
          have hcell4 := (hb4.cell (p := ⟨b2, o2, none⟩) (hS' _ hS2)).trans hcell
          have hg4' : w.heap.size ≤ g := hg4
          have HL4 := Lib.hid hl4
          clear hv4 hn4 ct hcell hg4 hl4
          have hl4 : xs.length ≤ 1073741824 := by have := HL4.out; omega
          go_wp2_with fail
          refine cd.mono ?_
          rintro e w5 ⟨rfl, qs, hql, hqd, hqv, hrow5, hgr5⟩
          rw [List.append_nil] at hrow5
          have hb5 : Below w.heap.size w w5 := ((below_drewN (Below.refl _ _) m).trans hb4).grown hgr5 (by have := hb4.size; simpa using this) (fun q e => by injection e with e; subst e; exact hg4')
          have hlt : N % d < 18446744073709551616 := by have := Nat.mod_lt N hDp; omega
          have cA := nat_cut qs (some ⟨g, 0, none⟩) xs.length _ w5 (hrow5.rd_all (S := fun g => g < w5.heap.size) hrow5.lt) (by rw [hql]; omega) (by rw [hql]; omega) hqd
          rw [hql] at cA
          have cB : ∀ W, Calls Tryz.prog 150 #[.int .u64 ((N : Int) % (d : Int))] W (Gives .u32 4294967296 (N % d) W) := fun W => by
            have := nat_Of (N % d) hlt W
            rwa [Int.natCast_emod] at this
          have HQV := Lib.hid hqv
          have HQL := Lib.hid hql
          clear hqv hql cd
          go_wp2_with fail
          refine cA.mono ?_
          rintro e w6 ⟨us, A4, c4, rfl, hcut4, hr4, rfl⟩
          obtain ⟨hc4, -, -, hn4, hv4, -⟩ := hcut4
          have HN4 := Lib.hid hn4
          have HV4 := Lib.hid hv4
          clear hn4 hv4 cA
          go_wp2_with fail
          refine (cB _).mono ?_
          rintro e w6 ⟨A5, q5, c5, rfl, hc5, hn5, hv5, hr5, hb6⟩
          have HN5 := Lib.hid hn5
          have HV5 := Lib.hid hv5
          clear hn5 hv5 cB
          go_wp2_with fail
          go_ret3
          refine ⟨A4, us, c4, A5, q5, c5, ?_, hc4, hc5, HN4.out, HN5.out, by rw [HV4.out, HQV.out], ?_, (hr4.below hb6 (fun g hg => hg)).imp (fun g hg => by have := hb6.size; omega), hr5, hb5.trans (hb6.mono hb5.size)⟩
          · rw [decide_eq_true hDp]; rfl
          · rw [if_neg (by omega), HV5.out]
        · have hyx : y.length ≤ x.length := HN2.out.2.length_le (b := 4294967296) (by omega) (by
            rw [HV2.out]
            refine Nat.lt_of_le_of_lt (Nat.le_of_not_lt HGE.out) ?_
            rw [← HV1.out]
            exact val_lt HN1.out.1)
          obtain ⟨k, hk⟩ : ∃ k, y.length = k + 2 := ⟨y.length - 2, by omega⟩
          have cd := nat_divWords x y k A1 A2 c1 c2 S S' (w.drewN m) (hr1.drewN m) (hr2.drewN m) hS hS' (by omega) hk hyx HN1.out.1 HN2.out
          rw [HV1.out, HV2.out] at cd
          have hyp : 2 ≤ y.length := by omega
          clear hk
          go_wp2_with fail
          refine cd.mono ?_
          rintro e w4 ⟨A4, q4, c4, A5, r5, c5, rfl, hc4, hc5, hn4, hn5, hv4, hv5, hr4, hr5, hb4⟩
          have HN4 := Lib.hid hn4
          have HV4 := Lib.hid hv4
          have HN5 := Lib.hid hn5
          have HV5 := Lib.hid hv5
          clear hn4 hv4 hn5 hv5 cd
          go_wp2_with fail
          go_ret3
          refine ⟨A4, q4, c4, A5, r5, c5, ?_, hc4, hc5, HN4.out, HN5.out, HV4.out, ?_, hr4, hr5, (below_drewN (Below.refl _ _) m).trans hb4⟩
          · rw [decide_eq_true hDp]; rfl
          · rw [if_neg (by omega), HV5.out]
end Go.Proofs.YtdmoibphidipeaaGreatDoor
/- Plain mathematics of common factors and square roots: what one step of each leaves. No program is named here. -/

namespace Go.Proofs.YtdmoibphidipeaaGreatDoor.Num

theorem sq_lt {x y : Nat} (h : x * x < y * y) : x < y := by
  rcases Nat.lt_or_ge x y with hlt | hge
  · exact hlt
  · have := Nat.mul_le_mul hge hge; omega
/-- TWO NUMBERS THAT TWO OTHERS ARE MADE OF BOTH WAYS have the same common factors. -/
theorem gcd_of_both {a b x y p q r s p' q' r' s' : Nat} (ha : a = p * x + q * y) (hb : b = r * x + s * y) (hx : x + q' * b = p' * a ∨ x + p' * a = q' * b) (hy : y + s' * a = r' * b ∨ y + r' * b = s' * a) : Nat.gcd x y = Nat.gcd a b := by
  refine Nat.dvd_antisymm (Nat.dvd_gcd ?_ ?_) (Nat.dvd_gcd ?_ ?_)
  · rw [ha]; exact Nat.dvd_add (Nat.dvd_mul_left_of_dvd (Nat.gcd_dvd_left _ _) _) (Nat.dvd_mul_left_of_dvd (Nat.gcd_dvd_right _ _) _)
  · rw [hb]; exact Nat.dvd_add (Nat.dvd_mul_left_of_dvd (Nat.gcd_dvd_left _ _) _) (Nat.dvd_mul_left_of_dvd (Nat.gcd_dvd_right _ _) _)
  · have da := Nat.gcd_dvd_left a b
    have db := Nat.gcd_dvd_right a b
    rcases hx with h | h
    · exact (Nat.dvd_add_left (Nat.dvd_mul_left_of_dvd db _)).1 (h ▸ Nat.dvd_mul_left_of_dvd da _)
    · exact (Nat.dvd_add_left (Nat.dvd_mul_left_of_dvd da _)).1 (h ▸ Nat.dvd_mul_left_of_dvd db _)
  · have da := Nat.gcd_dvd_left a b
    have db := Nat.gcd_dvd_right a b
    rcases hy with h | h
    · exact (Nat.dvd_add_left (Nat.dvd_mul_left_of_dvd da _)).1 (h ▸ Nat.dvd_mul_left_of_dvd db _)
    · exact (Nat.dvd_add_left (Nat.dvd_mul_left_of_dvd db _)).1 (h ▸ Nat.dvd_mul_left_of_dvd da _)

/-- HOW THE FORESEEN DIVISIONS STAND: x1 and x2 are what is left of A and B; u and v how often each was taken. -/
structure Inv (A B x1 x2 u1 v1 u2 v2 : Nat) (e : Bool) : Prop where
  top : A = v2 * x1 + v1 * x2
  low : B = u2 * x1 + u1 * x2
  even : e = false → x1 + v1 * B = u1 * A ∧ x2 + u2 * A = v2 * B ∧ u1 * v2 = u2 * v1 + 1
  odd : e = true → x1 + u1 * A = v1 * B ∧ x2 + v2 * B = u2 * A ∧ u2 * v1 = u1 * v2 + 1
  le : x2 ≤ x1
  uv : u2 ≤ v2
  uuvv : u1 + u2 ≤ v1 + v2
  vv : v1 ≤ v2
  u1v : u1 ≤ v2
  pos : 1 ≤ v2
  nz : 1 ≤ v1 → 1 ≤ u2
theorem Inv.start {A B : Nat} (h : B ≤ A) : Inv A B A B 1 0 0 1 false :=
  ⟨by omega, by omega, fun _ => by omega, fun h => by simp at h, h, by omega, by omega, by omega, by omega, by omega, by omega⟩
theorem Inv.next {A B x1 x2 u1 v1 u2 v2 q r : Nat} {e : Bool} (h : Inv A B x1 x2 u1 v1 u2 v2 e) (hx : x1 = x2 * q + r) (hr : r < x2) : Inv A B x2 r u2 v2 (u1 + q * u2) (v1 + q * v2) (!e) := by
  have hq : 1 ≤ q := by
    rcases Nat.eq_zero_or_pos q with h0 | h0
    · subst h0; have := h.le; omega
    · exact h0
  have hu : q * u2 ≤ q * v2 := Nat.mul_le_mul_left _ h.uv
  have hu1 : u2 ≤ q * u2 := Nat.le_mul_of_pos_left _ hq
  have hv1 : v2 ≤ q * v2 := Nat.le_mul_of_pos_left _ hq
  have h1 := h.uuvv
  have h2 := h.uv
  have h3 := h.vv
  have h4 := h.pos
  have hq2 : (q - 1) * u2 ≤ (q - 1) * v2 := Nat.mul_le_mul_left _ h.uv
  have e1 : q * u2 = (q - 1) * u2 + u2 := by obtain ⟨p, rfl⟩ : ∃ p, q = p + 1 := ⟨q - 1, by omega⟩; simp [Nat.add_mul]
  have e2 : q * v2 = (q - 1) * v2 + v2 := by obtain ⟨p, rfl⟩ : ∃ p, q = p + 1 := ⟨q - 1, by omega⟩; simp [Nat.add_mul]
  have t := h.top
  have l := h.low
  subst hx
  refine ⟨by rw [t]; grind, by rw [l]; grind, ?_, ?_, by omega, by omega, by omega, by omega, by omega, by omega, ?_⟩
  · intro he
    have he' : e = true := by simpa using he
    obtain ⟨o1, o2, o3⟩ := h.odd he'
    exact ⟨by grind, by grind, by grind⟩
  · intro he
    have he' : e = false := by simpa using he
    obtain ⟨o1, o2, o3⟩ := h.even he'
    exact ⟨by grind, by grind, by grind⟩
  · intro _
    cases e with
    | false =>
      obtain ⟨-, -, o3⟩ := h.even rfl
      rcases Nat.eq_zero_or_pos u1 with h0 | h0
      · subst h0; omega
      · omega
    | true =>
      obtain ⟨-, -, o3⟩ := h.odd rfl
      rcases Nat.eq_zero_or_pos u2 with h0 | h0
      · subst h0; omega
      · omega
/-- the bounds of what is reckoned -/
theorem Inv.small {A B x1 x2 u1 v1 u2 v2 : Nat} {e : Bool} (h : Inv A B x1 x2 u1 v1 u2 v2 e) (hA : A < 18446744073709551616) (hc : v2 ≤ x2) : v2 < 4294967296 := by
  have h1 : v2 * v2 ≤ v2 * x1 := Nat.mul_le_mul_left _ (Nat.le_trans hc h.le)
  have h2 := h.top
  exact sq_lt (Nat.lt_of_le_of_lt (show v2 * v2 ≤ A by omega) (Nat.lt_of_lt_of_le hA (by omega)))
theorem Inv.great {A B x1 x2 u1 v1 u2 v2 : Nat} {e : Bool} (h : Inv A B x1 x2 u1 v1 u2 v2 e) (hp : 0 < x1) : v2 ≤ A := by
  have h1 : v2 ≤ v2 * x1 := Nat.le_mul_of_pos_right _ hp
  have h2 := h.top
  omega

/-- COLLINS: where what is left of the heads is great enough, the divisions of the whole numbers come out alike. -/
theorem Inv.whole {A B x1 x2 u1 v1 u2 v2 : Nat} {e : Bool} (h : Inv A B x1 x2 u1 v1 u2 v2 e) (h2 : v2 ≤ x2) (h1 : v1 + v2 ≤ x1 - x2) {a b K : Nat} (hK : 0 < K) (ha : a / K = A) (hb : b / K = B) :
    ∃ X1 X2, X2 ≤ X1 ∧ a = v2 * X1 + v1 * X2 ∧ b = u2 * X1 + u1 * X2 ∧ (e = false → X1 + v1 * b = u1 * a ∧ X2 + u2 * a = v2 * b) ∧ (e = true → X1 + u1 * a = v1 * b ∧ X2 + v2 * b = u2 * a) := by
  obtain ⟨la, hla, ea⟩ : ∃ la, la < K ∧ a = K * A + la := ⟨a % K, Nat.mod_lt _ hK, by rw [← ha]; exact (Nat.div_add_mod _ _).symm⟩
  obtain ⟨lb, hlb, eb⟩ : ∃ lb, lb < K ∧ b = K * B + lb := ⟨b % K, Nat.mod_lt _ hK, by rw [← hb]; exact (Nat.div_add_mod _ _).symm⟩
  have f : ∀ n l : Nat, l < K → n * l ≤ K * n := fun n l hl => by rw [Nat.mul_comm]; exact Nat.mul_le_mul_right _ (Nat.le_of_lt hl)
  have ha' : ∀ n, n * a = K * (n * A) + n * la := fun n => by rw [ea, Nat.mul_add, Nat.mul_left_comm]
  have hb' : ∀ n, n * b = K * (n * B) + n * lb := fun n => by rw [eb, Nat.mul_add, Nat.mul_left_comm]
  have hu := h.uuvv
  have hle := h.le
  have huv := h.uv
  have hu1 := h.u1v
  have k1 : K * (v1 + v2 + x2) ≤ K * x1 := Nat.mul_le_mul_left _ (by omega)
  have k2 : K * v2 ≤ K * x2 := Nat.mul_le_mul_left _ h2
  have k3 : K * u2 ≤ K * v2 := Nat.mul_le_mul_left _ huv
  have k4 : K * u1 ≤ K * v2 := Nat.mul_le_mul_left _ hu1
  have k5 : K * (u1 + u2) ≤ K * (v1 + v2) := Nat.mul_le_mul_left _ hu
  simp only [Nat.mul_add] at k1 k5
  have a1 := ha' u1
  have a2 := ha' u2
  have b1 := hb' v1
  have b2 := hb' v2
  have m1 := f v1 lb hlb
  have m2 := f v2 lb hlb
  have m3 := f u1 la hla
  have m4 := f u2 la hla
  cases e with
  | false =>
    obtain ⟨i1, i2, i3⟩ := h.even rfl
    have j1 : K * x1 + K * (v1 * B) = K * (u1 * A) := by rw [← Nat.mul_add, i1]
    have j2 : K * x2 + K * (u2 * A) = K * (v2 * B) := by rw [← Nat.mul_add, i2]
    obtain ⟨X1, hX1⟩ : ∃ X1, X1 + v1 * b = u1 * a := ⟨u1 * a - v1 * b, by omega⟩
    obtain ⟨X2, hX2⟩ : ∃ X2, X2 + u2 * a = v2 * b := ⟨v2 * b - u2 * a, by omega⟩
    refine ⟨X1, X2, by omega, ?_, ?_, fun _ => ⟨hX1, hX2⟩, fun h => by simp at h⟩
    · clear a1 a2 b1 b2 m1 m2 m3 m4 j1 j2 ha' hb' f ea eb k1 k2 k3 k4 k5; grind
    · clear a1 a2 b1 b2 m1 m2 m3 m4 j1 j2 ha' hb' f ea eb k1 k2 k3 k4 k5; grind
  | true =>
    obtain ⟨i1, i2, i3⟩ := h.odd rfl
    have j1 : K * x1 + K * (u1 * A) = K * (v1 * B) := by rw [← Nat.mul_add, i1]
    have j2 : K * x2 + K * (v2 * B) = K * (u2 * A) := by rw [← Nat.mul_add, i2]
    obtain ⟨X1, hX1⟩ : ∃ X1, X1 + u1 * a = v1 * b := ⟨v1 * b - u1 * a, by omega⟩
    obtain ⟨X2, hX2⟩ : ∃ X2, X2 + v2 * b = u2 * a := ⟨u2 * a - v2 * b, by omega⟩
    refine ⟨X1, X2, by omega, ?_, ?_, fun h => by simp at h, fun _ => ⟨hX1, hX2⟩⟩
    · clear a1 a2 b1 b2 m1 m2 m3 m4 j1 j2 ha' hb' f ea eb k1 k2 k3 k4 k5; grind
    · clear a1 a2 b1 b2 m1 m2 m3 m4 j1 j2 ha' hb' f ea eb k1 k2 k3 k4 k5; grind

/-- what the foreseen divisions say: none, or that they come out alike whatever follows -/
def Seen (A B f0 f1 s0 s1 : Nat) (ev : Bool) : Prop := f1 = 0 ∨ ∃ x1 x2, Inv A B x1 x2 f0 f1 s0 s1 (!ev) ∧ s1 ≤ x2 ∧ f1 + s1 ≤ x1 - x2

/-- two numbers below p that differ by whole p's are one -/
theorem mod_one {p x y c d : Nat} (h : x + p * c = y + p * d) (hx : x < p) (hy : y < p) : x = y := by
  have h1 : (x + p * c) % p = (y + p * d) % p := by rw [h]
  rwa [Nat.add_mul_mod_self_left, Nat.add_mul_mod_self_left, Nat.mod_eq_of_lt hx, Nat.mod_eq_of_lt hy] at h1

end Go.Proofs.YtdmoibphidipeaaGreatDoor.Num
/- What the program's own small calls on words answer: cut, at, head. -/

namespace Go.Proofs.YtdmoibphidipeaaGreatDoor
open Go.RowKit Num

theorem below_one (w : World) (o : Obj) : Below w.heap.size w (w.alloc o) := (Below.refl _ _).alloc (Nat.le_refl _) _
theorem take_bits {d : List Nat} {n : Nat} (hd : Dg 4294967296 d) (hb : IsBits (val 4294967296 d) n) :
    Norm 4294967296 (d.take ((n + 31) / 32)) ∧ val 4294967296 (d.take ((n + 31) / 32)) = val 4294967296 d ∧ (d.take ((n + 31) / 32)).length ≤ (n + 31) / 32 := by
  have hk : val 4294967296 d < 4294967296 ^ ((n + 31) / 32) := by
    refine Nat.lt_of_lt_of_le hb.1 ?_
    rw [show (4294967296 : Nat) = 2 ^ 32 from rfl, ← Nat.pow_mul]
    exact Nat.pow_le_pow_right (by omega) (by omega)
  have hl : (d.take ((n + 31) / 32)).length ≤ (n + 31) / 32 := by rw [List.length_take]; omega
  have hv : val 4294967296 (d.take ((n + 31) / 32)) = val 4294967296 d := by
    by_cases h : (n + 31) / 32 ≤ d.length
    · have e := val_split (b := 4294967296) h
      rcases Nat.eq_zero_or_pos (val 4294967296 (d.drop ((n + 31) / 32))) with h0 | h0
      · rw [e, h0]; simp
      · have := Nat.mul_le_mul_left (4294967296 ^ ((n + 31) / 32)) h0
        omega
    · rw [List.take_of_length_le (by omega)]
  refine ⟨?_, hv, hl⟩
  rcases hb.2 with h0 | h0
  · subst h0
    exact norm_nil _
  · refine ⟨hd.take, top_of_le hd.take ?_⟩
    rw [hv]
    refine Nat.le_trans ?_ h0
    rw [show (4294967296 : Nat) = 2 ^ 32 from rfl, ← Nat.pow_mul]
    exact Nat.pow_le_pow_right (by omega) (by omega)

set_option maxHeartbeats 400000 in
theorem root_cut (d : List Nat) (A : Option Addr) (c : Nat) (S : Nat → Prop) (w : World) (h : Rd w S .u32 A d) (hl : d.length ≤ 1073741824) (hc : d.length ≤ c) (hd : Dg 4294967296 d) :
    Calls Tryz.prog 243 #[.slice A d.length c] w fun e w' => ∃ ys A' c', e = .returned (.slice A' ys.length c') ∧ ys.length ≤ c' ∧ ys.length ≤ d.length ∧ Norm 4294967296 ys ∧ val 4294967296 ys = val 4294967296 d ∧ Rd w S .u32 A' ys ∧ w = w' := by
  have cb := nat_Bits d A c S w h hl hc hd
  go_enter Tryz.func243, Tryz.ntmps243
  go_wp2_with fail
  refine cb.mono ?_
  rintro e w1 ⟨n, rfl, hb, hn, rfl⟩
  obtain ⟨t1, t2, t3⟩ := take_bits hd hb
  go_wp2_with fail
  go_ret
  have hk : (n + 31) / 32 ≤ d.length := by omega
  have hlen : (d.take ((n + 31) / 32)).length = (n + 31) / 32 := by rw [List.length_take]; omega
  exact ⟨d.take ((n + 31) / 32), A, c, by rw [hlen]; congr 2, by omega, by omega, t1, t2, h.take _, rfl⟩

set_option maxHeartbeats 400000 in
/-- a word; 0 behind the last one -/
theorem root_at (d : List Nat) (A : Option Addr) (c : Nat) (i : Nat) (S : Nat → Prop) (w : World) (h : Rd w S .u32 A d) :
    Calls Tryz.prog 265 #[.slice A d.length c, .int .i64 i] w fun e w' => e = .returned (.int .u32 (d.getD i 0 : Nat)) ∧ w = w' := by
  by_cases hlt : i < d.length
  · obtain ⟨b, o, rfl, _, hcell⟩ := h.at_ hlt
    obtain ⟨x, hx⟩ : ∃ x, d[i] = x := ⟨_, rfl⟩
    rw [List.getD_eq_getElem?_getD, List.getElem?_eq_getElem hlt, Option.getD_some]
    rw [hx] at hcell ⊢
    clear hx
    go_enter Tryz.func265, Tryz.ntmps265
    go_wp2_with fail
    go_ret
    exact ⟨rfl, rfl⟩
  · rw [List.getD_eq_getElem?_getD, List.getElem?_eq_none (by omega), Option.getD_none]
    go_enter Tryz.func265, Tryz.ntmps265
    go_wp2_with fail
    go_ret
    exact ⟨rfl, rfl⟩

/-- two words and the higher bits of a third one -/
theorem head_val {m r s : Nat} (hr : r < 4294967296) (hs : s < 32) (hm : m * 2 ^ s < 18446744073709551616) :
    bits .or .u64 ((m * 2 ^ s : Nat) : Int) ((r / 2 ^ (32 - s) : Nat) : Int) = (((r + 4294967296 * m) / 2 ^ (32 - s) : Nat) : Int) := by
  have e : (4294967296 : Nat) = 2 ^ (32 - s) * 2 ^ s := by rw [← Nat.pow_add, show 32 - s + s = 32 by omega]
  have ht : 0 < 2 ^ (32 - s) := Nat.pow_pos (by omega)
  have hc : r / 2 ^ (32 - s) < 2 ^ s := by
    rw [Nat.div_lt_iff_lt_mul ht, Nat.mul_comm, ← e]; exact hr
  have hr2 : r / 2 ^ (32 - s) < 18446744073709551616 := by
    have := Nat.div_le_self r (2 ^ (32 - s)); omega
  rw [u64_or_nat _ _ hm hr2]
  congr 1
  rw [Nat.mul_comm m, ← Nat.two_pow_add_eq_or_of_lt hc, e, Nat.mul_assoc, Nat.add_mul_div_left _ _ ht, Nat.add_comm]
theorem head_fit {p q s : Nat} (hq : q < 4294967296) (hs : s < 32) (h : p * 2 ^ s < 4294967296) : (q + 4294967296 * p) * 2 ^ s < 18446744073709551616 := by
  have e : (4294967296 : Nat) = 2 ^ (32 - s) * 2 ^ s := by rw [← Nat.pow_add, show 32 - s + s = 32 by omega]
  have hp : p < 2 ^ (32 - s) := by
    rw [e] at h
    exact Nat.lt_of_mul_lt_mul_right h
  have h1 : q + 4294967296 * p < 4294967296 * 2 ^ (32 - s) := by
    have := Nat.mul_le_mul_left 4294967296 (show p + 1 ≤ 2 ^ (32 - s) from hp)
    omega
  have h2 := Nat.mul_lt_mul_of_pos_right h1 (show 0 < 2 ^ s from Nat.pow_pos (by omega))
  rw [Nat.mul_assoc, ← e] at h2
  omega

set_option maxHeartbeats 1600000 in
/-- 64 bits of the three words that end at n -/
theorem root_head (d : List Nat) (A : Option Addr) (c n s : Nat) (S : Nat → Prop) (w : World) (h : Rd w S .u32 A d) (hn : n ≤ 1073741824) (h3 : 3 ≤ n) (hs : s < 32) (hd : Dg 4294967296 d)
    (htop : d.getD (n - 1) 0 * 2 ^ s < 4294967296) :
    Calls Tryz.prog 258 #[.slice A d.length c, .int .i64 n, .int .i64 s] w fun e w' => e = .returned (.int .u64 ((d.getD (n - 3) 0 + 4294967296 * (d.getD (n - 2) 0 + 4294967296 * d.getD (n - 1) 0)) / 2 ^ (32 - s) : Nat)) ∧ ∃ k, w' = w.drewN k := by
  have c1 := fun m => root_at d A c (n - 1) S (w.drewN m) (h.drewN m)
  have c2 := fun m => root_at d A c (n - 2) S (w.drewN m) (h.drewN m)
  have c3 := fun m => root_at d A c (n - 3) S (w.drewN m) (h.drewN m)
  have b1 := hd.getD (by omega) (n - 1)
  have b2 := hd.getD (by omega) (n - 2)
  have b3 := hd.getD (by omega) (n - 3)
  obtain ⟨p, hp⟩ : ∃ p, d.getD (n - 1) 0 = p := ⟨_, rfl⟩
  obtain ⟨q, hq⟩ : ∃ p, d.getD (n - 2) 0 = p := ⟨_, rfl⟩
  obtain ⟨r, hr⟩ : ∃ p, d.getD (n - 3) 0 = p := ⟨_, rfl⟩
  rw [hp] at b1 htop ⊢
  rw [hq] at b2 ⊢
  rw [hr] at b3 ⊢
  simp only [hp] at c1
  simp only [hq] at c2
  simp only [hr] at c3
  clear hp hq hr
  have e1 : ((n - 1 : Nat) : Int) = (n : Int) - 1 := by omega
  have e2 : ((n - 2 : Nat) : Int) = (n : Int) - 2 := by omega
  have e3 : ((n - 3 : Nat) : Int) = (n : Int) - 3 := by omega
  simp only [e1] at c1
  simp only [e2] at c2
  simp only [e3] at c3
  have HT := Lib.hid htop
  clear htop e1 e2 e3
  go_enter Tryz.func258, Tryz.ntmps258
  go_wp2_with fail
  refine (c1 0).mono ?_
  rintro e w1 ⟨rfl, rfl⟩
  go_wp2_with fail
  refine (c2 0).mono ?_
  rintro e w1 ⟨rfl, rfl⟩
  go_wp2_with fail
  have e1 : bits BinOp.or IntKind.u64 ((p : Int) * 4294967296) (q : Int) = ((q + 4294967296 * p : Nat) : Int) := by
    rw [show (p : Int) * 4294967296 = ((p * 4294967296 : Nat) : Int) by omega, or_words q p b2 b1]
  rw [e1]
  have hm := head_fit b2 hs HT.out
  obtain ⟨m, hmm⟩ : ∃ m, q + 4294967296 * p = m := ⟨_, rfl⟩
  rw [hmm] at hm ⊢
  have HM := Lib.hid hm
  have hs0 : (0 : Int) ≤ (s : Int) := by omega
  have hs32 : (s : Int) < 32 := by omega
  have hm64 : m < 18446744073709551616 := by omega
  have HMM := Lib.hid hmm
  clear hm e1 hmm
  go_quiet ((go_at_call 265; exact quiet_one (c3 _)))
  go_wp2_with fail
  go_ret
  refine ⟨?_, ⟨0 + nq, World.drewN_drewN _ _ _⟩⟩
  have e2 : IntKind.u64.wrap ((m : Int) * 2 ^ s) = ((m * 2 ^ s : Nat) : Int) := by
    rw [show (m : Int) * 2 ^ s = ((m * 2 ^ s : Nat) : Int) by simp]
    have := HM.out
    generalize m * 2 ^ s = z at *
    exact IntWalk.u64_in _ (by omega)
  rw [HMM.out, ← head_val b3 hs HM.out, ← e2]
  simp
end Go.Proofs.YtdmoibphidipeaaGreatDoor
/- What the program's own less answers: a number times another one without a third one times a fourth one, word by word. -/

namespace Go.Proofs.YtdmoibphidipeaaGreatDoor
open Go.RowKit Num

theorem below_alloc_grown' {w W0 wr : World} (h : Below w.heap.size w W0) (hg : W0.grownBy wr (some w.heap.size)) : Below w.heap.size w wr :=
  h.grown hg h.size (fun g e => by injection e with e; omega)
/-- one word of it -/
theorem less_step {B K V Pa Pb n m up dn br p q x y t s : Nat} {d v : Nat} (h : V + Pb * m + K * up = Pa * n + K * (dn + br)) (ht : t = up + p * n) (hs : s = dn + q * m)
    (hx : x + B * (t / B) = t) (hy : y + B * (s / B) = s) (hd : d + y + br = B + x) (hv : v + B * (d / B) = d) (hd2 : d / B ≤ 1) :
    (V + K * v) + (Pb + K * q) * m + K * B * (t / B) = (Pa + K * p) * n + K * B * (s / B + (1 - d / B)) := by
  obtain ⟨z, hz⟩ : ∃ z, d / B = z := ⟨_, rfl⟩
  obtain ⟨z', hz'⟩ : ∃ z', 1 - d / B = z' := ⟨_, rfl⟩
  have hzz : z + z' = 1 := by omega
  rw [hz'] 
  rw [hz] at hv
  generalize t / B = t' at *
  generalize s / B = s' at *
  clear hz hz' hd2
  have hB : B * z + B * z' = B := by rw [← Nat.mul_add, hzz, Nat.mul_one]
  have e : v + q * m + B * t' + dn + br = p * n + B * s' + B * z' + up := by omega
  have e2 : K * v + K * (q * m) + K * (B * t') + K * dn + K * br = K * (p * n) + K * (B * s') + K * (B * z') + K * up := by
    simp only [← Nat.mul_add]; rw [e]
  simp only [Nat.add_mul, Nat.mul_add, Nat.mul_assoc] at h e2 ⊢
  omega

set_option maxHeartbeats 1600000 in
theorem root_less (a b : List Nat) (A A' : Option Addr) (ca cb n m X : Nat) (w : World) (h : Rd w (fun g => g < w.heap.size) .u32 A a) (h' : Rd w (fun g => g < w.heap.size) .u32 A' b) (hl : a.length ≤ 1073741824) (ha : Dg 4294967296 a) (hb : Dg 4294967296 b)
    (hn : n < 4294967296) (hm : m < 4294967296) (hX : X + val 4294967296 b * m = val 4294967296 a * n) (hXl : X < 4294967296 ^ (min a.length b.length)) :
    Calls Tryz.prog 266 #[.slice A a.length ca, .int .u64 n, .slice A' b.length cb, .int .u64 m] w fun e w' => ∃ A1 xs c, e = .returned (.slice A1 xs.length c) ∧ xs.length ≤ c ∧ xs.length ≤ min a.length b.length ∧ Norm 4294967296 xs ∧ val 4294967296 xs = X ∧ Rd w' (fun g => g < w'.heap.size) .u32 A1 xs ∧ Below w.heap.size w w' := by
  have HX := Lib.hid hX
  have HXL := Lib.hid hXl
  clear hX hXl
  obtain ⟨L, hL⟩ : ∃ L, min a.length b.length = L := ⟨_, rfl⟩
  have hLa : L ≤ a.length := by omega
  have hLb : L ≤ b.length := by omega
  have hmk := fun u : World => make_words L (by omega) u
  have hmi : (min (a.length : Int) (b.length : Int)) = (L : Int) := by omega
  go_enter Tryz.func266, Tryz.ntmps266
  go_wp2_with fail
  have hB0 := below_one w (.cells (cells .u32 (List.replicate L 0)).toArray 102)
  have hRow := Row.new w 102 .u32 (List.replicate L 0)
  obtain ⟨W0, hW0⟩ : ∃ W0, w.alloc (.cells (cells .u32 (List.replicate L 0)).toArray 102) = W0 := ⟨_, rfl⟩
  have hsz : W0.heap.size = w.heap.size + 1 := by rw [← hW0]; simp
  rw [hW0] at hB0 hRow ⊢
  have hAA : Rd W0 (fun g => g < w.heap.size) .u32 A a := h.below hB0 (fun _ hg => hg)
  have hBB : Rd W0 (fun g => g < w.heap.size) .u32 A' b := h'.below hB0 (fun _ hg => hg)
  clear h h' hW0 hmk
  go_loopg [10, 11, 12, 13, 22] L (fun gh up dn br _ i wr => ∃ (k u v y : Nat) (cs : List Nat), gh + k = L ∧ i = .int .i64 k ∧ up = .int .u64 u ∧ dn = .int .u64 v ∧ br = .int .u32 y ∧ u < 4294967296 ∧ v < 4294967296 ∧ y ≤ 1 ∧ cs.length = k ∧ Dg 4294967296 cs ∧ Row wr w.heap.size 102 .u32 (splice (List.replicate L 0) 0 cs) ∧ W0.grownBy wr (some w.heap.size) ∧
    val 4294967296 cs + val 4294967296 (b.take k) * m + 4294967296 ^ k * u = val 4294967296 (a.take k) * n + 4294967296 ^ k * (v + y))
  case atStart => exact ⟨0, 0, 0, 0, [], by omega, rfl, rfl, rfl, rfl, by omega, by omega, by omega, rfl, Dg.nil _, by rw [splice_nil]; exact hRow, World.grownBy.refl _ _, by simp [val]⟩
  case round =>
    clear hRow
    obtain ⟨k, u, v, y, cs, hg, rfl, rfl, rfl, rfl, hu, hv, hy, rfl, hcd, hr, hgr, hV⟩ := hrel
    have HG := Lib.hid hg
    have HV := Lib.hid hV
    clear hg hV
    have hlen : (splice (List.replicate L 0) 0 cs).length = L := by rw [length_splice' (by have := HG.out; simp; omega)]; simp
    have HL := Lib.hid hlen
    clear hlen
    by_cases hlt : cs.length < L
    · have hRa := hAA.grown hgr (fun x hx => ⟨by omega, by simp; omega⟩)
      have hRb := hBB.grown hgr (fun x hx => ⟨by omega, by simp; omega⟩)
      obtain ⟨ba, oa, rfl, _, ca0⟩ := hRa.at_ (j := cs.length) (by omega)
      obtain ⟨bb, ob, rfl, _, cb0⟩ := hRb.at_ (j := cs.length) (by omega)
      have hf := hr.frozen cs.length
      have cz := hr.cell (i := cs.length) (by rw [HL.out]; omega)
      have hp1 := ha.get (j := cs.length) (by omega)
      have hq1 := hb.get (j := cs.length) (by omega)
      have hs1 := val_take_succ (b := 4294967296) (xs := a) (k := cs.length) (by omega)
      have hs2 := val_take_succ (b := 4294967296) (xs := b) (k := cs.length) (by omega)
      obtain ⟨p, hp⟩ : ∃ p, a[cs.length]'(by omega) = p := ⟨_, rfl⟩
      obtain ⟨q, hq⟩ : ∃ q, b[cs.length]'(by omega) = q := ⟨_, rfl⟩
      rw [hp] at ca0 hp1 hs1
      rw [hq] at cb0 hq1 hs2
      have HS1 := Lib.hid hs1
      have HS2 := Lib.hid hs2
      clear hp hq hs1 hs2
      have hpn : p * n ≤ 4294967295 * 4294967295 := Nat.mul_le_mul (by omega) (by omega)
      have hpn1 : (p : Int) * (n : Int) ≤ 18446744065119617025 := by rw [← Int.natCast_mul]; omega
      have hpn0 : 0 ≤ (p : Int) * (n : Int) := by rw [← Int.natCast_mul]; omega
      have hqm : q * m ≤ 4294967295 * 4294967295 := Nat.mul_le_mul (by omega) (by omega)
      have hqm1 : (q : Int) * (m : Int) ≤ 18446744065119617025 := by rw [← Int.natCast_mul]; omega
      have hqm0 : 0 ≤ (q : Int) * (m : Int) := by rw [← Int.natCast_mul]; omega
      obtain ⟨t, ht⟩ : ∃ t, t = u + p * n := ⟨_, rfl⟩
      obtain ⟨s, hs⟩ : ∃ s, s = v + q * m := ⟨_, rfl⟩
      have eT : (u : Int) + (p : Int) * (n : Int) = (t : Int) := by rw [ht, Int.natCast_add, Int.natCast_mul]
      have eS : (v : Int) + (q : Int) * (m : Int) = (s : Int) := by rw [hs, Int.natCast_add, Int.natCast_mul]
      have ht64 : t < 18446744073709551616 := by omega
      have hs64 : s < 18446744073709551616 := by omega
      have csub := sub32 (t % 4294967296) (s % 4294967296) y wr (by omega) (by omega) hy
      rw [Int.natCast_emod, Int.natCast_emod] at csub
      have HT := Lib.hid ht
      have HSS := Lib.hid hs
      clear ht hs
      go_wp2_with fail
      try rw [eT, eS]
      clear eT eS hpn hpn1 hpn0 hqm hqm1 hqm0
      obtain ⟨d, hd⟩ : ∃ d, d = 4294967296 + t % 4294967296 - s % 4294967296 - y := ⟨_, rfl⟩
      rw [← hd] at csub
      have HD := Lib.hid hd
      clear hd
      refine csub.mono ?_
      rintro e w' ⟨rfl, rfl⟩
      clear csub
      go_wp2_with fail
      go_roundg (gk - 1)
      case measure => have := HG.out; omega
      case rel =>
        have hd := HD.out
        have hr2 := hr.set cs.length (d % 4294967296)
        rw [splice_snoc0 (by simp; omega)] at hr2
        refine ⟨cs.length + 1, t / 4294967296, s / 4294967296, 1 - d / 4294967296, cs ++ [d % 4294967296], by have := HG.out; omega, by go_num, by go_num, by go_num, by go_num, by omega, by omega, by omega, by simp, hcd.snoc (by omega), hr2, grown_setCell hgr _ _, ?_⟩
        rw [HS1.out, HS2.out, val_snoc, Nat.pow_succ]
        exact less_step (x := t % 4294967296) (y := s % 4294967296) HV.out HT.out HSS.out (by omega) (by omega) (by omega) (by omega) (by omega)
    · have hk : cs.length = L := by have := HG.out; omega
      have hsp : splice (List.replicate L 0) 0 cs = cs := splice_full (by simp; omega)
      rw [hsp] at hr
      have hv := HV.out
      have hvX : val 4294967296 cs = X := by
        have e1 := val_split (b := 4294967296) (k := L) (xs := a) hLa
        have e2 := val_split (b := 4294967296) (k := L) (xs := b) hLb
        have hX := HX.out
        rw [e1, e2] at hX
        rw [hk] at hv
        have hlt1 := val_lt hcd
        have hlt2 := HXL.out
        rw [hk] at hlt1
        rw [hL] at hlt2
        refine mod_one (p := 4294967296 ^ L) (c := u + val 4294967296 (a.drop L) * n) (d := v + y + val 4294967296 (b.drop L) * m) ?_ hlt1 hlt2
        simp only [Nat.add_mul, Nat.mul_add, Nat.mul_assoc] at hX hv ⊢
        omega
      have hrd := hr.rd_all (S := fun g => g < wr.heap.size) hr.lt
      have hB := below_alloc_grown' hB0 hgr
      have cc := root_cut cs _ L _ wr hrd (by omega) (by omega) hcd
      rw [hk] at cc
      have HVX := Lib.hid hvX
      clear hvX hv
      go_wp2_with fail
      refine cc.mono ?_
      rintro e w' ⟨ys, A1, c1, rfl, hc1, hl1, hn1, hv1, hr1, rfl⟩
      go_wp2_with fail
      go_ret
      exact ⟨A1, ys, c1, rfl, hc1, by omega, hn1, hv1.trans HVX.out, hr1, hB⟩
end Go.Proofs.YtdmoibphidipeaaGreatDoor
/- What the program's own foresee answers: the divisions that come out alike. -/

namespace Go.Proofs.YtdmoibphidipeaaGreatDoor
open Go.RowKit Num

/-- BLOCK g IS JUST THE CELLS vs. -/
def Blk (w : World) (g : Nat) (t : TypeId) (vs : List Value) : Prop := w.heap[g]? = some (.cells vs.toArray t (0, 0))
section
variable {w w' : World} {g : Nat} {t : TypeId} {vs : List Value}
theorem Blk.lt (h : Blk w g t vs) : g < w.heap.size := by
  rcases Nat.lt_or_ge g w.heap.size with hlt | hge
  · exact hlt
  · unfold Blk at h; rw [Array.getElem?_eq_none hge] at h; cases h
theorem Blk.cell (h : Blk w g t vs) (i : Nat) {v : Value} (hv : vs[i]? = some v) : w.cell? ⟨g, i, none⟩ = some v := by
  rw [cell_of_row w g i _ t (0, 0) h]
  simpa using hv
theorem Blk.frozen (h : Blk w g t vs) (i : Nat) : w.frozen? ⟨g, i, none⟩ = false := frozen_of_row w g i _ t h
theorem Blk.set (h : Blk w g t vs) (i : Nat) (v : Value) : Blk (w.setCell ⟨g, i, none⟩ v) g t (vs.set i v) := by
  have := heap_setCell_same w g i _ t v h
  unfold Blk
  rw [this]
  simp
theorem Blk.far (h : Blk w g t vs) {p : Addr} (hp : g ≠ p.block) (u : Value) : Blk (w.setCell p u) g t vs := (Below.heap_setCell w p u g hp).trans h
theorem Blk.alloc (h : Blk w g t vs) (o : Obj) : Blk (w.alloc o) g t vs := (Below.heap_alloc w o g h.lt).trans h
theorem Blk.drewN (h : Blk w g t vs) (n : Nat) : Blk (w.drewN n) g t vs := h
theorem Blk.new (w : World) (t : TypeId) (vs : List Value) : Blk (w.alloc (.cells vs.toArray t)) w.heap.size t vs := heap_alloc_new w _
theorem Blk.at_new (w : World) (t : TypeId) (vs : List Value) {g : Nat} (hg : g = w.heap.size) : Blk (w.alloc (.cells vs.toArray t)) g t vs := by rw [hg]; exact Blk.new w t vs
theorem Blk.below {B : Nat} (h : Blk w g t vs) (hb : Below B w w') (hg : g < B) : Blk w' g t vs := (hb.block g hg).trans h
end

/-- steps, as they lie -/
def lie (f0 f1 s0 s1 : Nat) (ev : Bool) : List Value := [.int .u64 f0, .int .u64 f1, .int .u64 s0, .int .u64 s1, .bool ev]
def pair (x y : Nat) : List Value := [.int .u64 x, .int .u64 y]

theorem Blk.five {w : World} {g : Nat} {t : TypeId} {a0 a1 a2 a3 a4 : Value} (h : Blk w g t [a0, a1, a2, a3, a4]) (u0 u1 u2 u3 u4 : Value) :
    ∃ W, ((((w.setCell ⟨g, 0, none⟩ u0).setCell ⟨g, 1, none⟩ u1).setCell ⟨g, 2, none⟩ u2).setCell ⟨g, 3, none⟩ u3).setCell ⟨g, 4, none⟩ u4 = W ∧ Blk W g t [u0, u1, u2, u3, u4] ∧ (∀ B, B ≤ g → Below B w W) ∧ (∀ g' t' vs, g' ≠ g → Blk w g' t' vs → Blk W g' t' vs) ∧ w.heap.size ≤ W.heap.size :=
  ⟨_, rfl, ((((h.set 0 u0).set 1 u1).set 2 u2).set 3 u3).set 4 u4, fun _ hB => (((((Below.refl _ _).setCell hB _).setCell hB _).setCell hB _).setCell hB _).setCell hB _,
    fun _ _ _ hne k => ((((k.far hne u0).far hne u1).far hne u2).far hne u3).far hne u4, by simp [World.setCell]⟩
theorem Blk.two {w : World} {g : Nat} {t : TypeId} {a0 a1 : Value} (h : Blk w g t [a0, a1]) (u0 u1 : Value) :
    ∃ W, (w.setCell ⟨g, 0, none⟩ u0).setCell ⟨g, 1, none⟩ u1 = W ∧ Blk W g t [u0, u1] ∧ (∀ B, B ≤ g → Below B w W) ∧ (∀ g' t' vs, g' ≠ g → Blk w g' t' vs → Blk W g' t' vs) ∧ w.heap.size ≤ W.heap.size :=
  ⟨_, rfl, (h.set 0 u0).set 1 u1, fun _ hB => ((Below.refl _ _).setCell hB _).setCell hB _, fun _ _ _ hne k => (k.far hne u0).far hne u1, by simp [World.setCell]⟩

/-- what foresee answers -/
def GivesSteps (A B : Nat) (w : World) (e : Ending) (w' : World) : Prop :=
  ∃ (f0 f1 s0 s1 : Nat) (ev : Bool), e = .returned (.agg #[.int .u64 f0, .int .u64 f1, .int .u64 s0, .int .u64 s1, .bool ev]) ∧ Seen A B f0 f1 s0 s1 ev ∧ Below w.heap.size w w'
theorem gives_steps {A B f0 f1 s0 s1 : Nat} {ev : Bool} {w wr : World} {z0 z1 z2 z3 z4 : Value} {t : TypeId} (k0 : Blk wr w.heap.size t [z0, z1, z2, z3, z4]) (kb : Below w.heap.size w wr) (hS : Seen A B f0 f1 s0 s1 ev) :
    ∃ W, ((((wr.setCell ⟨w.heap.size, 0, none⟩ (.int .u64 f0)).setCell ⟨w.heap.size, 1, none⟩ (.int .u64 f1)).setCell ⟨w.heap.size, 2, none⟩ (.int .u64 s0)).setCell ⟨w.heap.size, 3, none⟩ (.int .u64 s1)).setCell ⟨w.heap.size, 4, none⟩ (.bool ev) = W ∧
      W.cell? ⟨w.heap.size, 0, none⟩ = some (.int .u64 f0) ∧ W.cell? ⟨w.heap.size, 1, none⟩ = some (.int .u64 f1) ∧ W.cell? ⟨w.heap.size, 2, none⟩ = some (.int .u64 s0) ∧ W.cell? ⟨w.heap.size, 3, none⟩ = some (.int .u64 s1) ∧ W.cell? ⟨w.heap.size, 4, none⟩ = some (.bool ev) ∧
      GivesSteps A B w (.returned (.agg #[.int .u64 f0, .int .u64 f1, .int .u64 s0, .int .u64 s1, .bool ev])) W := by
  obtain ⟨W, hW, k, hb, -, -⟩ := k0.five (.int .u64 f0) (.int .u64 f1) (.int .u64 s0) (.int .u64 s1) (.bool ev)
  exact ⟨W, hW, k.cell 0 rfl, k.cell 1 rfl, k.cell 2 rfl, k.cell 3 rfl, k.cell 4 rfl, f0, f1, s0, s1, ev, rfl, hS, kb.trans (hb _ (Nat.le_refl _))⟩

set_option maxHeartbeats 1600000 in
theorem root_foresee (A B : Nat) (hA : A < 18446744073709551616) (hB : B ≤ A) (w : World) :
    Calls Tryz.prog 257 #[.int .u64 A, .int .u64 B] w (GivesSteps A B w) := by
  go_enter Tryz.func257, Tryz.ntmps257
  go_wp2_with fail
  have k0 := ((Blk.new w 225 (lie 0 0 0 0 false)).alloc (.cells (lie 0 0 1 0 false).toArray 225)).alloc (.cells (pair 0 1).toArray 223)
  have k1 := (Blk.at_new (w.alloc (.cells (lie 0 0 0 0 false).toArray 225)) 225 (lie 0 0 1 0 false) (g := w.heap.size + 1) (by simp)).alloc (.cells (pair 0 1).toArray 223)
  have k2 := Blk.at_new ((w.alloc (.cells (lie 0 0 0 0 false).toArray 225)).alloc (.cells (lie 0 0 1 0 false).toArray 225)) 223 (pair 0 1) (g := w.heap.size + 1 + 1) (by simp)
  have kb := (((below_one w (.cells (lie 0 0 0 0 false).toArray 225)).alloc (by simp) (.cells (lie 0 0 1 0 false).toArray 225)).alloc (by simp; omega) (.cells (pair 0 1).toArray 223))
  go_loopg [0, 1, 7, 8, 9] B (fun gh a b _ _ _ wr => ∃ (x1 x2 f0 f1 s0 s1 n0 n1 : Nat) (ev : Bool), x2 = gh ∧ a = .int .u64 x1 ∧ b = .int .u64 x2 ∧ Blk wr w.heap.size 225 (lie 0 0 0 0 false) ∧ Blk wr (w.heap.size + 1) 225 (lie f0 f1 s0 s1 ev) ∧ Blk wr (w.heap.size + 1 + 1) 223 (pair n0 n1) ∧ Below w.heap.size w wr ∧ x1 ≤ A ∧ Inv A B x1 x2 s0 s1 n0 n1 ev ∧ Seen A B f0 f1 s0 s1 ev)
  case atStart => exact ⟨A, B, 0, 0, 1, 0, 0, 1, false, rfl, rfl, rfl, k0, k1, k2, kb, Nat.le_refl _, Inv.start hB, .inl rfl⟩
  case round =>
    clear k0 k1 k2 kb
    obtain ⟨x1, x2, f0, f1, s0, s1, n0, n1, ev, rfl, rfl, rfl, k0, k1, k2, kb, hx1, hI, hS⟩ := hrel
    have c20 := k2.cell 0 rfl
    have c21 := k2.cell 1 rfl
    have c10 := k1.cell 0 rfl
    have c11 := k1.cell 1 rfl
    have c12 := k1.cell 2 rfl
    have c13 := k1.cell 3 rfl
    have c14 := k1.cell 4 rfl
    have c00 := k0.cell 0 rfl
    have c01 := k0.cell 1 rfl
    have c02 := k0.cell 2 rfl
    have c03 := k0.cell 3 rfl
    have c04 := k0.cell 4 rfl
    have z0 := k0.frozen 0
    have z1 := k0.frozen 1
    have z2 := k0.frozen 2
    have z3 := k0.frozen 3
    have z4 := k0.frozen 4
    have fin := gives_steps k0 kb hS
    by_cases h1 : n1 ≤ x2
    · have hsm := hI.small hA h1
      have hvv := hI.vv
      have hle := hI.le
      by_cases h2 : s1 + n1 ≤ x1 - x2
      · have hpos := hI.pos
        have hnn := hI.uv
        obtain ⟨q, hq⟩ : ∃ q, x1 / x2 = q := ⟨_, rfl⟩
        obtain ⟨r, hr⟩ : ∃ r, x1 % x2 = r := ⟨_, rfl⟩
        have hqr : x1 = x2 * q + r := by rw [← hq, ← hr]; exact (Nat.div_add_mod _ _).symm
        have hrl : r < x2 := by rw [← hr]; exact Nat.mod_lt _ (by omega)
        have hN := hI.next hqr hrl
        have hgr := hN.great (by omega)
        have huv := hN.uv
        have hS2 : Seen A B s0 s1 n0 n1 (!ev) := .inr ⟨x1, x2, by simpa using hI, h1, h2⟩
        have hquo := u64_quo x1 x2 (by omega)
        have hrem := tmod_nat x1 x2
        rw [hq] at hquo
        rw [hr] at hrem
        obtain ⟨m0, hm0⟩ : ∃ m, s0 + q * n0 = m := ⟨_, rfl⟩
        obtain ⟨m1, hm1⟩ : ∃ m, s1 + q * n1 = m := ⟨_, rfl⟩
        rw [hm0, hm1] at hN huv
        rw [hm1] at hgr
        have e0 : (s0 : Int) + (q : Int) * (n0 : Int) = (m0 : Int) := by rw [← hm0, Int.natCast_add, Int.natCast_mul]
        have e1 : (s1 : Int) + (q : Int) * (n1 : Int) = (m1 : Int) := by rw [← hm1, Int.natCast_add, Int.natCast_mul]
        have p0 : 0 ≤ (q : Int) * (n0 : Int) := by rw [← Int.natCast_mul]; omega
        have p1 : 0 ≤ (q : Int) * (n1 : Int) := by rw [← Int.natCast_mul]; omega
        have hx0 : ¬ x2 = 0 := by omega
        have hm1A : m1 < 18446744073709551616 := by omega
        have hm0A : m0 < 18446744073709551616 := by omega
        have hxx : x1 < 18446744073709551616 := by omega
        have HI := Lib.hid hI
        have HS := Lib.hid hS2
        have HN := Lib.hid hN
        clear hI hS hN hS2 hm0 hm1 hq hr fin hgr huv hqr
        have h2i : (s1 : Int) + (n1 : Int) ≤ (x1 : Int) - (x2 : Int) := by omega
        have y0 := k2.frozen 0
        have y1 := k2.frozen 1
        have v0 := k1.frozen 0
        have v1 := k1.frozen 1
        have v2 := k1.frozen 2
        have v3 := k1.frozen 3
        have v4 := k1.frozen 4
        clear c00 c01 c02 c03 c04 z0 z1 z2 z3 z4
        go_wp2_with fail
        go_quiet (fail)
        have kk := Blk.at_new (wr.drewN nq) 223 (pair 0 0) (g := wr.heap.size) rfl
        have g0 : ((wr.drewN nq).alloc (Obj.cells #[Value.int IntKind.u64 0, Value.int IntKind.u64 0] 223)).cell? ⟨wr.heap.size, 0, none⟩ = some (.int .u64 0) := kk.cell 0 rfl
        have g1 : ((wr.drewN nq).alloc (Obj.cells #[Value.int IntKind.u64 0, Value.int IntKind.u64 0] 223)).cell? ⟨wr.heap.size, 1, none⟩ = some (.int .u64 0) := kk.cell 1 rfl
        have g2 : ((wr.drewN nq).alloc (Obj.cells #[Value.int IntKind.u64 0, Value.int IntKind.u64 0] 223)).frozen? ⟨wr.heap.size, 0, none⟩ = false := kk.frozen 0
        have g3 : ((wr.drewN nq).alloc (Obj.cells #[Value.int IntKind.u64 0, Value.int IntKind.u64 0] 223)).frozen? ⟨wr.heap.size, 1, none⟩ = false := kk.frozen 1
        have i0 := (k0.drewN nq).alloc (.cells (pair 0 0).toArray 223)
        have i1 := (k1.drewN nq).alloc (.cells (pair 0 0).toArray 223)
        have i2 := (k2.drewN nq).alloc (.cells (pair 0 0).toArray 223)
        have ib := (below_drewN kb nq).alloc kb.size (.cells (pair 0 0).toArray 223)
        have hlt2 := k2.lt
        clear y0 y1 v0 v1 v2 v3 v4
        go_upto_region 7 with fail
        obtain ⟨V, hV0, j3, jb, jo, js⟩ := kk.two (.int .u64 m0) (.int .u64 m1)
        have hV : (((wr.drewN nq).alloc (Obj.cells #[Value.int IntKind.u64 0, Value.int IntKind.u64 0] 223)).setCell ⟨wr.heap.size, 0, none⟩ (.int .u64 (m0 : Int))).setCell ⟨wr.heap.size, 1, none⟩ (.int .u64 (m1 : Int)) = V := hV0
        have j0 := jo _ _ _ (by omega) i0
        have j1 := jo _ _ _ (by omega) i1
        have j2 := jo _ _ _ (by omega) i2
        have jb2 := ib.trans (jb _ kb.size)
        rw [hV]
        clear hV hV0 jb jo js kk i0 i1 i2 ib g0 g1 g2 g3 k0 k1 k2 c10 c11 c12 c13 c14 c20 c21 e0 e1 p0 p1 hquo hrem
        have c10 := j1.cell 0 rfl
        have c11 := j1.cell 1 rfl
        have c12 := j1.cell 2 rfl
        have c13 := j1.cell 3 rfl
        have c14 := j1.cell 4 rfl
        have c20 := j2.cell 0 rfl
        have c21 := j2.cell 1 rfl
        have v0 := j1.frozen 0
        have v1 := j1.frozen 1
        have v2 := j1.frozen 2
        have v3 := j1.frozen 3
        have v4 := j1.frozen 4
        go_upto_region 8 with fail
        obtain ⟨U, hU, l1, lb, lo, ls⟩ := j1.five (.int .u64 s0) (.int .u64 s1) (.int .u64 n0) (.int .u64 n1) (.bool (!ev))
        have l0 := lo _ _ _ (by omega) j0
        have l2 := lo _ _ _ (by omega) j2
        have l3 := lo _ _ _ (by omega) j3
        have lb2 := jb2.trans (lb _ (by omega))
        rw [hU]
        clear hU lb lo ls j0 j1 j2 j3 jb2 c10 c11 c12 c13 c14 c20 c21 v0 v1 v2 v3 v4
        have c20 := l2.cell 0 rfl
        have c21 := l2.cell 1 rfl
        have y0 := l2.frozen 0
        have y1 := l2.frozen 1
        have c30 := l3.cell 0 rfl
        have c31 := l3.cell 1 rfl
        go_wp2_with fail
        obtain ⟨T, hT, q2, qb, qo, qs⟩ := l2.two (.int .u64 m0) (.int .u64 m1)
        have q0 := qo _ _ _ (by omega) l0
        have q1 := qo _ _ _ (by omega) l1
        try rw [hT]
        go_roundg r
        case measure => exact hrl
        case rel => exact ⟨x2, r, s0, s1, n0, n1, m0, m1, !ev, rfl, rfl, rfl, q0, q1, q2, lb2.trans (qb _ (by omega)), by omega, HN.out, HS.out⟩
      · have h2i : ¬ ((s1 : Int) + (n1 : Int) ≤ (x1 : Int) - (x2 : Int)) := by omega
        go_wp2_with fail
        obtain ⟨W, hW, r0, r1, r2, r3, r4, hG⟩ := fin
        rw [hW]
        exact bodyPost_ret (v := .agg #[.int .u64 f0, .int .u64 f1, .int .u64 s0, .int .u64 s1, .bool ev]) (by simp [results, Tryz.results257, go_sem, r0, r1, r2, r3, r4]) rfl hG
    · have h1i : ¬ ((n1 : Int) ≤ (x2 : Int)) := by omega
      go_wp2_with fail
      obtain ⟨W, hW, r0, r1, r2, r3, r4, hG⟩ := fin
      rw [hW]
      exact bodyPost_ret (v := .agg #[.int .u64 f0, .int .u64 f1, .int .u64 s0, .int .u64 s1, .bool ev]) (by simp [results, Tryz.results257, go_sem, r0, r1, r2, r3, r4]) rfl hG
end Go.Proofs.YtdmoibphidipeaaGreatDoor
/- What the program's own take answers: what the foreseen divisions leave. -/

namespace Go.Proofs.YtdmoibphidipeaaGreatDoor
open Go.RowKit Num

/-- two numbers -/
def GivesTwo (N M : Nat) (w : World) (e : Ending) (w' : World) : Prop :=
  ∃ A x c A' y c', e = .returned (.tuple #[.slice A x.length c, .slice A' y.length c']) ∧ x.length ≤ c ∧ y.length ≤ c' ∧ Norm 4294967296 x ∧ Norm 4294967296 y ∧ val 4294967296 x = N ∧ val 4294967296 y = M ∧
    Rd w' (fun g => g < w'.heap.size) .u32 A x ∧ Rd w' (fun g => g < w'.heap.size) .u32 A' y ∧ Below w.heap.size w w'

theorem below_next {B : Nat} {W V w' : World} (K : Below B W V) (hB : B ≤ W.heap.size) (b : Below V.heap.size V w') : Below B W w' := K.trans (b.mono (Nat.le_trans hB K.size))
theorem cells4u {W V : World} {g : Nat} {t : TypeId} {a0 a1 a2 a3 a4 : Value} (k : Blk W g t [a0, a1, a2, a3, a4]) (hb : Below W.heap.size W V) :
    V.cell? ⟨g, 0, none⟩ = some a0 ∧ V.cell? ⟨g, 1, none⟩ = some a1 ∧ V.cell? ⟨g, 2, none⟩ = some a2 ∧ V.cell? ⟨g, 3, none⟩ = some a3 := by
  have k' := k.below hb k.lt
  exact ⟨k'.cell 0 rfl, k'.cell 1 rfl, k'.cell 2 rfl, k'.cell 3 rfl⟩

set_option maxHeartbeats 1600000 in
theorem root_take (a b : List Nat) (A A' : Option Addr) (ca cb f0 f1 s0 s1 X1 X2 : Nat) (ev : Bool) (w : World) (h : Rd w (fun g => g < w.heap.size) .u32 A a) (h' : Rd w (fun g => g < w.heap.size) .u32 A' b) (hl : a.length ≤ 1073741824) (hl' : b.length ≤ 1073741824) (ha : Dg 4294967296 a) (hb : Dg 4294967296 b)
    (hf0 : f0 < 4294967296) (hf1 : f1 < 4294967296) (hs0 : s0 < 4294967296) (hs1 : s1 < 4294967296)
    (hX : if ev then X1 + val 4294967296 b * f1 = val 4294967296 a * f0 ∧ X2 + val 4294967296 a * s0 = val 4294967296 b * s1 else X1 + val 4294967296 a * f0 = val 4294967296 b * f1 ∧ X2 + val 4294967296 b * s1 = val 4294967296 a * s0)
    (h1 : X1 < 4294967296 ^ (min a.length b.length)) (h2 : X2 < 4294967296 ^ (min a.length b.length)) :
    Calls Tryz.prog 259 #[.agg #[.int .u64 f0, .int .u64 f1, .int .u64 s0, .int .u64 s1, .bool ev], .slice A a.length ca, .slice A' b.length cb] w (GivesTwo X1 X2 w) := by
  have B0 := below_one w (.cells (lie f0 f1 s0 s1 ev).toArray 225)
  have k0 := Blk.new w 225 (lie f0 f1 s0 s1 ev)
  cases ev with
  | true =>
    obtain ⟨hX1, hX2⟩ := hX
    have c1 := fun (V : World) (hV : Below w.heap.size w V) => root_less a b A A' ca cb f0 f1 X1 V (h.on hV) (h'.on hV) hl ha hb hf0 hf1 hX1 h1
    have c2 := fun (V : World) (hV : Below w.heap.size w V) => root_less b a A' A cb ca s1 s0 X2 V (h'.on hV) (h.on hV) hl' hb ha hs1 hs0 hX2 (by rw [Nat.min_comm]; exact h2)
    have C1 := Lib.hid c1
    have C2 := Lib.hid c2
    clear c1 c2 hX1 hX2 h1 h2
    obtain ⟨W, hW⟩ : ∃ W, w.alloc (.cells (lie f0 f1 s0 s1 true).toArray 225) = W := ⟨_, rfl⟩
    have hW' : w.alloc (Obj.cells #[Value.int IntKind.u64 f0, Value.int IntKind.u64 f1, Value.int IntKind.u64 s0, Value.int IntKind.u64 s1, Value.bool true] 225) = W := hW
    rw [hW] at B0 k0
    have z0 := k0.cell 0 rfl
    have z1 := k0.cell 1 rfl
    have z2 := k0.cell 2 rfl
    have z3 := k0.cell 3 rfl
    have z4 := k0.cell 4 rfl
    have K0 : Below W.heap.size W W.drew := below_drewN (Below.refl _ _) 1
    have HB := Lib.hid (fun (V : World) (hV : Below W.heap.size W V) => (B0.trans (hV.mono B0.size) : Below w.heap.size w V))
    have hlt := k0.lt
    have e4 : (w.alloc (Obj.cells #[Value.int IntKind.u64 f0, Value.int IntKind.u64 f1, Value.int IntKind.u64 s0, Value.int IntKind.u64 s1, Value.bool true] 225)).cell? ⟨w.heap.size, 4, none⟩ = some (.bool true) := by rw [hW']; exact z4
    go_enter Tryz.func259, Tryz.ntmps259
    go_wp2_with fail
    try rw [hW']
    clear hW hW' e4
    go_region_held3 (fun w' => w'.cell? ⟨w.heap.size, 0, none⟩ = some (.int .u64 (f0 : Int)) ∧ w'.cell? ⟨w.heap.size, 1, none⟩ = some (.int .u64 (f1 : Int)) ∧ w'.cell? ⟨w.heap.size, 2, none⟩ = some (.int .u64 (s0 : Int)) ∧ w'.cell? ⟨w.heap.size, 3, none⟩ = some (.int .u64 (s1 : Int)))
      (first | exact cells4u k0 (below_drewN (Below.refl _ _) 1) | exact cells4u k0 K1 | exact cells4u k0 K2 | go_keep)
      ((first
        | (go_at_call 266; (with_reducible refine Calls.mono (C1.out _ (HB.out _ K0)) ?_); rintro e w1 ⟨A1, xs, d1, rfl, hd1, -, hn1, hv1, hr1, b1⟩; have K1 := below_next K0 (Nat.le_refl _) b1)
        | (go_at_call 266; (with_reducible refine Calls.mono (C2.out _ (HB.out _ K1)) ?_); rintro e w2 ⟨A2, ys, d2, rfl, hd2, -, hn2, hv2, hr2, b2⟩; have K2 := below_next K1 (Nat.le_refl _) b2)))
    have HN1 := Lib.hid hn1
    have HN2 := Lib.hid hn2
    have HV1 := Lib.hid hv1
    have HV2 := Lib.hid hv2
    clear hn1 hn2 hv1 hv2 C1 C2
    go_wp2_with fail
    go_ret2
    exact ⟨A1, xs, d1, A2, ys, d2, rfl, hd1, hd2, HN1.out, HN2.out, HV1.out, HV2.out, hr1.on b2, hr2, HB.out _ K2⟩
  | false =>
    obtain ⟨hX1, hX2⟩ := hX
    have c1 := fun (V : World) (hV : Below w.heap.size w V) => root_less b a A' A cb ca f1 f0 X1 V (h'.on hV) (h.on hV) hl' hb ha hf1 hf0 hX1 (by rw [Nat.min_comm]; exact h1)
    have c2 := fun (V : World) (hV : Below w.heap.size w V) => root_less a b A A' ca cb s0 s1 X2 V (h.on hV) (h'.on hV) hl ha hb hs0 hs1 hX2 h2
    have C1 := Lib.hid c1
    have C2 := Lib.hid c2
    clear c1 c2 hX1 hX2 h1 h2
    obtain ⟨W, hW⟩ : ∃ W, w.alloc (.cells (lie f0 f1 s0 s1 false).toArray 225) = W := ⟨_, rfl⟩
    have hW' : w.alloc (Obj.cells #[Value.int IntKind.u64 f0, Value.int IntKind.u64 f1, Value.int IntKind.u64 s0, Value.int IntKind.u64 s1, Value.bool false] 225) = W := hW
    rw [hW] at B0 k0
    have z0 := k0.cell 0 rfl
    have z1 := k0.cell 1 rfl
    have z2 := k0.cell 2 rfl
    have z3 := k0.cell 3 rfl
    have z4 := k0.cell 4 rfl
    have K0 : Below W.heap.size W W.drew := below_drewN (Below.refl _ _) 1
    have HB := Lib.hid (fun (V : World) (hV : Below W.heap.size W V) => (B0.trans (hV.mono B0.size) : Below w.heap.size w V))
    have hlt := k0.lt
    have e4 : (w.alloc (Obj.cells #[Value.int IntKind.u64 f0, Value.int IntKind.u64 f1, Value.int IntKind.u64 s0, Value.int IntKind.u64 s1, Value.bool false] 225)).cell? ⟨w.heap.size, 4, none⟩ = some (.bool false) := by rw [hW']; exact z4
    go_enter Tryz.func259, Tryz.ntmps259
    go_wp2_with fail
    try rw [hW']
    clear hW hW' e4
    go_region_held3 (fun w' => w'.cell? ⟨w.heap.size, 0, none⟩ = some (.int .u64 (f0 : Int)) ∧ w'.cell? ⟨w.heap.size, 1, none⟩ = some (.int .u64 (f1 : Int)) ∧ w'.cell? ⟨w.heap.size, 2, none⟩ = some (.int .u64 (s0 : Int)) ∧ w'.cell? ⟨w.heap.size, 3, none⟩ = some (.int .u64 (s1 : Int)))
      (first | exact cells4u k0 (below_drewN (Below.refl _ _) 1) | exact cells4u k0 K1 | exact cells4u k0 K2 | go_keep)
      ((first
        | (go_at_call 266; (with_reducible refine Calls.mono (C1.out _ (HB.out _ K0)) ?_); rintro e w1 ⟨A1, xs, d1, rfl, hd1, -, hn1, hv1, hr1, b1⟩; have K1 := below_next K0 (Nat.le_refl _) b1)
        | (go_at_call 266; (with_reducible refine Calls.mono (C2.out _ (HB.out _ K1)) ?_); rintro e w2 ⟨A2, ys, d2, rfl, hd2, -, hn2, hv2, hr2, b2⟩; have K2 := below_next K1 (Nat.le_refl _) b2)))
    have HN1 := Lib.hid hn1
    have HN2 := Lib.hid hn2
    have HV1 := Lib.hid hv1
    have HV2 := Lib.hid hv2
    clear hn1 hn2 hv1 hv2 C1 C2
    go_wp2_with fail
    go_ret2
    exact ⟨A1, xs, d1, A2, ys, d2, rfl, hd1, hd2, HN1.out, HN2.out, HV1.out, HV2.out, hr1.on b2, hr2, HB.out _ K2⟩
end Go.Proofs.YtdmoibphidipeaaGreatDoor
/- What the program's own gcdSmall and nearer answer. -/

namespace Go.Proofs.YtdmoibphidipeaaGreatDoor
open Go.RowKit Num

theorem gcd_step (x y : Nat) : Nat.gcd y (x % y) = Nat.gcd x y := by
  rw [Nat.gcd_comm y, ← Nat.gcd_rec, Nat.gcd_comm]
theorem getD_pad {d : List Nat} {n j : Nat} : (d ++ List.replicate n 0).getD j 0 = d.getD j 0 := by
  simp only [List.getD_eq_getElem?_getD]
  by_cases h : j < d.length
  · rw [List.getElem?_append_left h]
  · rw [List.getElem?_append_right (by omega), List.getElem?_eq_none (l := d) (by omega)]
    by_cases h2 : j - d.length < n
    · rw [List.getElem?_eq_getElem (by simpa using h2)]; simp
    · rw [List.getElem?_eq_none (by simp; omega)]
/-- the higher three of n words, without some bits, are the whole number by a power of two -/
theorem head_div {d : List Nat} {n s : Nat} (hd : Dg 4294967296 d) (hl : d.length ≤ n) (h3 : 3 ≤ n) :
    val 4294967296 d / (4294967296 ^ (n - 3) * 2 ^ (32 - s)) = (d.getD (n - 3) 0 + 4294967296 * (d.getD (n - 2) 0 + 4294967296 * d.getD (n - 1) 0)) / 2 ^ (32 - s) := by
  obtain ⟨k, rfl⟩ : ∃ k, n = k + 3 := ⟨n - 3, by omega⟩
  have hlen : (d ++ List.replicate (k + 3 - d.length) 0).length = k + 3 := by simp; omega
  have hv : val 4294967296 (d ++ List.replicate (k + 3 - d.length) 0) = val 4294967296 d := by rw [val_append, val_zeros]; simp
  have h := val_three (b := 4294967296) hlen
  have hdd : Dg 4294967296 (d ++ List.replicate (k + 3 - d.length) 0) := Dg.append.2 ⟨hd, Dg.zeros (by omega)⟩
  have g0 : ∀ j (hj : j < (d ++ List.replicate (k + 3 - d.length) 0).length), (d ++ List.replicate (k + 3 - d.length) 0)[j] = d.getD j 0 := fun j hj => by
    rw [← getD_pad (n := k + 3 - d.length), List.getD_eq_getElem?_getD, List.getElem?_eq_getElem hj, Option.getD_some]
  have hlo := val_lt (hdd.take (n := k))
  rw [List.length_take, Nat.min_eq_left (by omega)] at hlo
  rw [g0, g0, g0, hv] at h
  rw [show k + 3 - 3 = k by omega, show k + 3 - 2 = k + 1 by omega, show k + 3 - 1 = k + 2 by omega, ← Nat.div_div_eq_div_mul, h, Nat.add_mul_div_left _ _ (Nat.pow_pos (by omega)), Nat.div_eq_of_lt hlo, Nat.zero_add]
theorem head_lt {p q r s : Nat} (hq : q < 4294967296) (hr : r < 4294967296) (hs : s < 32) (hp : p * 2 ^ s < 4294967296) : (r + 4294967296 * (q + 4294967296 * p)) / 2 ^ (32 - s) < 18446744073709551616 := by
  have e : (4294967296 : Nat) = 2 ^ (32 - s) * 2 ^ s := by rw [← Nat.pow_add, show 32 - s + s = 32 by omega]
  rw [Nat.div_lt_iff_lt_mul (Nat.pow_pos (by omega))]
  have hpp : p + 1 ≤ 2 ^ (32 - s) := by
    rw [e] at hp
    exact Nat.lt_of_mul_lt_mul_right hp
  have := Nat.mul_le_mul_left 18446744073709551616 hpp
  omega
theorem top_word {a b : List Nat} {x : Nat} (ha : Norm 4294967296 a) (hb : Norm 4294967296 b) (hle : val 4294967296 b ≤ val 4294967296 a) (h3 : 3 ≤ a.length) (hx : a.getD (a.length - 1) 0 = x) : b.getD (a.length - 1) 0 ≤ x := by
  have hl := len_le (b := 4294967296) (by omega) hb.2 ha.1 hle
  by_cases h : b.length < a.length
  · rw [getD_ge (by omega)]; omega
  · rcases Nat.lt_or_ge x (b.getD (a.length - 1) 0) with hlt | hge
    · have h1 : a.length - 1 < a.length := by omega
      have h2 : a.length - 1 < b.length := by omega
      rw [List.getD_eq_getElem?_getD, List.getElem?_eq_getElem h1, Option.getD_some] at hx
      rw [List.getD_eq_getElem?_getD, List.getElem?_eq_getElem h2, Option.getD_some] at hlt
      have := val_lt_of_digit (b := 4294967296) (xs := a) (ys := b) (i := a.length - 1) ha.1 h1 h2 (by rw [List.drop_of_length_le (by omega), List.drop_of_length_le (by omega)]) (by omega)
      omega
    · exact hge

set_option maxHeartbeats 800000 in
/-- the greatest common factor of two numbers of 64 bits -/
theorem root_gcdSmall (a b : List Nat) (A A' : Option Addr) (ca cb : Nat) (w : World) (h : Rd w (fun g => g < w.heap.size) .u32 A a) (h' : Rd w (fun g => g < w.heap.size) .u32 A' b) (hl : a.length ≤ 1073741824) (hl' : b.length ≤ 1073741824) (hc : a.length ≤ ca) (hc' : b.length ≤ cb) (ha : Dg 4294967296 a) (hb : Dg 4294967296 b)
    (h1 : val 4294967296 a < 18446744073709551616) (h2 : val 4294967296 b < 18446744073709551616) :
    Calls Tryz.prog 244 #[.slice A a.length ca, .slice A' b.length cb] w (Gives .u32 4294967296 (Nat.gcd (val 4294967296 a) (val 4294967296 b)) w) := by
  have cu := nat_Uint a A ca _ w h (by omega) hc ha
  have cv := nat_Uint b A' cb _ w h' (by omega) hc' hb
  obtain ⟨N, hN⟩ : ∃ N, val 4294967296 a = N := ⟨_, rfl⟩
  obtain ⟨M, hM⟩ : ∃ N, val 4294967296 b = N := ⟨_, rfl⟩
  rw [hN] at cu h1 ⊢
  rw [hM] at cv h2 ⊢
  clear hN hM
  go_enter Tryz.func244, Tryz.ntmps244
  go_wp2_with fail
  refine cu.mono ?_
  rintro e w1 ⟨rfl, ⟨_, rfl⟩ | ⟨hn, rfl⟩⟩
  · go_wp2_with fail
    refine cv.mono ?_
    rintro e w1 ⟨rfl, ⟨_, rfl⟩ | ⟨hn, rfl⟩⟩
    · go_wp2_with fail
      go_loopg [5, 7] M (fun gh x y wr => ∃ n m k : Nat, m = gh ∧ x = .int .u64 n ∧ y = .int .u64 m ∧ wr = w.drewN k ∧ n < 18446744073709551616 ∧ m < 18446744073709551616 ∧ Nat.gcd n m = Nat.gcd N M)
      case atStart => exact ⟨N, M, 0, rfl, rfl, rfl, rfl, h1, h2, rfl⟩
      case round =>
        obtain ⟨n, m, k, rfl, rfl, rfl, rfl, hn, hm, hg⟩ := hrel
        by_cases h0 : m = 0
        · subst h0
          rw [Nat.gcd_zero_right] at hg
          have co := nat_Of n hn (w.drewN k)
          have HG := Lib.hid hg
          clear hg cu cv
          go_wp2_with fail
          refine co.mono ?_
          rintro e w1 ⟨A1, xs, c1, rfl, hc1, hn1, hv1, hr1, hb1⟩
          go_wp2_with fail
          go_ret
          exact ⟨A1, xs, c1, rfl, hc1, hn1, hv1.trans HG.out, hr1, (below_drewN (Below.refl w.heap.size w) k).trans hb1⟩
        · have hrem := tmod_nat n m
          have hlt : n % m < m := Nat.mod_lt _ (by omega)
          have hs := gcd_step n m
          obtain ⟨r, hr⟩ : ∃ r, n % m = r := ⟨_, rfl⟩
          rw [hr] at hrem hlt hs
          have HG := Lib.hid (hs.trans hg)
          clear hg hs hr cu cv
          go_wp2_with fail
          go_quiet (fail)
          go_wp2_with fail
          go_roundg r
          case measure => exact hlt
          case rel => exact ⟨m, r, k + nq, rfl, rfl, rfl, World.drewN_drewN _ _ _, hm, by omega, HG.out⟩
    · exact absurd h2 hn
  · exact absurd h1 hn

/-- two numbers nearer to a common factor -/
def GivesNearer (N M : Nat) (w : World) (e : Ending) (w' : World) : Prop := ∃ X Y, GivesTwo X Y w e w' ∧ Y ≤ X ∧ X ≤ M ∧ Nat.gcd X Y = Nat.gcd N M ∧ X + Y < N + M

set_option maxHeartbeats 1600000 in
theorem root_nearer (a b : List Nat) (A A' : Option Addr) (ca cb : Nat) (w : World) (h : Rd w (fun g => g < w.heap.size) .u32 A a) (h' : Rd w (fun g => g < w.heap.size) .u32 A' b) (hl : a.length ≤ 1073741824) (hc : a.length ≤ ca) (hc' : b.length ≤ cb) (ha : Norm 4294967296 a) (hb : Norm 4294967296 b)
    (h3 : 3 ≤ a.length) (h0 : 0 < val 4294967296 b) (hle : val 4294967296 b ≤ val 4294967296 a) :
    Calls Tryz.prog 245 #[.slice A a.length ca, .slice A' b.length cb] w (GivesNearer (val 4294967296 a) (val 4294967296 b) w) := by
  have hlb := len_le (b := 4294967296) (by omega) hb.2 ha.1 hle
  obtain ⟨x, hx⟩ : ∃ x, a.getD (a.length - 1) 0 = x := ⟨_, rfl⟩
  have hbx := top_word ha hb hle h3 hx
  have hx0 : 0 < x := by
    have h1 : a.length - 1 < a.length := by omega
    have ht := ha.2
    unfold Top at ht
    rw [List.getLast?_eq_getElem?, List.getElem?_eq_getElem h1] at ht
    rw [List.getD_eq_getElem?_getD, List.getElem?_eq_getElem h1, Option.getD_some] at hx
    rcases Nat.eq_zero_or_pos x with h | h
    · subst h; rw [hx] at ht; exact absurd rfl ht
    · exact h
  have hx32 : x < 4294967296 := by rw [← hx]; exact ha.1.getD (by omega) _
  obtain ⟨s, hs, hls, hxs⟩ := lead_zeros hx0 hx32
  have hxs' : x * 2 ^ s < 4294967296 := by
    have : x * 2 ^ s < (x + 1) * 2 ^ s := Nat.mul_lt_mul_of_pos_right (by omega) (Nat.pow_pos (by omega))
    omega
  have cz := Tryz.bits_LeadingZeros32 (x : Int) w (by omega) (by omega)
  rw [Int.toNat_natCast, hls] at cz
  have cA := fun (V : World) (hV : Below w.heap.size w V) => root_head a A ca a.length s _ V (h.on hV) (by omega) h3 hs ha.1 (by rw [hx]; exact hxs')
  have cB := fun (V : World) (hV : Below w.heap.size w V) => root_head b A' cb a.length s _ V (h'.on hV) (by omega) h3 hs hb.1 (Nat.lt_of_le_of_lt (Nat.mul_le_mul_right _ hbx) hxs')
  have dA := head_div (s := s) ha.1 (Nat.le_refl _) h3
  have dB := head_div (s := s) hb.1 hlb h3
  have hAlt := head_lt (p := a.getD (a.length - 1) 0) (ha.1.getD (by omega) (a.length - 2)) (ha.1.getD (by omega) (a.length - 3)) hs (by rw [hx]; exact hxs')
  have hK : 0 < 4294967296 ^ (a.length - 3) * 2 ^ (32 - s) := Nat.mul_pos (Nat.pow_pos (by omega)) (Nat.pow_pos (by omega))
  obtain ⟨K, hKK⟩ : ∃ K, 4294967296 ^ (a.length - 3) * 2 ^ (32 - s) = K := ⟨_, rfl⟩
  rw [hKK] at dA dB hK
  simp only [← dA] at cA
  simp only [← dB] at cB
  rw [← dA] at hAlt
  have hBA : val 4294967296 b / K ≤ val 4294967296 a / K := Nat.div_le_div_right hle
  obtain ⟨P, hP⟩ : ∃ P, val 4294967296 a / K = P := ⟨_, rfl⟩
  obtain ⟨Q, hQ⟩ : ∃ P, val 4294967296 b / K = P := ⟨_, rfl⟩
  simp only [hP] at cA
  simp only [hQ] at cB
  rw [hP] at hAlt hBA
  rw [hQ] at hBA
  obtain ⟨ba, oa, rfl, _, hcell⟩ := h.at_ (j := a.length - 1) (by omega)
  have hxx : a[a.length - 1]'(by omega) = x := by
    rw [List.getD_eq_getElem?_getD, List.getElem?_eq_getElem (by omega), Option.getD_some] at hx; exact hx
  rw [hxx] at hcell
  clear hxx hx dA dB hKK hxs hxs' hbx hls
  have HP := Lib.hid hP
  have HQ := Lib.hid hQ
  have HK := Lib.hid hK
  clear hP hQ hK
  go_enter Tryz.func245, Tryz.ntmps245
  go_wp2_with fail
  refine cz.mono ?_
  rintro e w1 ⟨rfl, rfl⟩
  clear cz hcell
  go_wp2_with fail
  refine (cA _ (Below.refl _ _)).mono ?_
  rintro e w2 ⟨rfl, k, rfl⟩
  go_wp2_with fail
  refine (cB _ (below_drewN (Below.refl _ _) k)).mono ?_
  rintro e w2 ⟨rfl, k2, rfl⟩
  obtain ⟨w2, hw2, b2⟩ : ∃ W, (w1.drewN k).drewN k2 = W ∧ Below w1.heap.size w1 W := ⟨_, rfl, below_drewN (below_drewN (Below.refl _ _) k) k2⟩
  rw [hw2]
  clear hw2 cA cB
  go_wp2_with fail
  refine (root_foresee P Q hAlt hBA w2).mono ?_
  rintro e w3 ⟨f0, f1, s0, s1, ev, rfl, hS, b3⟩
  have B3 := b2.trans (b3.mono b2.size)
  have k0 := Blk.new w3 225 (lie f0 f1 s0 s1 ev)
  have BN := below_one w3 (.cells (lie f0 f1 s0 s1 ev).toArray 225)
  have B4 := B3.trans (BN.mono B3.size)
  have z0 := k0.cell 0 rfl
  have z1 := k0.cell 1 rfl
  have z2 := k0.cell 2 rfl
  have z3 := k0.cell 3 rfl
  have z4 := k0.cell 4 rfl
  by_cases hf : f1 = 0
  · subst hf
    go_wp2_with fail
    have cD := nat_Div a b _ A' ca cb _ _ _ (h.on B4) (h'.on B4) (fun g hg => hg) (fun g hg => hg) (by omega) (by omega) hc hc' ha.1 hb.1
    refine Calls.mono cD ?_
    rintro e w5 ⟨A5, q, c5, A6, r, c6, rfl, -, hc6, -, hn6, -, hv6, -, hr6, b6⟩
    rw [if_neg (by omega)] at hv6
    have B6 := B4.trans (b6.mono B4.size)
    have HV := Lib.hid hv6
    have HN := Lib.hid hn6
    clear hv6 hn6 cD z0 z1 z2 z3 z4 k0
    go_wp2_with fail
    go_ret2
    have hlt := Nat.mod_lt (val 4294967296 a) h0
    exact ⟨_, _, ⟨A', b, cb, A6, r, c6, rfl, hc', hc6, hb, HN.out, rfl, HV.out, h'.on B6, hr6, B6⟩, by omega, Nat.le_refl _, gcd_step _ _, by omega⟩
  · rcases hS with hS | ⟨x1, x2, hI, hx2, hx1⟩
    · exact absurd hS hf
    · obtain ⟨X1, X2, hXX, eA, eB, hE, hO⟩ := hI.whole hx2 hx1 HK.out HP.out HQ.out
      have hsm := hI.small hAlt hx2
      have i1 := hI.uv
      have i2 := hI.vv
      have i3 := hI.u1v
      have i4 := hI.pos
      have i5 := hI.nz (by omega)
      have hXb : X1 ≤ val 4294967296 b := by
        have := Nat.le_mul_of_pos_left X1 (show 0 < s0 from i5)
        omega
      have hXa : X1 + X2 ≤ val 4294967296 a := by
        have := Nat.le_mul_of_pos_left X1 (show 0 < s1 from i4)
        have := Nat.le_mul_of_pos_left X2 (show 0 < f1 by omega)
        omega
      have hpow : val 4294967296 b < 4294967296 ^ (min a.length b.length) := by
        rw [Nat.min_eq_right hlb]; exact val_lt hb.1
      have hX : if ev then X1 + val 4294967296 b * f1 = val 4294967296 a * f0 ∧ X2 + val 4294967296 a * s0 = val 4294967296 b * s1 else X1 + val 4294967296 a * f0 = val 4294967296 b * f1 ∧ X2 + val 4294967296 b * s1 = val 4294967296 a * s0 := by
        cases ev with
        | true => have := hE rfl; simp only [if_true]; rw [Nat.mul_comm _ f1, Nat.mul_comm _ f0, Nat.mul_comm _ s0, Nat.mul_comm _ s1]; exact this
        | false => have := hO rfl; simp only [Bool.false_eq_true, if_false]; rw [Nat.mul_comm _ f1, Nat.mul_comm _ f0, Nat.mul_comm _ s0, Nat.mul_comm _ s1]; exact this
      have hg : Nat.gcd X1 X2 = Nat.gcd (val 4294967296 a) (val 4294967296 b) := by
        refine gcd_of_both (q' := f1) (p' := f0) (s' := s0) (r' := s1) eA eB ?_ ?_
        · cases ev with
          | true => exact .inl (hE rfl).1
          | false => exact .inr (hO rfl).1
        · cases ev with
          | true => exact .inl (hE rfl).2
          | false => exact .inr (hO rfl).2
      have cT := root_take a b _ A' ca cb f0 f1 s0 s1 X1 X2 ev _ (h.on B4) (h'.on B4) hl (by omega) ha.1 hb.1 (by omega) (by omega) (by omega) hsm hX (by omega) (by omega)
      have HG := Lib.hid hg
      clear hE hO hX eA eB hI hg hpow
      have hfi : ((f1 : Int) == 0) = false := by simp; omega
      go_wp2_with fail
      refine cT.mono ?_
      rintro e w5 ⟨A5, p, c5, A6, q, c6, rfl, hc5, hc6, hn5, hn6, hv5, hv6, hr5, hr6, b6⟩
      have B6 := B4.trans (b6.mono B4.size)
      have HV := Lib.hid hv5
      have HW := Lib.hid hv6
      clear hv5 hv6 cT z0 z1 z2 z3 z4 k0
      go_wp2_with fail
      go_ret2
      exact ⟨X1, X2, ⟨A5, p, c5, A6, q, c6, rfl, hc5, hc6, hn5, hn6, HV.out, HW.out, hr5, hr6, B6⟩, hXX, hXb, HG.out, by omega⟩
end Go.Proofs.YtdmoibphidipeaaGreatDoor
/- What the program's own Gcd, Lcm and Reduce answer. -/

namespace Go.Proofs.YtdmoibphidipeaaGreatDoor
open Go.RowKit Num

set_option maxHeartbeats 1600000 in
/-- the greatest common factor -/
theorem root_Gcd (a b : List Nat) (A A' : Option Addr) (ca cb : Nat) (w : World) (h : Rd w (fun g => g < w.heap.size) .u32 A a) (h' : Rd w (fun g => g < w.heap.size) .u32 A' b) (hl : a.length ≤ 1073741824) (hl' : b.length ≤ 1073741824) (hc : a.length ≤ ca) (hc' : b.length ≤ cb) (ha : Dg 4294967296 a) (hb : Dg 4294967296 b) :
    Calls Tryz.prog 221 #[.slice A a.length ca, .slice A' b.length cb] w (Gives .u32 4294967296 (Nat.gcd (val 4294967296 a) (val 4294967296 b)) w) := by
  have cC := nat_Cmp a b A A' ca cb _ _ w h h' hl hl' hc hc' ha hb
  go_enter Tryz.func221, Tryz.ntmps221
  go_wp2_with fail
  go_step3
  go_wp2_with fail
  refine cC.mono ?_
  rintro e w1 ⟨rfl, k, rfl⟩
  have BK : Below w.heap.size w (w.drewN k) := below_drewN (Below.refl _ _) k
  by_cases hlt : val 4294967296 a < val 4294967296 b
  · rw [cmpI_lt hlt]
    have cc := root_cut b A' cb _ _ (h'.on BK) hl' hc' hb
    go_wp2_with fail
    refine cc.mono ?_
    rintro e w2 ⟨p, P1, d1, rfl, hd1, hl1, hn1, hv1, hr1, rfl⟩
    have cc2 := root_cut a A ca _ _ (h.on BK) hl hc ha
    go_wp2_with fail
    refine cc2.mono ?_
    rintro e w2 ⟨q, P2, d2, rfl, hd2, hl2, hn2, hv2, hr2, rfl⟩
    go_wp2_with fail
    go_step3
    have hle : val 4294967296 q ≤ val 4294967296 p := by rw [hv1, hv2]; omega
    have hG : Nat.gcd (val 4294967296 p) (val 4294967296 q) = Nat.gcd (val 4294967296 a) (val 4294967296 b) := by rw [hv1, hv2]; exact Nat.gcd_comm _ _
    have hpl : p.length ≤ 1073741824 := by omega
    have hql : q.length ≤ 1073741824 := by omega
    obtain ⟨G, hGG⟩ : ∃ G, Nat.gcd (val 4294967296 a) (val 4294967296 b) = G := ⟨_, rfl⟩
    obtain ⟨wk, hwk⟩ : ∃ W, w.drewN k = W := ⟨_, rfl⟩
    rw [hGG] at hG
    have HGG := Lib.hid hGG
    rw [hwk] at hr1 hr2 BK ⊢
    clear hGG hwk cC cc cc2 hv1 hv2 hlt ha hb hl hl' hc hc' h h' hl1 hl2
    go_wp2_with fail
    go_loopg [5, 6] (val 4294967296 p + val 4294967296 q) (fun gh vx vy wr => ∃ (X Y : Option Addr) (x y : List Nat) (dx dy : Nat), val 4294967296 x + val 4294967296 y = gh ∧ vx = .slice X x.length dx ∧ vy = .slice Y y.length dy ∧ x.length ≤ dx ∧ y.length ≤ dy ∧ x.length ≤ 1073741824 ∧ y.length ≤ 1073741824 ∧ Norm 4294967296 x ∧ Norm 4294967296 y ∧ val 4294967296 y ≤ val 4294967296 x ∧
      Nat.gcd (val 4294967296 x) (val 4294967296 y) = G ∧ Rd wr (fun g => g < wr.heap.size) .u32 X x ∧ Rd wr (fun g => g < wr.heap.size) .u32 Y y ∧ Below w.heap.size w wr)
    case atStart => exact ⟨P1, P2, p, q, d1, d2, rfl, rfl, rfl, hd1, hd2, hpl, hql, hn1, hn2, hle, hG, hr1, hr2, BK⟩
    case round =>
      clear hle hG hpl hql hn1 hn2 hr1 hr2 BK hd1 hd2
      obtain ⟨X, Y, x, y, dx, dy, hgh, rfl, rfl, hdx, hdy, hxl, hyl, hxn, hyn, hle, hG, hrx, hry, hB⟩ := hrel
      have HG := Lib.hid hG
      have HH := Lib.hid hgh
      clear hG hgh
      have hs := hB.size
      by_cases h0 : y.length = 0
      · obtain rfl : y = [] := List.eq_nil_of_length_eq_zero h0
        have cT := nat_Trim_g x X dx _ wr hrx (fun g hg => hg) (by omega) hdx hxn.1
        go_wp2_with fail
        refine cT.mono ?_
        rintro e w2 ⟨A1, xs, c1, rfl, hc1, hn1, hv1, hr1, hb1⟩
        have HV := Lib.hid hv1
        clear hv1 cT
        go_wp2_with fail
        rw [Exit.noGoto_ret]
        go_ret
        refine ⟨A1, xs, c1, rfl, hc1, hn1, ?_, hr1, hB.trans (hb1.mono hs)⟩
        rw [HV.out, HGG.out, ← HG.out]
        simp [val]
      · have hypos : 0 < val 4294967296 y := by
          rcases Nat.eq_zero_or_pos (val 4294967296 y) with h | h
          · have := (hyn.2.nil_iff (b := 4294967296) (by omega)).2 h
            subst this; simp at h0
          · exact h
        by_cases h2 : x.length ≤ 2
        · have hx64 : val 4294967296 x < 18446744073709551616 := val_lt_pow (n := 2) hxn.1 (by omega) h2
          have cS := root_gcdSmall x y X Y dx dy wr hrx hry hxl hyl hdx hdy hxn.1 hyn.1 hx64 (by omega)
          go_wp2_with fail
          refine cS.mono ?_
          rintro e w2 ⟨A1, xs, c1, rfl, hc1, hn1, hv1, hr1, hb1⟩
          have HV := Lib.hid hv1
          clear hv1 cS
          go_wp2_with fail
          rw [Exit.noGoto_ret]
          go_ret
          refine ⟨A1, xs, c1, rfl, hc1, hn1, ?_, hr1, hB.trans (hb1.mono hs)⟩
          rw [HV.out, HGG.out, ← HG.out]
        · have cN := root_nearer x y X Y dx dy wr hrx hry hxl hdx hdy hxn hyn (by omega) hypos hle
          go_wp2_with fail
          refine cN.mono ?_
          rintro e w2 ⟨N, M, ⟨A1, xs, c1, A2, ys, c2, rfl, hc1, hc2, hn1, hn2, hv1, hv2, hr1, hr2, hb1⟩, hMN, hNy, hg, hlt⟩
          have l1 := len_le (b := 4294967296) (xs := xs) (a := y) (by omega) hn1.2 hyn.1 (by rw [hv1]; exact hNy)
          have l2 := len_le (b := 4294967296) (xs := ys) (a := y) (by omega) hn2.2 hyn.1 (by rw [hv2]; omega)
          have HV := Lib.hid hv1
          have HW := Lib.hid hv2
          have HGN := Lib.hid hg
          clear hv1 hv2 hg cN
          go_wp2_with fail
          go_roundg (N + M)
          case measure => rw [← HH.out]; exact hlt
          case rel => exact ⟨A1, A2, xs, ys, c1, c2, by rw [HV.out, HW.out], rfl, rfl, hc1, hc2, by omega, by omega, hn1, hn2, by rw [HV.out, HW.out]; exact hMN, by rw [HV.out, HW.out, HGN.out, HG.out], hr1, hr2, hB.trans (hb1.mono hs)⟩
  · obtain ⟨z, hz, hz0⟩ : ∃ z : Int, cmpI (val 4294967296 a) (val 4294967296 b) = z ∧ ¬ z < 0 := ⟨_, rfl, fun h => hlt ((cmpI_neg _ _).1 h)⟩
    rw [hz]
    clear hz
    have cc := root_cut a A ca _ _ (h.on BK) hl hc ha
    go_wp2_with fail
    refine cc.mono ?_
    rintro e w2 ⟨p, P1, d1, rfl, hd1, hl1, hn1, hv1, hr1, rfl⟩
    have cc2 := root_cut b A' cb _ _ (h'.on BK) hl' hc' hb
    go_wp2_with fail
    refine cc2.mono ?_
    rintro e w2 ⟨q, P2, d2, rfl, hd2, hl2, hn2, hv2, hr2, rfl⟩
    go_wp2_with fail
    go_step3
    have hle : val 4294967296 q ≤ val 4294967296 p := by rw [hv1, hv2]; omega
    have hG : Nat.gcd (val 4294967296 p) (val 4294967296 q) = Nat.gcd (val 4294967296 a) (val 4294967296 b) := by rw [hv1, hv2]
    have hpl : p.length ≤ 1073741824 := by omega
    have hql : q.length ≤ 1073741824 := by omega
    obtain ⟨G, hGG⟩ : ∃ G, Nat.gcd (val 4294967296 a) (val 4294967296 b) = G := ⟨_, rfl⟩
    obtain ⟨wk, hwk⟩ : ∃ W, w.drewN k = W := ⟨_, rfl⟩
    rw [hGG] at hG
    have HGG := Lib.hid hGG
    rw [hwk] at hr1 hr2 BK ⊢
    clear hGG hwk cC cc cc2 hv1 hv2 hlt ha hb hl hl' hc hc' h h' hl1 hl2
    go_wp2_with fail
    go_loopg [5, 6] (val 4294967296 p + val 4294967296 q) (fun gh vx vy wr => ∃ (X Y : Option Addr) (x y : List Nat) (dx dy : Nat), val 4294967296 x + val 4294967296 y = gh ∧ vx = .slice X x.length dx ∧ vy = .slice Y y.length dy ∧ x.length ≤ dx ∧ y.length ≤ dy ∧ x.length ≤ 1073741824 ∧ y.length ≤ 1073741824 ∧ Norm 4294967296 x ∧ Norm 4294967296 y ∧ val 4294967296 y ≤ val 4294967296 x ∧
      Nat.gcd (val 4294967296 x) (val 4294967296 y) = G ∧ Rd wr (fun g => g < wr.heap.size) .u32 X x ∧ Rd wr (fun g => g < wr.heap.size) .u32 Y y ∧ Below w.heap.size w wr)
    case atStart => exact ⟨P1, P2, p, q, d1, d2, rfl, rfl, rfl, hd1, hd2, hpl, hql, hn1, hn2, hle, hG, hr1, hr2, BK⟩
    case round =>
      clear hle hG hpl hql hn1 hn2 hr1 hr2 BK hd1 hd2
      obtain ⟨X, Y, x, y, dx, dy, hgh, rfl, rfl, hdx, hdy, hxl, hyl, hxn, hyn, hle, hG, hrx, hry, hB⟩ := hrel
      have HG := Lib.hid hG
      have HH := Lib.hid hgh
      clear hG hgh
      have hs := hB.size
      by_cases h0 : y.length = 0
      · obtain rfl : y = [] := List.eq_nil_of_length_eq_zero h0
        have cT := nat_Trim_g x X dx _ wr hrx (fun g hg => hg) (by omega) hdx hxn.1
        go_wp2_with fail
        refine cT.mono ?_
        rintro e w2 ⟨A1, xs, c1, rfl, hc1, hn1, hv1, hr1, hb1⟩
        have HV := Lib.hid hv1
        clear hv1 cT
        go_wp2_with fail
        rw [Exit.noGoto_ret]
        go_ret
        refine ⟨A1, xs, c1, rfl, hc1, hn1, ?_, hr1, hB.trans (hb1.mono hs)⟩
        rw [HV.out, HGG.out, ← HG.out]
        simp [val]
      · have hypos : 0 < val 4294967296 y := by
          rcases Nat.eq_zero_or_pos (val 4294967296 y) with h | h
          · have := (hyn.2.nil_iff (b := 4294967296) (by omega)).2 h
            subst this; simp at h0
          · exact h
        by_cases h2 : x.length ≤ 2
        · have hx64 : val 4294967296 x < 18446744073709551616 := val_lt_pow (n := 2) hxn.1 (by omega) h2
          have cS := root_gcdSmall x y X Y dx dy wr hrx hry hxl hyl hdx hdy hxn.1 hyn.1 hx64 (by omega)
          go_wp2_with fail
          refine cS.mono ?_
          rintro e w2 ⟨A1, xs, c1, rfl, hc1, hn1, hv1, hr1, hb1⟩
          have HV := Lib.hid hv1
          clear hv1 cS
          go_wp2_with fail
          rw [Exit.noGoto_ret]
          go_ret
          refine ⟨A1, xs, c1, rfl, hc1, hn1, ?_, hr1, hB.trans (hb1.mono hs)⟩
          rw [HV.out, HGG.out, ← HG.out]
        · have cN := root_nearer x y X Y dx dy wr hrx hry hxl hdx hdy hxn hyn (by omega) hypos hle
          go_wp2_with fail
          refine cN.mono ?_
          rintro e w2 ⟨N, M, ⟨A1, xs, c1, A2, ys, c2, rfl, hc1, hc2, hn1, hn2, hv1, hv2, hr1, hr2, hb1⟩, hMN, hNy, hg, hlt⟩
          have l1 := len_le (b := 4294967296) (xs := xs) (a := y) (by omega) hn1.2 hyn.1 (by rw [hv1]; exact hNy)
          have l2 := len_le (b := 4294967296) (xs := ys) (a := y) (by omega) hn2.2 hyn.1 (by rw [hv2]; omega)
          have HV := Lib.hid hv1
          have HW := Lib.hid hv2
          have HGN := Lib.hid hg
          clear hv1 hv2 hg cN
          go_wp2_with fail
          go_roundg (N + M)
          case measure => rw [← HH.out]; exact hlt
          case rel => exact ⟨A1, A2, xs, ys, c1, c2, by rw [HV.out, HW.out], rfl, rfl, hc1, hc2, by omega, by omega, hn1, hn2, by rw [HV.out, HW.out]; exact hMN, by rw [HV.out, HW.out, HGN.out, HG.out], hr1, hr2, hB.trans (hb1.mono hs)⟩

theorem gcd_len {xs a b : List Nat} {n : Nat} (hx : Norm 4294967296 xs) (ha : Dg 4294967296 a) (hb : Dg 4294967296 b) (h : val 4294967296 xs = Nat.gcd (val 4294967296 a) (val 4294967296 b)) (h1 : a.length ≤ n) (h2 : b.length ≤ n) : xs.length ≤ n := by
  rcases Nat.eq_zero_or_pos (val 4294967296 a) with h0 | h0
  · rw [h0, Nat.gcd_zero_left] at h
    exact Nat.le_trans (len_le (b := 4294967296) (by omega) hx.2 hb (by omega)) h2
  · have := Nat.gcd_le_left (val 4294967296 b) h0
    exact Nat.le_trans (len_le (b := 4294967296) (by omega) hx.2 ha (by omega)) h1

set_option maxHeartbeats 800000 in
/-- two numbers without their common factors -/
theorem root_Reduce (a b : List Nat) (A A' : Option Addr) (ca cb : Nat) (w : World) (h : Rd w (fun g => g < w.heap.size) .u32 A a) (h' : Rd w (fun g => g < w.heap.size) .u32 A' b) (hl : a.length ≤ 1073741824) (hl' : b.length ≤ 1073741824) (hc : a.length ≤ ca) (hc' : b.length ≤ cb) (ha : Dg 4294967296 a) (hb : Dg 4294967296 b) :
    Calls Tryz.prog 188 #[.slice A a.length ca, .slice A' b.length cb] w (GivesTwo (val 4294967296 a / Nat.gcd (val 4294967296 a) (val 4294967296 b)) (val 4294967296 b / Nat.gcd (val 4294967296 a) (val 4294967296 b)) w) := by
  have cG := root_Gcd a b A A' ca cb w h h' hl hl' hc hc' ha hb
  go_enter Tryz.func188, Tryz.ntmps188
  go_wp2_with fail
  refine cG.mono ?_
  rintro e w1 ⟨A1, g, c1, rfl, hc1, hn1, hv1, hr1, b1⟩
  have hgl := gcd_len hn1 ha hb hv1 hl hl'
  have cD := nat_Div a g A A1 ca c1 _ _ w1 (h.on b1) hr1 (fun g hg => hg) (fun g hg => hg) hl hgl hc hc1 ha hn1.1
  have cE := fun (V : World) (hV : Below w1.heap.size w1 V) => nat_Div b g A' A1 cb c1 _ _ V ((h'.on b1).on hV) (hr1.on hV) (fun g hg => hg) (fun g hg => hg) hl' hgl hc' hc1 hb hn1.1
  rw [hv1] at cD
  simp only [hv1] at cE
  clear cG hv1
  go_wp2_with fail
  refine cD.mono ?_
  rintro e w2 ⟨A2, q, c2, A3, r, c3, rfl, hc2, -, hn2, -, hv2, -, hr2, -, b2⟩
  have B2 := b1.trans (b2.mono b1.size)
  have HV := Lib.hid hv2
  have c5 := cE w2 b2
  clear cD hv2 cE
  go_wp2_with fail
  refine c5.mono ?_
  rintro e w3 ⟨A4, q4, c4, A5, r5, c5, rfl, hc4, -, hn4, -, hv4, -, hr4, -, b4⟩
  have HW := Lib.hid hv4
  clear hv4
  go_wp2_with fail
  go_ret2
  exact ⟨A2, q, c2, A4, q4, c4, rfl, hc2, hc4, hn2, hn4, HV.out, HW.out, hr2.on b4, hr4, B2.trans (b4.mono B2.size)⟩
end Go.Proofs.YtdmoibphidipeaaGreatDoor
/- What the program's own sqrtSmall and SqrtInt answer. -/

namespace Go.Proofs.YtdmoibphidipeaaGreatDoor
open Go.RowKit Num

end Go.Proofs.YtdmoibphidipeaaGreatDoor
/- What the program's own above and Sqrt answer: each calls the other. -/

namespace Go.Proofs.YtdmoibphidipeaaGreatDoor
open Go.RowKit Num

end Go.Proofs.YtdmoibphidipeaaGreatDoor
/- What the program's own Square answers. -/

namespace Go.Proofs.YtdmoibphidipeaaGreatDoor
open Go.RowKit Num

end Go.Proofs.YtdmoibphidipeaaGreatDoor
