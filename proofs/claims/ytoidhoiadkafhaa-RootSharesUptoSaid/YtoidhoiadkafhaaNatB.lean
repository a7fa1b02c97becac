/- What the program's own calls on numbers answer: a word's sum and difference; adding into, taking off; Trim, Add, Sub. -/
import Derived.Test.YtoidhoiadkafhaaNatA
namespace Go.Proofs.Ytoidhoiadkafhaa
open Go.RowKit Num

theorem bit31 (x : Nat) (h : x < 4294967296) : x.testBit 31 = decide (2147483648 ≤ x) := by
  rw [Nat.testBit_eq_decide_div_mod_eq]
  have e : (2 : Nat) ^ 31 = 2147483648 := rfl
  rw [e]
  by_cases h1 : 2147483648 ≤ x
  · rw [decide_eq_true h1, decide_eq_true]; omega
  · rw [decide_eq_false h1, decide_eq_false]; omega
/-- what is borrowed, by bits -/
theorem borrow_bits (x y c d : Nat) (hx : x < 4294967296) (hy : y < 4294967296) (hc : c ≤ 1) (hd : d = (4294967296 + x - y - c) % 4294967296) :
    (((4294967295 ^^^ x) &&& y) ||| ((4294967295 ^^^ (x ^^^ y)) &&& d)) / 2147483648 = 1 - (4294967296 + x - y - c) / 4294967296 := by
  have hd' : d < 4294967296 := by omega
  have hv : (((4294967295 ^^^ x) &&& y) ||| ((4294967295 ^^^ (x ^^^ y)) &&& d)) < 4294967296 := by
    have h1 : ((4294967295 ^^^ x) &&& y) < 2 ^ 32 := Nat.and_lt_two_pow _ (by omega)
    have h2 : ((4294967295 ^^^ (x ^^^ y)) &&& d) < 2 ^ 32 := Nat.and_lt_two_pow _ (by omega)
    have := Nat.or_lt_two_pow h1 h2
    omega
  have hb := bit31 _ hv
  rw [Nat.testBit_or, Nat.testBit_and, Nat.testBit_and, Nat.testBit_xor, Nat.testBit_xor, Nat.testBit_xor, bit31 4294967295 (by omega), bit31 x hx, bit31 y hy, bit31 d hd'] at hb
  generalize (((4294967295 ^^^ x) &&& y) ||| ((4294967295 ^^^ (x ^^^ y)) &&& d)) = v at *
  by_cases h1 : 2147483648 ≤ x <;> by_cases h2 : 2147483648 ≤ y <;> by_cases h3 : 2147483648 ≤ d <;> simp [h1, h2, h3] at hb <;> omega

theorem add32 (x y c : Nat) (w : World) (hx : x < 4294967296) (hy : y < 4294967296) (hc : c ≤ 1) :
    Calls Try.prog 71 #[.int .u32 x, .int .u32 y, .int .u32 c] w fun e w' => e = .returned (.tuple #[.int .u32 ((x + y + c) % 4294967296 : Nat), .int .u32 ((x + y + c) / 4294967296 : Nat)]) ∧ w = w' := by
  go_enter Try.func71, Try.ntmps71
  go_wp2
  go_ret2
  refine ⟨?_, rfl⟩
  show Ending.returned (.tuple #[.int .u32 _, .int .u32 _]) = _
  congr 4 <;> omega
theorem sub32 (x y c : Nat) (w : World) (hx : x < 4294967296) (hy : y < 4294967296) (hc : c ≤ 1) :
    Calls Try.prog 74 #[.int .u32 x, .int .u32 y, .int .u32 c] w fun e w' => e = .returned (.tuple #[.int .u32 ((4294967296 + x - y - c) % 4294967296 : Nat), .int .u32 (1 - (4294967296 + x - y - c) / 4294967296 : Nat)]) ∧ w = w' := by
  have hb := borrow_bits x y c _ hx hy hc rfl
  have e1 : ((x : Int) - y - c) % 4294967296 = (((4294967296 + x - y - c) % 4294967296 : Nat) : Int) := by omega
  have hd : (4294967296 + x - y - c) % 4294967296 < 4294967296 := by omega
  have HB := Lib.hid hb
  have HE := Lib.hid e1
  clear hb e1
  go_enter Try.func74, Try.ntmps74
  go_wp2
  all_goals go_ret2
  refine ⟨?_, rfl⟩
  show Ending.returned (.tuple #[.int .u32 (((x : Int) - y - c) % 4294967296), .int .u32 (bits .or .u32 (bits .and .u32 (bits .xor .u32 ((4294967295 : Nat) : Int) x) y) (bits .and .u32 (bits .xor .u32 ((4294967295 : Nat) : Int) (bits .xor .u32 x y)) (((x : Int) - y - c) % 4294967296)) / 2147483648)]) = _
  rw [HE.out, u32_xor_nat _ x (by omega) hx, u32_xor_nat x y hx hy]
  have hxy : x ^^^ y < 4294967296 := Nat.xor_lt_two_pow (n := 32) hx hy
  have hnx : 4294967295 ^^^ x < 4294967296 := Nat.xor_lt_two_pow (n := 32) (by omega) hx
  have hnxy : 4294967295 ^^^ (x ^^^ y) < 4294967296 := Nat.xor_lt_two_pow (n := 32) (by omega) hxy
  rw [u32_xor_nat _ (x ^^^ y) (by omega) hxy, u32_and_nat _ y hnx hy, u32_and_nat _ _ hnxy hd, u32_or_nat _ _ (Nat.and_lt_two_pow (n := 32) _ hy) (Nat.and_lt_two_pow (n := 32) _ hd)]
  rw [← HB.out, Int.natCast_ediv]
  rfl

/-- a block's digits, those from off on laid anew -/
def laid (zs : List Nat) (off : Nat) (cs : List Nat) : List Nat := splice zs off cs
theorem length_splice' {zs cs : List Nat} {off : Nat} (h : off + cs.length ≤ zs.length) : (splice zs off cs).length = zs.length := length_splice zs off cs h
theorem splice_nil {zs : List Nat} {off : Nat} : splice zs off [] = zs := by simp [splice]
theorem get_splice_lt {zs cs : List Nat} {off j : Nat} (h : off + cs.length ≤ zs.length) (hj : j < off) (h' : j < (splice zs off cs).length) : (splice zs off cs)[j] = zs[j]'(by omega) := by
  simp only [splice]
  rw [List.getElem_append_left (by rw [List.length_take]; omega), List.getElem_take]
theorem get_splice_in {zs cs : List Nat} {off j : Nat} (h : off + cs.length ≤ zs.length) (hj : j < cs.length) (h' : off + j < (splice zs off cs).length) : (splice zs off cs)[off + j] = cs[j] := by
  simp only [splice]
  have hl : (zs.take off).length = off := by rw [List.length_take]; omega
  rw [List.getElem_append_right (by omega), List.getElem_append_left (by omega)]
  simp [hl]
theorem get_splice_ge {zs cs : List Nat} {off j : Nat} (h : off + cs.length ≤ zs.length) (hj : off + cs.length ≤ j) (h' : j < (splice zs off cs).length) : (splice zs off cs)[j] = zs[j]'(by rw [length_splice' h] at h'; exact h') := by
  simp only [splice]
  have hl : (zs.take off).length = off := by rw [List.length_take]; omega
  rw [List.getElem_append_right (by omega), List.getElem_append_right (by omega), List.getElem_drop]
  congr 1
  omega
theorem splice_snoc {zs cs : List Nat} {off v : Nat} (h : off + cs.length < zs.length) : (splice zs off cs).set (off + cs.length) v = splice zs off (cs ++ [v]) := by
  have hl : (zs.take off).length = off := by rw [List.length_take]; omega
  simp only [splice]
  rw [List.set_append_right _ _ (by omega), hl, Nat.add_sub_cancel_left, List.set_append_right _ _ (by omega), Nat.sub_self]
  rw [List.drop_eq_getElem_cons h]
  simp [Nat.add_assoc]

theorem splice_snoc0 {zs cs : List Nat} {v : Nat} (h : cs.length < zs.length) : (splice zs 0 cs).set cs.length v = splice zs 0 (cs ++ [v]) := by
  have := splice_snoc (zs := zs) (cs := cs) (off := 0) (v := v) (by omega)
  rwa [Nat.zero_add] at this
theorem splice_rest {zs cs : List Nat} {off n : Nat} (h : off + n ≤ zs.length) (hc : cs.length ≤ n) : splice zs off (cs ++ (zs.drop (off + cs.length)).take (n - cs.length)) = splice zs off cs := by
  simp only [splice]
  congr 1
  rw [List.append_assoc]
  congr 1
  have hl : ((zs.drop (off + cs.length)).take (n - cs.length)).length = n - cs.length := by rw [List.length_take, List.length_drop]; omega
  rw [List.length_append, hl]
  have e : zs.drop (off + (cs.length + (n - cs.length))) = (zs.drop (off + cs.length)).drop (n - cs.length) := by rw [List.drop_drop]; congr 1; omega
  rw [e, List.take_append_drop]
theorem take_drop_succ {zs : List Nat} {off k : Nat} (h : off + k < zs.length) (b : Nat) : val b ((zs.drop off).take (k + 1)) = val b ((zs.drop off).take k) + b ^ k * zs[off + k] := by
  rw [val_take_succ (by rw [List.length_drop]; omega), List.getElem_drop]

set_option maxHeartbeats 800000 in
/-- adding b into the n words of block g from off on: what goes beyond them is lost. -/
theorem nat_addIn (zs b : List Nat) (g off n c : Nat) (A : Option Addr) (cb : Nat) (t : TypeId) (w : World) (hrow : Row w g t .u32 zs) (hb : Rd w (fun x => x ≠ g) .u32 A b) (hn : off + n ≤ zs.length) (hbn : b.length ≤ n) (hl : n ≤ 2147483648) (hz : Dg 4294967296 zs) (hbd : Dg 4294967296 b) :
    Calls Try.prog 64 #[.slice (some ⟨g, off, none⟩) n c, .slice A b.length cb] w fun e w' => e = .returned (.tuple #[]) ∧ ∃ cs k, cs.length = n ∧ Dg 4294967296 cs ∧ val 4294967296 cs + 4294967296 ^ n * k = val 4294967296 ((zs.drop off).take n) + val 4294967296 b ∧ Row w' g t .u32 (splice zs off cs) ∧ w.grownBy w' (some g) := by
  have hbl := hb.below_size
  go_enter Try.func64, Try.ntmps64
  go_wp2_with fail
  go_loopg [4, 5, 6, 10] b.length (fun gh c' _ _ i wr => ∃ (k cy : Nat) (cs : List Nat), gh + k = b.length ∧ i = .int .i64 k ∧ c' = .int .u32 cy ∧ cy ≤ 1 ∧ cs.length = k ∧ Dg 4294967296 cs ∧ Row wr g t .u32 (splice zs off cs) ∧ w.grownBy wr (some g) ∧
    val 4294967296 cs + 4294967296 ^ k * cy = val 4294967296 ((zs.drop off).take k) + val 4294967296 (b.take k))
  case atStart => exact ⟨0, 0, [], by omega, rfl, rfl, by omega, rfl, Dg.nil _, by rw [splice_nil]; exact hrow, World.grownBy.refl _ _, rfl⟩
  case round =>
    obtain ⟨k, cy, cs, hg, rfl, rfl, hcy, rfl, hcd, hr, hgr, hv⟩ := hrel
    have HG := Lib.hid hg
    have HV := Lib.hid hv
    clear hg hv
    have hlen : (splice zs off cs).length = zs.length := length_splice' (by have := HG.out; omega)
    have HL := Lib.hid hlen
    clear hlen
    by_cases hlt : cs.length < b.length
    · have hR := hbl.grown hgr (fun x hx => ⟨hx.2, fun e => hx.1 (by injection e)⟩)
      obtain ⟨bb, ob, rfl, _, cb0⟩ := hR.at_ hlt
      have ca := hr.cell (i := off + cs.length) (by rw [HL.out]; omega)
      rw [get_splice_ge (by omega) (Nat.le_refl _)] at ca
      have hf := hr.frozen (off + cs.length)
      have hp1 := hz.get (j := off + cs.length) (by omega)
      have hq1 := hbd.get hlt
      have hs1 := take_drop_succ (zs := zs) (off := off) (k := cs.length) (by omega) 4294967296
      have hs2 := val_take_succ (b := 4294967296) hlt
      obtain ⟨p, hp⟩ : ∃ p, zs[off + cs.length]'(by omega) = p := ⟨_, rfl⟩
      obtain ⟨q, hq⟩ : ∃ q, b[cs.length] = q := ⟨_, rfl⟩
      rw [hp] at ca hp1 hs1
      rw [hq] at cb0 hq1 hs2
      have HS1 := Lib.hid hs1
      have HS2 := Lib.hid hs2
      clear hp hq hs1 hs2
      go_wp2_with (go_at_call 71; refine (add32 p q cy wr hp1 hq1 hcy).mono ?_; rintro e w' ⟨rfl, rfl⟩)
      go_roundg (gk - 1)
      case measure => have := HG.out; omega
      case rel =>
        have hr2 := hr.set (off + cs.length) ((p + q + cy) % 4294967296)
        rw [splice_snoc (by omega)] at hr2
        refine ⟨cs.length + 1, (p + q + cy) / 4294967296, cs ++ [(p + q + cy) % 4294967296], by have := HG.out; omega, by go_num, by go_num, by omega, by simp, hcd.snoc (by omega), hr2, grown_setCell hgr _ _, ?_⟩
        rw [add_step (x := p) (y := q) rfl HV.out, HS1.out, HS2.out]
    · have hk : cs.length = b.length := by have := HG.out; omega
      have HK := Lib.hid hk
      clear hk
      go_wp2_with fail
      go_loopg [4, 7] (n - b.length) (fun gh c' i wr => ∃ (k cy : Nat) (cs : List Nat), gh + k = n ∧ b.length ≤ k ∧ i = .int .i64 k ∧ c' = .int .u32 cy ∧ cy ≤ 1 ∧ cs.length = k ∧ Dg 4294967296 cs ∧ Row wr g t .u32 (splice zs off cs) ∧ w.grownBy wr (some g) ∧
        val 4294967296 cs + 4294967296 ^ k * cy = val 4294967296 ((zs.drop off).take k) + val 4294967296 b)
      case atStart =>
        have hk := HK.out
        refine ⟨b.length, cy, cs, by omega, by omega, rfl, rfl, hcy, hk, hcd, hr, hgr, ?_⟩
        have := HV.out
        rw [hk, List.take_length] at this
        exact this
      case round =>
        clear HG HV HL hcd hr hgr HK hlt hcy
        obtain ⟨k, cy, cs, hg, hkb, rfl, rfl, hcy, rfl, hcd, hr, hgr, hv⟩ := hrel
        have HG := Lib.hid hg
        have HV := Lib.hid hv
        clear hg hv
        have hlen : (splice zs off cs).length = zs.length := length_splice' (by have := HG.out; omega)
        have HL := Lib.hid hlen
        clear hlen
        by_cases hlt : cs.length < n
        · by_cases h0 : cy = 0
          · subst h0
            go_wp2
            go_end0
            refine ⟨rfl, cs ++ (zs.drop (off + cs.length)).take (n - cs.length), 0, ?_, ?_, ?_, ?_, hgr⟩
            · rw [List.length_append, List.length_take, List.length_drop]; omega
            · exact Dg.append.2 ⟨hcd, hz.drop.take⟩
            · have hv := HV.out
              rw [Nat.mul_zero, Nat.add_zero] at hv ⊢
              rw [val_append, hv]
              have e := val_split (b := 4294967296) (k := cs.length) (xs := (zs.drop off).take n) (by rw [List.length_take, List.length_drop]; omega)
              rw [List.take_take, Nat.min_eq_left (by omega), List.drop_take, List.drop_drop] at e
              rw [e]; omega
            · rw [splice_rest hn (by omega)]; exact hr
          · have ca := hr.cell (i := off + cs.length) (by rw [HL.out]; omega)
            rw [get_splice_ge (by omega) (Nat.le_refl _)] at ca
            have hf := hr.frozen (off + cs.length)
            have hp1 := hz.get (j := off + cs.length) (by omega)
            have hs1 := take_drop_succ (zs := zs) (off := off) (k := cs.length) (by omega) 4294967296
            obtain ⟨p, hp⟩ : ∃ p, zs[off + cs.length]'(by omega) = p := ⟨_, rfl⟩
            rw [hp] at ca hp1 hs1
            have HS1 := Lib.hid hs1
            clear hp hs1
            have cadd := add32 p 0 cy wr hp1 (by omega) hcy
            go_wp2_with (go_at_call 71; refine cadd.mono ?_; rintro e w' ⟨rfl, rfl⟩)
            go_roundg (gk - 1)
            case measure => have := HG.out; omega
            case rel =>
              have hr2 := hr.set (off + cs.length) ((p + 0 + cy) % 4294967296)
              rw [splice_snoc (by omega)] at hr2
              refine ⟨cs.length + 1, (p + 0 + cy) / 4294967296, cs ++ [(p + 0 + cy) % 4294967296], by have := HG.out; omega, by omega, by go_num, by go_num, by omega, by simp, hcd.snoc (by omega), hr2, grown_setCell hgr _ _, ?_⟩
              rw [add_step (x := p) (y := 0) rfl HV.out, HS1.out, Nat.mul_zero, Nat.add_zero]
        · have hk : cs.length = n := by have := HG.out; omega
          have HK := Lib.hid hk
          clear hk
          go_wp2
          go_end0
          refine ⟨rfl, cs, cy, HK.out, hcd, ?_, hr, hgr⟩
          have := HV.out
          rw [HK.out] at this
          exact this

end Go.Proofs.Ytoidhoiadkafhaa
