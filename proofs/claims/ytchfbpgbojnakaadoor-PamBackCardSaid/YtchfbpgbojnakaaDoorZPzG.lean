/- Rasters: the lines ahead of a file, the program's own table and header. Written by gen/genpbe.py. -/
import Derived.Test.YtchfbpgbojnakaaDoorZPzD
import Derived.Test.YtchfbpgbojnakaaDoorZPzC
import Derived.Test.YtchfbpgbojnakaaDoorZFhX
import Derived.Lib.AppendStr
import Derived.Lib.LaidTab
import Derived.Test.YtchfbpgbojnakaaDoorZLxW
import Derived.Test.YtchfbpgbojnakaaDoorZFgX
namespace Go.Proofs.YtchfbpgbojnakaaDoor
open Go.RowKit

/-- what the lines begin with -/
def headAt : Nat → By
  | 0 => [80, 55]
  | 1 => [87, 73, 68, 84, 72, 32]
  | 2 => [72, 69, 73, 71, 72, 84, 32]
  | 3 => [68, 69, 80, 84, 72, 32, 52]
  | 4 => [77, 65, 88, 86, 65, 76, 32, 50, 53, 53]
  | 5 => [84, 85, 80, 76, 84, 89, 80, 69, 32, 82, 71, 66, 95, 65, 76, 80, 72, 65]
  | 6 => [69, 78, 68, 72, 68, 82]
  | _ => []
/-- what stands behind it -/
def headMore (x y : Int) : Nat → By
  | 1 => wtext x
  | 2 => wtext y
  | _ => []
def headLine (x y : Int) (k : Nat) : By := headAt k ++ (headMore x y k ++ [10])
/-- the first k lines -/
def headTo (x y : Int) : Nat → By
  | 0 => []
  | k + 1 => headTo x y k ++ headLine x y k
theorem headTo_all (x y : Int) : headTo x y 7 = headOf x y := by
  simp only [headTo, headLine, headAt, headMore, headOf, List.nil_append, List.append_assoc, List.cons_append]
theorem headAt_len (k : Nat) : (headAt k).length ≤ 18 := by
  match k with
  | 0 | 1 | 2 | 3 | 4 | 5 | 6 => decide
  | k + 7 => exact Nat.zero_le _
theorem headMore_len (x y : Int) (hx : -9223372036854775808 ≤ x ∧ x ≤ 9223372036854775807) (hy : -9223372036854775808 ≤ y ∧ y ≤ 9223372036854775807) (k : Nat) : (headMore x y k).length ≤ 32 := by
  have h1 := wtext_short hx.1 hx.2
  have h2 := wtext_short hy.1 hy.2
  unfold headMore
  split
  · omega
  · omega
  · exact Nat.zero_le _
theorem headTo_len (x y : Int) (hx : -9223372036854775808 ≤ x ∧ x ≤ 9223372036854775807) (hy : -9223372036854775808 ≤ y ∧ y ≤ 9223372036854775807) (k : Nat) : (headTo x y k).length ≤ k * 51 := by
  induction k with
  | zero => exact Nat.zero_le _
  | succ k ih =>
    have h1 := headAt_len k
    have h2 := headMore_len x y hx hy k
    simp only [headTo, headLine, List.length_append, List.length_cons, List.length_nil]
    omega
/-- the table as the program's text lays it -/
def headCells : Array Value := #[.string (str (headAt 0)), .string (str (headAt 1)), .string (str (headAt 2)), .string (str (headAt 3)), .string (str (headAt 4)), .string (str (headAt 5)), .string (str (headAt 6))]
def Heads (w : World) : Prop := w.var? Tryd.prog "frisket/pam.heads" = some headCells
theorem heads_named : Tryd.prog.globalNamed "frisket/pam.heads" = some 0 := by kernel_rfl
theorem heads_row {w : World} (h : Heads w) : ∃ t fr, w.heap[0]? = some (.cells headCells t fr) := by
  unfold Heads World.var? at h
  rw [heads_named] at h
  simp only [Option.bind_some] at h
  split at h
  · rename_i cs t fr hc
    exact ⟨t, fr, by rw [hc, Option.some.inj h]⟩
  · cases h
theorem heads_lt {w : World} (h : Heads w) : 0 < w.heap.size := by
  obtain ⟨t, fr, h⟩ := heads_row h
  exact (Array.getElem?_eq_some_iff.1 h).1
theorem Heads.on {w w' : World} (h : Heads w) (hb : Below w.heap.size w w') : Heads w' := by
  obtain ⟨t, fr, hr⟩ := heads_row h
  have h2 := (hb.block 0 (heads_lt h)).trans hr
  unfold Heads World.var?
  rw [heads_named]
  simp only [Option.bind_some]
  rw [h2]
theorem heads_size : headCells.size = 7 := rfl
theorem headCells_at : ∀ i, i < 7 → headCells[i]? = some (.string (str (headAt i))) := fun i hi => by
  have h : i = 0 ∨ i = 1 ∨ i = 2 ∨ i = 3 ∨ i = 4 ∨ i = 5 ∨ i = 6 := by omega
  rcases h with rfl | rfl | rfl | rfl | rfl | rfl | rfl <;> rfl
theorem heads_cell {w : World} (h : Heads w) {i : Nat} (hi : i < 7) : w.cell? ⟨0, i, none⟩ = some (.string (str (headAt i))) := by
  obtain ⟨t, fr, h⟩ := heads_row h
  rw [cell_of_row w _ i _ t fr h]
  exact headCells_at i hi
theorem size_strH : (Tryd.prog.info? 9).map (·.size) = some 1 := by kernel_rfl
theorem heads_index (k : Nat) (hk : k < 7) (W : World) : (Instr.index 58 (.agg headCells) (.int .i64 (k : Int))).run Tryd.prog W = .ok (.string (str (headAt k))) W := by
  have h := headCells_at k hk
  have hs := size_strH
  cases hq : Tryd.prog.info? 9 with
  | none => simp [hq] at hs
  | some i =>
    have hs1 : i.size = 1 := by simpa [hq] using hs
    simp [Instr.index, run_underlying Tryd.underlying58, asIntOf, go_sem, sizeOf, typeInfo, hq, hs1, h]
    exact fun h9 => by omega
theorem strCells_strP (l : By) : Lib.strCells (str l) = bcells l := by simp [Lib.strCells, bcells, str]
theorem bcells_add (a b : By) : bcells (a ++ b) = bcells a ++ bcells b := by simp [bcells]
theorem heads_far {w : World} {e : TypeId} {v : Value} {n : Nat} {xs : List Value} {B : Nat} (h : w.ownsRow B e 1 v n xs) (hB : 0 < B) : v.ownBlock ≠ some 0 := fun e => by
  have := (h.lt _ e).1
  omega

theorem headTo_next0 (x y : Int) {k : Nat} (h1 : ¬ k = 1) (h2 : ¬ k = 2) : headTo x y (k + 1) = headTo x y k ++ headAt k ++ [10] := by
  have e : headMore x y k = [] := by
    unfold headMore
    split
    · exact absurd rfl h1
    · exact absurd rfl h2
    · rfl
  simp [headTo, headLine, e]
theorem headTo_next1 (x y : Int) {k : Nat} (h : k = 1) : headTo x y (k + 1) = headTo x y k ++ headAt k ++ wtext x ++ [10] := by subst h; simp [headTo, headLine, headMore]
theorem headTo_next2 (x y : Int) {k : Nat} (h : k = 2) : headTo x y (k + 1) = headTo x y k ++ headAt k ++ wtext y ++ [10] := by subst h; simp [headTo, headLine, headMore]
theorem own_below {w w1 : World} {B : Nat} {e : TypeId} {z : Nat} {v : Value} {n : Nat} {xs : List Value} (h : w.ownsRow B e z v n xs) (hb : Below w.heap.size w w1) : w1.ownsRow B e z v n xs :=
  h.kept (row := none) ⟨hb.os, hb.tape, hb.output, hb.size, fun k hk _ => hb.block k hk⟩ (by cases hv : v.ownBlock <;> simp)
theorem own_by {w : World} {B : Nat} {e : TypeId} {v : Value} {n : Nat} {xs : List Value} {b : By} (h : w.ownsRow B e 1 v n xs) (hx : bcells b = xs) : w.ownsRow B e 1 v b.length (bcells b) := by
  subst hx
  have := h.1
  rw [bcells_length, Nat.mul_one] at this
  rw [this]
  exact h

set_option maxRecDepth 10000 in
set_option maxHeartbeats 6400000 in
theorem pam_header (x y : Int) (hx : -9223372036854775808 ≤ x ∧ x ≤ 9223372036854775807) (hy : -9223372036854775808 ≤ y ∧ y ≤ 9223372036854775807) (w : World) (hH : Heads w) (hT : Tab w) :
    Calls Tryd.prog 23 #[.int .i64 x, .int .i64 y] w fun e w' => (∃ v, e = .returned v ∧ w'.ownsRow w.heap.size 5 1 v (headOf x y).length (bcells (headOf x y))) ∧ Below w.heap.size w w' := by
  obtain ⟨i0, hi, hz0, hz1, hz2⟩ := info_parts info_u8P
  obtain ⟨TT, fr, hg⟩ := heads_row hH
  have cX := Lib.hid (fun V (h : Below w.heap.size w V) => fig_Num x hx.1 hx.2 V (hT.on h))
  have cY := Lib.hid (fun V (h : Below w.heap.size w V) => fig_Num y hy.1 hy.2 V (hT.on h))
  have hL := Lib.hid (headTo_len x y hx hy)
  have hM := Lib.hid (headMore_len x y hx hy)
  clear hx hy hT
  go_enter Tryd.func23, Tryd.ntmps23
  go_wp2_with (with_reducible refine wpList_load_row rfl 58 _ rfl 0 rfl TT headCells fr _ hg Tryd.underlying58 rfl (by kernel_rfl) ?_)
  go_loopg [5, 6, 7, 9, 17, 23] 7 (fun gh v _ _ it _ _ wr => ∃ k : Nat, it = .int .i64 (k : Int) ∧ gh + k = 7 ∧ wr.ownsRow w.heap.size 5 1 v (headTo x y k).length (bcells (headTo x y k)) ∧ Below w.heap.size w wr)
  case atStart => exact ⟨0, rfl, rfl, World.ownsRow_nil _ _ _ _, Below.refl _ _⟩
  case round =>
    obtain ⟨k, rfl, hgk, ho, hB⟩ := hrel
    replace ho := Lib.hid ho
    replace hB := Lib.hid hB
    by_cases hk : k < 7
    · have hix := fun W => heads_index k hk W
      have hl1 := headAt_len k
      have hl2 := hL.out k
      obtain ⟨s, hs⟩ : ∃ s, str (headAt k) = s := ⟨_, rfl⟩
      have hsz : s.size = (headAt k).length := by rw [← hs]; exact str_size _
      rw [hs] at hix
      have hsc := Lib.hid (show Lib.strCells s = bcells (headAt k) by rw [← hs]; exact strCells_strP _)
      clear hs
      have hk1i : ∀ c : Int, ¬ (k : Int) = c → ((k : Int) == c) = false := fun c h => by simpa using h
      by_cases k1 : k = 1
      · skip
        have HNX := Lib.hid (headTo_next1 x y k1)
        have k1i : ((k : Int) == 1) = true := by rw [k1]; rfl
        have hix1 : ∀ W, (Instr.index 58 (.agg headCells) (.int .i64 1)).run Tryd.prog W = .ok (.string s) W := fun W => by have h := hix W; rw [k1] at h; exact h
        have cN := cX
        obtain ⟨s2, hs2⟩ : ∃ s2, str (wtext x) = s2 := ⟨_, rfl⟩
        have hz2s : s2.size ≤ 32 := by rw [← hs2, str_size]; exact hM.out 1
        rw [show (⟨(wtext x).toArray⟩ : ByteArray) = s2 from hs2] at cN
        have hsd := Lib.hid (show Lib.strCells s2 = bcells (wtext x) by rw [← hs2]; exact strCells_strP _)
        clear hs2 hk1i
        go_wp2_with first
          | (at_builtin; refine Lib.wpList_append_own_string _ rfl (.tmp 13) (.tmp 14) 25 9 rfl w.heap.size 5 i0 Tryd.underlying25 Tryd.underlying9 hi hz0 hz1 hz2 _ (headTo x y k).length _ rfl ho.out s rfl (by unfold maxLen; omega) (by omega) hB.out.size ?_; intro v1 w1 ho1 hg1 _
             have hB1 := Lib.hid (hB.out.grown hg1 hB.out.size (fun g e => (ho.out.lt g e).1))
             replace ho1 := Lib.hid ho1
             clear hg1)
          | (go_at_call 29; with_reducible refine Calls.mono (cN.out w1 hB1.out) ?_; rintro e w2 ⟨rfl, b2⟩
             have hB2 := Lib.hid (hB1.out.trans (b2.mono hB1.out.size))
             have ho2 := Lib.hid (own_below ho1.out b2)
             clear b2)
          | (at_builtin; refine Lib.wpList_append_own_string _ rfl (.tmp 19) (.tmp 21) 25 9 rfl w.heap.size 5 i0 Tryd.underlying25 Tryd.underlying9 hi hz0 hz1 hz2 _ ((headTo x y k).length + s.size) _ rfl ho2.out s2 rfl (by unfold maxLen; omega) (by omega) hB2.out.size ?_; intro v3 w3 ho3 hg3 _
             have hB3 := Lib.hid (hB2.out.grown hg3 hB2.out.size (fun g e => (ho2.out.lt g e).1))
             replace ho3 := Lib.hid ho3
             clear hg3)
          | (at_builtin; refine wpList_append_own _ rfl (.tmp 29) (.tmp 30) 25 rfl w.heap.size 5 i0 (.int .u8 0) 1 1 Tryd.underlying25 hi hz0 hz1 hz2 rfl (by decide) _ ((headTo x y k).length + s.size + s2.size) _ rfl (ho3.out.alloc _) ⟨w3.heap.size, 0, none⟩ 1 1 [.int .u8 10] rfl rfl (World.news_of_block (cs := #[.int .u8 10]) (t := 5) (fr := (0, 0)) (heap_alloc_new w3 _)) (by simp [Value.oneCell']) (by unfold maxLen; omega) (by omega) (by have := hB3.out.size; simp; omega) ?_; intro v4 w4 ho4 hg4 _
             have hB4 := Lib.hid ((hB3.out.alloc hB3.out.size (.cells #[.int .u8 10] 5)).grown hg4 (by have := hB3.out.size; simp; omega) (fun g e => (ho3.out.lt g e).1))
             replace ho4 := Lib.hid ho4
             clear hg4)
        go_roundg (7 - (k + 1))
        case measure => omega
        case rel => exact ⟨k + 1, by simp [k1], by omega, own_by ho4.out (by rw [HNX.out, hsc.out, hsd.out, bcells_add, bcells_add, bcells_add]; rfl), hB4.out⟩
      · by_cases k2 : k = 2
        · skip
          have HNX := Lib.hid (headTo_next2 x y k2)
          have k1i := hk1i 1 (by omega)
          have k2i : ((k : Int) == 2) = true := by rw [k2]; rfl
          have hix1 : ∀ W, (Instr.index 58 (.agg headCells) (.int .i64 2)).run Tryd.prog W = .ok (.string s) W := fun W => by have h := hix W; rw [k2] at h; exact h
          have cN := cY
          obtain ⟨s2, hs2⟩ : ∃ s2, str (wtext y) = s2 := ⟨_, rfl⟩
          have hz2s : s2.size ≤ 32 := by rw [← hs2, str_size]; exact hM.out 2
          rw [show (⟨(wtext y).toArray⟩ : ByteArray) = s2 from hs2] at cN
          have hsd := Lib.hid (show Lib.strCells s2 = bcells (wtext y) by rw [← hs2]; exact strCells_strP _)
          clear hs2 hk1i
          go_wp2_with first
            | (at_builtin; refine Lib.wpList_append_own_string _ rfl (.tmp 13) (.tmp 14) 25 9 rfl w.heap.size 5 i0 Tryd.underlying25 Tryd.underlying9 hi hz0 hz1 hz2 _ (headTo x y k).length _ rfl ho.out s rfl (by unfold maxLen; omega) (by omega) hB.out.size ?_; intro v1 w1 ho1 hg1 _
               have hB1 := Lib.hid (hB.out.grown hg1 hB.out.size (fun g e => (ho.out.lt g e).1))
               replace ho1 := Lib.hid ho1
               clear hg1)
            | (go_at_call 29; with_reducible refine Calls.mono (cN.out w1 hB1.out) ?_; rintro e w2 ⟨rfl, b2⟩
               have hB2 := Lib.hid (hB1.out.trans (b2.mono hB1.out.size))
               have ho2 := Lib.hid (own_below ho1.out b2)
               clear b2)
            | (at_builtin; refine Lib.wpList_append_own_string _ rfl (.tmp 25) (.tmp 27) 25 9 rfl w.heap.size 5 i0 Tryd.underlying25 Tryd.underlying9 hi hz0 hz1 hz2 _ ((headTo x y k).length + s.size) _ rfl ho2.out s2 rfl (by unfold maxLen; omega) (by omega) hB2.out.size ?_; intro v3 w3 ho3 hg3 _
               have hB3 := Lib.hid (hB2.out.grown hg3 hB2.out.size (fun g e => (ho2.out.lt g e).1))
               replace ho3 := Lib.hid ho3
               clear hg3)
            | (at_builtin; refine wpList_append_own _ rfl (.tmp 29) (.tmp 30) 25 rfl w.heap.size 5 i0 (.int .u8 0) 1 1 Tryd.underlying25 hi hz0 hz1 hz2 rfl (by decide) _ ((headTo x y k).length + s.size + s2.size) _ rfl (ho3.out.alloc _) ⟨w3.heap.size, 0, none⟩ 1 1 [.int .u8 10] rfl rfl (World.news_of_block (cs := #[.int .u8 10]) (t := 5) (fr := (0, 0)) (heap_alloc_new w3 _)) (by simp [Value.oneCell']) (by unfold maxLen; omega) (by omega) (by have := hB3.out.size; simp; omega) ?_; intro v4 w4 ho4 hg4 _
               have hB4 := Lib.hid ((hB3.out.alloc hB3.out.size (.cells #[.int .u8 10] 5)).grown hg4 (by have := hB3.out.size; simp; omega) (fun g e => (ho3.out.lt g e).1))
               replace ho4 := Lib.hid ho4
               clear hg4)
          go_roundg (7 - (k + 1))
          case measure => omega
          case rel => exact ⟨k + 1, by simp [k2], by omega, own_by ho4.out (by rw [HNX.out, hsc.out, hsd.out, bcells_add, bcells_add, bcells_add]; rfl), hB4.out⟩
        · skip
          have HNX := Lib.hid (headTo_next0 x y k1 k2)
          have k1i := hk1i 1 (by omega)
          have k2i := hk1i 2 (by omega)
          clear hk1i
          go_wp2_with first
            | (at_builtin; refine Lib.wpList_append_own_string _ rfl (.tmp 13) (.tmp 14) 25 9 rfl w.heap.size 5 i0 Tryd.underlying25 Tryd.underlying9 hi hz0 hz1 hz2 _ (headTo x y k).length _ rfl ho.out s rfl (by unfold maxLen; omega) (by omega) hB.out.size ?_; intro v1 w1 ho1 hg1 _
               have hB1 := Lib.hid (hB.out.grown hg1 hB.out.size (fun g e => (ho.out.lt g e).1))
               replace ho1 := Lib.hid ho1
               clear hg1)
            | (at_builtin; refine wpList_append_own _ rfl (.tmp 29) (.tmp 30) 25 rfl w.heap.size 5 i0 (.int .u8 0) 1 1 Tryd.underlying25 hi hz0 hz1 hz2 rfl (by decide) _ ((headTo x y k).length + s.size) _ rfl (ho1.out.alloc _) ⟨w1.heap.size, 0, none⟩ 1 1 [.int .u8 10] rfl rfl (World.news_of_block (cs := #[.int .u8 10]) (t := 5) (fr := (0, 0)) (heap_alloc_new w1 _)) (by simp [Value.oneCell']) (by unfold maxLen; omega) (by omega) (by have := hB1.out.size; simp; omega) ?_; intro v4 w4 ho4 hg4 _
               have hB4 := Lib.hid ((hB1.out.alloc hB1.out.size (.cells #[.int .u8 10] 5)).grown hg4 (by have := hB1.out.size; simp; omega) (fun g e => (ho1.out.lt g e).1))
               replace ho4 := Lib.hid ho4
               clear hg4)
          go_roundg (7 - (k + 1))
          case measure => omega
          case rel => exact ⟨k + 1, by simp, by omega, own_by ho4.out (by rw [HNX.out, hsc.out, bcells_add, bcells_add]; rfl), hB4.out⟩
    · obtain rfl : k = 7 := by omega
      rw [headTo_all] at ho
      go_wp2_with fail
      go_ret
      exact ⟨⟨_, rfl, ho.out⟩, hB.out⟩
end Go.Proofs.YtchfbpgbojnakaaDoor
/- A file's lines, told one by one: mathematics. -/

namespace Go.Proofs.YtchfbpgbojnakaaDoor
open Num

theorem decVal_ownP : ∀ (k : Nat) (bs : List UInt8), bs.length = k → IsDec bs → Lib.decDigits (decVal bs) = bs
  | 0, bs, hk, h => absurd (List.eq_nil_of_length_eq_zero hk) h.1
  | k + 1, bs, hk, h => by
    obtain ⟨cs, c, rfl⟩ : ∃ cs c, bs = cs ++ [c] := ⟨bs.dropLast, bs.getLast h.1, (List.dropLast_concat_getLast h.1).symm⟩
    obtain ⟨h1, h2, h3⟩ := h
    have hc := h3 c (by simp)
    have hr : c.toNat - 48 < 10 := by omega
    have hb : UInt8.ofNat (48 + (c.toNat - 48)) = c := by
      rw [← UInt8.toNat_inj, dec_digit hr]; omega
    rw [decVal_snoc]
    by_cases hcs : cs = []
    · subst hcs
      rw [decVal_nil, Nat.zero_mul, Nat.zero_add, dec_small hr, Nat.mod_eq_of_lt hr, hb]
      rfl
    · have hl : cs.length = k := by simp at hk; omega
      have hpos : 0 < cs.length := List.length_pos_iff.2 hcs
      have hh : cs.head? ≠ some 48 := fun e => h2 ⟨by simp; omega, by
        cases cs with
        | nil => exact absurd rfl hcs
        | cons x xs => simpa using e⟩
      have hd : IsDec cs := ⟨hcs, fun e => hh e.2, fun x hx => h3 x (by simp [hx])⟩
      have ih := decVal_ownP k cs hl hd
      have hv : decVal cs ≠ 0 := fun e => by
        rw [e] at ih
        have : cs = [48] := by rw [← ih]; decide +kernel
        rw [this] at hh
        exact hh rfl
      rw [dec_big (by omega), Nat.mul_comm, Nat.mul_add_div (by omega), Nat.mul_add_mod, Nat.div_eq_of_lt hr, Nat.add_zero, ih, Nat.mod_eq_of_lt hr, hb]
/-- a text that is read as a number above 0 is the number's -/
theorem sig_own {t : By} (h : IsSig t) {n : Int} (hn : sigVal t = n) (h1 : 1 ≤ n) : t = wtext n := by
  by_cases hh : t.head? = some 45
  · simp only [sigVal, if_pos hh] at hn
    omega
  · have hd := (isSig_plain hh).1 h
    simp only [sigVal, if_neg hh] at hn
    unfold wtext
    rw [if_neg (by omega), ← hn, Int.natAbs_natCast]
    exact (decVal_ownP t.length t rfl hd).symm
theorem side_some {t : By} {n : Int} {e : Nat} (h : IsRead t 1 64 n e) (hn : ¬ n = 0) : (1 ≤ n ∧ n ≤ 64) ∧ t = wtext n := by
  rcases h with ⟨_, h, _⟩ | ⟨_, _, h, _⟩ | ⟨hs, hv, rfl, _⟩
  · exact absurd h hn
  · exact absurd h hn
  · exact ⟨hv, sig_own hs rfl hv.1⟩
theorem side_none {t : By} {n : Int} {e : Nat} (h : IsRead t 1 64 n e) (hn : n = 0) : ∀ x, 1 ≤ x ∧ x ≤ 64 → t ≠ wtext x := by
  rintro x ⟨h1, h2⟩ rfl
  obtain ⟨h3, -⟩ := h.unique (read_back x 1 64 h1 h2)
  omega
theorem headAt_no10 (k : Nat) : ∀ c ∈ headAt k, c ≠ 10 := by
  match k with
  | 0 | 1 | 2 | 3 | 4 | 5 | 6 => decide
  | k + 7 => intro c hc; simp [headAt] at hc
theorem headMore_no10 (x y : Int) (k : Nat) : ∀ c ∈ headMore x y k, c ≠ 10 := by
  unfold headMore
  split
  · exact wtext_no10 x
  · exact wtext_no10 y
  · intro c hc; simp at hc
theorem headBoth_no10 (x y : Int) (k : Nat) : ∀ c ∈ headAt k ++ headMore x y k, c ≠ 10 := fun c hc => by
  rcases List.mem_append.1 hc with h | h
  · exact headAt_no10 k c h
  · exact headMore_no10 x y k c h
theorem headLine_on (x y : Int) (k : Nat) (l : By) : headLine x y k ++ l = (headAt k ++ headMore x y k) ++ 10 :: l := by simp [headLine]
theorem headTo_tell (x y x' y' : Int) : ∀ (k : Nat) (l l' : By), headTo x y k ++ l = headTo x' y' k ++ l' → l = l'
  | 0, l, l', h => by simpa [headTo] using h
  | k + 1, l, l', h => by
    have h2 := headTo_tell x y x' y' k _ _ (by simpa only [headTo, List.append_assoc] using h)
    rw [headLine_on, headLine_on] at h2
    exact (digits_end (headBoth_no10 x y k) (headBoth_no10 x' y' k) h2).2
theorem headTo_more (x y : Int) (k : Nat) : ∀ d : Nat, ∃ m, headTo x y (k + d) = headTo x y k ++ m
  | 0 => ⟨[], by simp⟩
  | d + 1 => by
    obtain ⟨m, hm⟩ := headTo_more x y k d
    exact ⟨m ++ headLine x y (k + d), by rw [← List.append_assoc, ← hm]; rfl⟩
/-- no file begins so -/
def NoFile (bs : By) : Prop := ∀ x y rest, (1 ≤ x ∧ x ≤ 64) ∧ (1 ≤ y ∧ y ≤ 64) → bs ≠ headOf x y ++ rest
/-- k lines are told: the sides that they tell, and what lies behind them -/
def Told (bs : By) (k : Nat) (w h : Int) (l : By) : Prop :=
  bs = headTo w h k ++ l ∧ (k ≤ 1 → w = 0) ∧ (1 < k → 1 ≤ w ∧ w ≤ 64) ∧ (k ≤ 2 → h = 0) ∧ (2 < k → 1 ≤ h ∧ h ≤ 64)
theorem Told.first (bs : By) : Told bs 0 0 0 bs := ⟨rfl, fun _ => rfl, fun h => by omega, fun _ => rfl, fun h => by omega⟩
theorem Told.same {bs : By} {k : Nat} {w h : Int} {l : By} (t : Told bs k w h l) (hk : k < 7) {x y : Int} {rest : By} (e : bs = headOf x y ++ rest) : ∃ l', l = (headAt k ++ headMore x y k) ++ 10 :: l' := by
  obtain ⟨m, hm⟩ := headTo_more x y (k + 1) (7 - (k + 1))
  rw [show k + 1 + (7 - (k + 1)) = 7 by omega, headTo_all] at hm
  rw [hm] at e
  have e2 : headTo w h k ++ l = headTo x y k ++ (headLine x y k ++ (m ++ rest)) := by
    rw [← t.1, e]
    simp only [headTo, List.append_assoc]
  exact ⟨m ++ rest, by rw [headTo_tell w h x y k _ _ e2, headLine_on]⟩
/-- .. a line that does not end -/
theorem Told.no_end {bs : By} {k : Nat} {w h : Int} {l : By} (t : Told bs k w h l) (hk : k < 7) (hn : (10 : UInt8) ∉ l) : NoFile bs := fun _ _ _ _ e => by
  obtain ⟨l', rfl⟩ := t.same hk e
  exact hn (by simp)
theorem Told.both {bs : By} {k : Nat} {w h : Int} {l a r : By} (t : Told bs k w h l) (hk : k < 7) (hl : l = a ++ 10 :: r) (ha : ∀ c ∈ a, c ≠ 10) {x y : Int} {rest : By} (e : bs = headOf x y ++ rest) : a = headAt k ++ headMore x y k := by
  obtain ⟨l', h'⟩ := t.same hk e
  rw [hl] at h'
  exact (digits_end ha (headBoth_no10 x y k) h').1
/-- .. that begins otherwise -/
theorem Told.no_head {bs : By} {k : Nat} {w h : Int} {l a r : By} (t : Told bs k w h l) (hk : k < 7) (hl : l = a ++ 10 :: r) (ha : ∀ c ∈ a, c ≠ 10) (hn : ¬ headAt k <+: a) : NoFile bs := fun _ _ _ _ e =>
  hn ⟨_, (t.both hk hl ha e).symm⟩
theorem Told.more {bs : By} {k : Nat} {w h : Int} {l b r : By} (t : Told bs k w h l) (hk : k < 7) (hl : l = (headAt k ++ b) ++ 10 :: r) (ha : ∀ c ∈ headAt k ++ b, c ≠ 10) {x y : Int} {rest : By} (e : bs = headOf x y ++ rest) : b = headMore x y k :=
  List.append_cancel_left (t.both hk hl ha e)
/-- .. a side that is none -/
theorem Told.no_w {bs : By} {w h : Int} {l b r : By} (t : Told bs 1 w h l) (hl : l = (headAt 1 ++ b) ++ 10 :: r) (ha : ∀ c ∈ headAt 1 ++ b, c ≠ 10) {n : Int} {er : Nat} (hr : IsRead b 1 64 n er) (hn : n = 0) : NoFile bs := fun x y rest hs e =>
  side_none hr hn x hs.1 (t.more (by omega) hl ha e)
theorem Told.no_h {bs : By} {w h : Int} {l b r : By} (t : Told bs 2 w h l) (hl : l = (headAt 2 ++ b) ++ 10 :: r) (ha : ∀ c ∈ headAt 2 ++ b, c ≠ 10) {n : Int} {er : Nat} (hr : IsRead b 1 64 n er) (hn : n = 0) : NoFile bs := fun x y rest hs e =>
  side_none hr hn y hs.2 (t.more (by omega) hl ha e)
theorem headMore_none (x y : Int) {k : Nat} (h1 : ¬ k = 1) (h2 : ¬ k = 2) : headMore x y k = [] := by
  unfold headMore
  split
  · exact absurd rfl h1
  · exact absurd rfl h2
  · rfl
/-- .. more than there should be -/
theorem Told.no_more {bs : By} {k : Nat} {w h : Int} {l b r : By} (t : Told bs k w h l) (hk : k < 7) (h1 : ¬ k = 1) (h2 : ¬ k = 2) (hl : l = (headAt k ++ b) ++ 10 :: r) (ha : ∀ c ∈ headAt k ++ b, c ≠ 10) (hn : ¬ b = []) : NoFile bs := fun x y rest _ e =>
  hn (by rw [t.more hk hl ha e, headMore_none x y h1 h2])
/-- one line more -/
theorem Told.next {bs : By} {k : Nat} {w h : Int} {l b r : By} (t : Told bs k w h l) (h1 : ¬ k = 1) (h2 : ¬ k = 2) (hl : l = (headAt k ++ b) ++ 10 :: r) (hb : b = []) : Told bs (k + 1) w h r := by
  obtain ⟨t1, t2, t3, t4, t5⟩ := t
  subst hb hl
  refine ⟨?_, fun h => t2 (by omega), fun h => t3 (by omega), fun h => t4 (by omega), fun h => t5 (by omega)⟩
  rw [t1, headTo_next0 w h h1 h2]
  simp
theorem Told.next_w {bs : By} {w h : Int} {l b r : By} (t : Told bs 1 w h l) (hl : l = (headAt 1 ++ b) ++ 10 :: r) {n : Int} {er : Nat} (hr : IsRead b 1 64 n er) (hn : ¬ n = 0) : Told bs 2 n h r := by
  obtain ⟨t1, t2, t3, t4, t5⟩ := t
  obtain ⟨h1, rfl⟩ := side_some hr hn
  subst hl
  refine ⟨?_, fun h => by omega, fun _ => h1, fun h => t4 (by omega), fun h => by omega⟩
  have e : headTo w h 1 = headTo n h 1 := rfl
  rw [t1, headTo_next1 n h rfl, e]
  simp
theorem Told.next_h {bs : By} {w h : Int} {l b r : By} (t : Told bs 2 w h l) (hl : l = (headAt 2 ++ b) ++ 10 :: r) {n : Int} {er : Nat} (hr : IsRead b 1 64 n er) (hn : ¬ n = 0) : Told bs 3 w n r := by
  obtain ⟨t1, t2, t3, t4, t5⟩ := t
  obtain ⟨h1, rfl⟩ := side_some hr hn
  subst hl
  refine ⟨?_, fun h => by omega, fun _ => t3 (by omega), fun h => by omega, fun _ => h1⟩
  have e : headTo w h 2 = headTo w n 2 := rfl
  rw [t1, headTo_next2 w n rfl, e]
  simp
theorem Told.all {bs : By} {w h : Int} {l : By} (t : Told bs 7 w h l) : bs = headOf w h ++ l ∧ (1 ≤ w ∧ w ≤ 64) ∧ (1 ≤ h ∧ h ≤ 64) := by
  obtain ⟨t1, t2, t3, t4, t5⟩ := t
  exact ⟨by rw [t1, headTo_all], t3 (by omega), t5 (by omega)⟩
end Go.Proofs.YtchfbpgbojnakaaDoor
/- Rasters: what the library answers of a line's beginning; a side that is told: the program's own side. -/

namespace Go.Proofs.YtchfbpgbojnakaaDoor
open Go.RowKit Go.Shelf

theorem bytesIn_of {w : World} {B : Nat} {p : Option Addr} {l : By} (h : RdV w B p (bcells l)) : Lib.BytesIn w p l.length (ofB l) := fun hn => by
  obtain ⟨b, o, e, -, -⟩ := h (by rw [bcells_length]; exact hn)
  subst e
  exact ⟨b, o, rfl, h.ofBs⟩
/-- bytes.CutPrefix at a beginning that is not empty -/
theorem prefix_yes (B : Nat) (p : Option Addr) (c : Nat) (a b : By) (p2 : Option Addr) (c2 : Nat) (w : World) (h1 : RdV w B p (bcells (a ++ b))) (hc : (a ++ b).length ≤ c) (B2 : Nat) (h2 : RdV w B2 p2 (bcells a)) (ha : 0 < a.length) :
    Calls Tryd.prog 32 #[.slice p (a ++ b).length c, .slice p2 a.length c2] w fun e w' => (∃ p' c', e = .returned (.tuple #[.slice p' b.length c', .bool true]) ∧ RdV w B p' (bcells b)) ∧ w = w' := by
  obtain ⟨g, o, e, -, -⟩ := h1 (by rw [bcells_length, List.length_append]; omega)
  subst e
  refine (Tryd.bytes_CutPrefix_all (some ⟨g, o, none⟩) p2 (a ++ b).length c a.length c2 (ofB (a ++ b)) (ofB a) w (ofB_length _) (ofB_length _) hc (bytesIn_of h1) (bytesIn_of h2)).mono fun e w' ⟨he, hw⟩ => ⟨?_, hw.symm⟩
  have hp : Lib.hasPrefix (Lib.bytesOf (ofB (a ++ b))) (Lib.bytesOf (ofB a)) = true := by
    rw [bytesOf_ofB, bytesOf_ofB]
    unfold Lib.hasPrefix
    rw [List.isPrefixOf_iff_prefix]
    exact List.prefix_append a b
  have hl : (ofB a) ≠ [] := fun e => by have := congrArg List.length e; rw [ofB_length] at this; simp at this; simp [this] at ha
  have ht : Lib.trimPrefixV (some ⟨g, o, none⟩) (a ++ b).length c (ofB (a ++ b)) (ofB a) = Lib.sliceFrom g o (a ++ b).length c a.length := by
    cases hx : ofB a with
    | nil => exact absurd hx hl
    | cons y ys =>
      rw [← hx]
      unfold Lib.trimPrefixV
      rw [hx]
      simp only []
      rw [← hx]
      unfold Lib.bytesTrimPrefix
      rw [if_pos hp, ofB_length]
  have hd := h1.drop (n := a.length) (cap := c) (by rw [bcells_length]; exact hc)
  rw [show (bcells (a ++ b)).drop a.length = bcells b by simp [bcells, List.drop_left']] at hd
  rw [he, ht, hp]
  unfold Lib.sliceFrom
  rw [show (a ++ b).length - a.length = b.length by simp]
  refine ⟨_, _, rfl, ?_⟩
  split
  · rename_i e; rw [if_pos e] at hd; exact hd
  · rename_i e; rw [if_neg e] at hd; simpa [addr_add] using hd
theorem prefix_no (B : Nat) (p : Option Addr) (c : Nat) (a l : By) (p2 : Option Addr) (c2 : Nat) (w : World) (h1 : RdV w B p (bcells l)) (hc : l.length ≤ c) (B2 : Nat) (h2 : RdV w B2 p2 (bcells a)) (ha : ¬ a <+: l) :
    Calls Tryd.prog 32 #[.slice p l.length c, .slice p2 a.length c2] w fun e w' => (∃ v, e = .returned (.tuple #[v, .bool false])) ∧ w = w' := by
  refine (Tryd.bytes_CutPrefix_all p p2 l.length c a.length c2 (ofB l) (ofB a) w (ofB_length _) (ofB_length _) hc (bytesIn_of h1) (bytesIn_of h2)).mono fun e w' ⟨he, hw⟩ => ⟨⟨Lib.trimPrefixV p l.length c (ofB l) (ofB a), ?_⟩, hw.symm⟩
  have hp : Lib.hasPrefix (Lib.bytesOf (ofB l)) (Lib.bytesOf (ofB a)) = false := by
    rw [bytesOf_ofB, bytesOf_ofB]
    unfold Lib.hasPrefix
    rw [Bool.eq_false_iff]
    intro e
    exact ha (List.isPrefixOf_iff_prefix.1 e)
  rw [he, hp]

set_option maxRecDepth 10000 in
theorem pam_side (B : Nat) (p : Option Addr) (c : Nat) (t : By) (ht : t.length ≤ 281474976710656) (w : World) (h : RdV w B p (bcells t)) (hR : Rng w) :
    Calls Tryd.prog 33 #[.slice p t.length c] w fun e w' => (∃ (n : Int) (k : Nat), e = .returned (.int .i64 n) ∧ IsRead t 1 64 n k) ∧ Below w.heap.size w w' := by
  have hcv := conv_by h c
  have cR := Lib.hid (fun V (hV : Below w.heap.size w V) => fig_Read (str t) (by rw [str_size]; exact ht) 1 64 (by omega) (by omega) V (hR.on hV))
  clear h hR
  go_enter Tryd.func33, Tryd.ntmps33
  go_wp2_with (go_at_call 39; with_reducible refine Calls.mono (cR.out _ (Below.refl _ _)) ?_; rintro e w1 ⟨⟨n, k, rfl, hr⟩, b1⟩
               replace hr := Lib.hid hr)
  go_ret
  exact ⟨⟨_, k, rfl, by have h := hr.out; simpa [str] using h⟩, b1⟩
end Go.Proofs.YtchfbpgbojnakaaDoor
