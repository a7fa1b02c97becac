/- What the document's own Parse answers. -/
import Derived.Test.YtdmoibphidipeaaGreatDoorZOaB
import Derived.Test.YtdmoibphidipeaaGreatDoorZRefY
import Derived.Test.YtdmoibphidipeaaGreatDoorZRefX
import Derived.Deep.RegionHeld3
import Derived.Deep.RegionWith
import Derived.Deep.CutRange
import Derived.Lib.ItoaMem
import Derived.Test.YtdmoibphidipeaaGreatDoorZOaC
import Derived.Test.YtdmoibphidipeaaGreatDoorZWhX
namespace Go.Proofs.YtdmoibphidipeaaGreatDoor
open Go.RowKit Num

theorem row_one (w : World) (t : TypeId) (n : Nat) : Row (w.alloc (.cells #[.int .u32 (n : Int)] t)) w.heap.size t .u32 [n] := Row.new w t .u32 [n]
end Go.Proofs.YtdmoibphidipeaaGreatDoor
/- What the document's own Text answers. -/

namespace Go.Proofs.YtdmoibphidipeaaGreatDoor
open Go.RowKit Num

theorem app_text {b : UInt8} {t : ByteArray} {l : List UInt8} (h : l = b :: t.data.toList) : ((⟨#[b]⟩ : ByteArray) ++ t) = ⟨l.toArray⟩ := by
  apply ByteArray.ext
  rw [ByteArray.data_append, h]
  apply Array.ext'
  simp

end Go.Proofs.YtdmoibphidipeaaGreatDoor
/- What the program's own Text answers. -/

namespace Go.Proofs.YtdmoibphidipeaaGreatDoor
open Go.RowKit Num

theorem chunk_step {cs : List Nat} {N X : Nat} (h : N = val 1000000000 cs + 1000000000 ^ cs.length * X) :
    N = val 1000000000 (cs ++ [X % 1000000000]) + 1000000000 ^ (cs ++ [X % 1000000000]).length * (X / 1000000000) := by
  rw [val_snoc, List.length_append, List.length_singleton, Nat.pow_succ]
  have e := Nat.div_add_mod X 1000000000
  generalize X % 1000000000 = r at *
  generalize X / 1000000000 = q at *
  generalize 1000000000 ^ cs.length = P at *
  subst e
  rw [h]
  grind
theorem chunk_len {cs : List Nat} {N X n : Nat} (h : N = val 1000000000 cs + 1000000000 ^ cs.length * X) (hX : 0 < X) (hN : N < 4294967296 ^ n) : cs.length ≤ 2 * n := by
  have h1 : 1000000000 ^ cs.length * 1 ≤ 1000000000 ^ cs.length * X := Nat.mul_le_mul_left _ hX
  have h2 : (4294967296 : Nat) ^ n ≤ (1000000000 ^ 2) ^ n := Nat.pow_le_pow_left (by decide) n
  rw [← Nat.pow_mul] at h2
  have h3 : 1000000000 ^ cs.length < 1000000000 ^ (2 * n) := by omega
  exact Nat.le_of_lt ((Nat.pow_lt_pow_iff_right (show 1 < 1000000000 by omega)).1 h3)
theorem dec_chunk {cs : List Nat} {i : Nat} (hd : Dg 1000000000 cs) (hi : i < cs.length) (hM : 0 < val 1000000000 (cs.drop (i + 1))) :
    Lib.decDigits (val 1000000000 (cs.drop i)) = Lib.decDigits (val 1000000000 (cs.drop (i + 1))) ++ (List.replicate (9 - (Lib.decDigits cs[i]).length) 48 ++ Lib.decDigits cs[i]) := by
  have h := val_drop_succ (b := 1000000000) hi
  have hc := hd.get hi
  rw [h, ← pad_eq 9 cs[i] hc (by omega), ← dec_split 9 _ cs[i] hM hc]
  congr 1
  omega
theorem val_drop_le (b i : Nat) (hb : 0 < b) (cs : List Nat) : val b (cs.drop i) ≤ val b cs := by
  rcases Nat.lt_or_ge i cs.length with h | h
  · rw [val_split (b := b) (k := i) (xs := cs) (by omega)]
    have : 1 * val b (cs.drop i) ≤ b ^ i * val b (cs.drop i) := Nat.mul_le_mul_right _ (Nat.pow_pos hb)
    omega
  · rw [List.drop_eq_nil_of_le h]; exact Nat.zero_le _
theorem own_far {w w' : World} {base : Nat} {t : TypeId} {k : IntKind} {v : Value} {xs : List Nat} {g : Nat} (h : Own w base t k v xs) (hg : w.grownBy w' (some g)) (hlt : g < base) : Own w' base t k v xs := by
  refine ⟨h.1, ?_⟩
  rcases h.2 with h2 | ⟨g', cap, cur, hv, hb, hh, r⟩
  · exact .inl h2
  · refine .inr ⟨g', cap, cur, hv, hb, ?_, r⟩
    have hl : g' < w.heap.size := by
      rcases Nat.lt_or_ge g' w.heap.size with hl | hge
      · exact hl
      · rw [Array.getElem?_eq_none hge] at hh; cases hh
    rw [hg.block g' hl (fun e => by injection e with e; omega)]; exact hh
theorem owns_below {w w' : World} {base B n : Nat} {t : TypeId} {v : Value} {xs : List Value} (h : w.ownsRow base t 1 v n xs) (hb : Below B w w') (hB : w.heap.size ≤ B) : w'.ownsRow base t 1 v n xs := by
  refine ⟨h.1, ?_⟩
  rcases h.2 with h2 | ⟨g', cap, cur, hv, hb', hh, r⟩
  · exact .inl h2
  · refine .inr ⟨g', cap, cur, hv, hb', ?_, r⟩
    have hl : g' < w.heap.size := by
      rcases Nat.lt_or_ge g' w.heap.size with hl | hge
      · exact hl
      · rw [Array.getElem?_eq_none hge] at hh; cases hh
    rw [hb.block g' (by omega)]; exact hh
theorem noughts_cells (k : Nat) : Lib.strCells (ByteArray.extract ⟨#[48, 48, 48, 48, 48, 48, 48, 48, 48]⟩ k 9) = Lib.byteCells (List.replicate (9 - k) 48) := by
  rw [Lib.strCells_eq, extract_data]
  congr 1
  show ((List.replicate 9 (48 : UInt8)).drop k).take (9 - k) = _
  rw [List.drop_replicate, List.take_replicate, Nat.min_self]

theorem info_u8 : (Tryz.prog.info? 5).map (fun i => (i.zero, i.size, i.bytes)) = some (some (.int .u8 0), 1, 1) := by kernel_rfl
/-- 'append(v, s...)', s a string -/
theorem wpList_app_str {w : World} {a : Act} {ops : Array Oper} {rest : List Oper} {o : Oper} {Q : Exit → Act → World → Prop} (hgd : o.guard = none) (sl x : Operand)
    (ho : o.op = .call { callee := .builtin .append, args := #[sl, x], argTypes := #[168, 9] })
    (base : Nat) (v : Value) (n : Nat) (xs : List Value) (hs : a.eval sl = v) (hown : w.ownsRow base 5 1 v n xs) (s : ByteArray) (hx : a.eval x = .string s) (hl : n + s.size ≤ 4294967296) (hbase : base ≤ w.heap.size)
    (h : ∀ v' w', w'.ownsRow base 5 1 v' (n + s.size) (xs ++ Lib.strCells s) → w.grownBy w' v.ownBlock → wpList Tryz.prog ops Q rest (a.put o.dst v') w') : wpList Tryz.prog ops Q (o :: rest) a w := by
  obtain ⟨i, hi, hz0, hz1, hz2⟩ := info_parts info_u8
  exact Lib.wpList_append_own_string w hgd sl x _ _ ho base 5 i Tryz.underlying168 Tryz.underlying9 hi hz0 hz1 hz2 v n xs hs hown s hx (by unfold maxLen; omega) (by omega) hbase (fun v' w' h1 h2 _ => h v' w' h1 h2)

set_option maxHeartbeats 3200000 in
theorem nat_Text (d : List Nat) (A : Option Addr) (c : Nat) (S : Nat → Prop) (w : World) (h : Rd w S .u32 A d) (hS : ∀ b, S b → b < w.heap.size) (hl : d.length ≤ 2097152) (hc : d.length ≤ c) (hd : Dg 4294967296 d) (htab : Tab w) :
    Calls Tryz.prog 130 #[.slice A d.length c] w fun e w' => e = .returned (.string ⟨(Lib.decDigits (val 4294967296 d)).toArray⟩) ∧ Below w.heap.size w w' := by
  by_cases hlt : val 4294967296 d < 18446744073709551616
  · exact nat_Text_small d A c S w h (by omega) hc hd hlt htab
  · have cu := nat_Uint d A c S w h (by omega) hc hd
    have ct := nat_Trim d A c S w h hS (by omega) hc hd
    have hval := val_lt hd
    obtain ⟨N, hN⟩ : ∃ N, val 4294967296 d = N := ⟨_, rfl⟩
    rw [hN] at cu ct hlt hval ⊢
    have HL := Lib.hid hlt
    have HV := Lib.hid hval
    clear hlt hN hval
    go_enter Tryz.func130, Tryz.ntmps130
    go_wp2_with fail
    refine cu.mono ?_
    rintro e w1 ⟨rfl, ⟨hn, rfl⟩ | ⟨hn, rfl⟩⟩
    · exact absurd hn HL.out
    · clear hn cu
      go_wp2_with fail
      refine ct.mono ?_
      rintro e w1 ⟨ys, hn, hv, hyl, hb1, ⟨rfl, rfl⟩ | ⟨hy0, g, rfl, hgw, hrow⟩⟩
      · exact absurd (show N < 18446744073709551616 by rw [← hv]; simp [val]) HL.out
      · have hgl := hrow.lt
        have HV1 := Lib.hid hv
        have HN1 := Lib.hid hn
        have HY0 := Lib.hid hy0
        clear ct hv hn hy0
        go_wp2_with fail
        go_loopg [5, 6] N (fun gh ch lf wr => ∃ (v : Value) (cs xs : List Nat) (A' : Option Addr) (c' : Nat), ch = v ∧ lf = .slice A' xs.length c' ∧ gh = val 4294967296 xs ∧ Norm 4294967296 xs ∧ xs.length ≤ c' ∧ xs.length ≤ 2097152 ∧ Dg 1000000000 cs ∧ N = val 1000000000 cs + 1000000000 ^ cs.length * val 4294967296 xs ∧ Own wr w1.heap.size 102 .u32 v cs ∧ cs.length ≤ 4194305 ∧
          ((xs = [] ∧ cs ≠ [] ∧ Top cs) ∨ (xs ≠ [] ∧ A' = some ⟨g, 0, none⟩ ∧ ∃ tl, Row wr g 102 .u32 (xs ++ tl))) ∧ Below w.heap.size w wr ∧ w1.heap.size ≤ wr.heap.size)
        case atStart => exact ⟨.slice none 0 0, [], ys, _, _, rfl, rfl, HV1.out.symm, HN1.out, Nat.le_refl _, by omega, Dg.nil _, by rw [HV1.out]; simp [val], Own.nil _ _ _ _, by simp, .inr ⟨HY0.out, rfl, [], by rw [List.append_nil]; exact hrow⟩, hb1, Nat.le_refl _⟩
        case round =>
          obtain ⟨v, cs, xs, A', c', rfl, rfl, hg, hn, hxc, hxl, hcd, hN, hown, hcl0, hcase, B, hw1⟩ := hrel
          rcases hcase with ⟨rfl, hne, htop⟩ | ⟨hx0, rfl, tl, hr⟩
          · have hlast : cs.length - 1 < cs.length := by have := List.length_pos_iff.2 hne; omega
            obtain ⟨A1, c1, rfl, hc1, -, hrd⟩ := hown.form
            obtain ⟨b1, o1, rfl, hb1', hcell0⟩ := hrd (by omega)
            have hcell := hcell0 (cs.length - 1) hlast
            have hcu := hcd.get hlast
            have hNv : N = val 1000000000 cs := by rw [hN]; simp [val]
            have hlen : ∀ i, (Lib.decDigits (val 1000000000 (cs.drop i))).length ≤ 20971521 := fun i => by
              have := dec_len_words (Nat.lt_of_le_of_lt (val_drop_le 1000000000 i (by omega) cs) (show val 1000000000 cs < _ from hNv ▸ HV.out))
              omega
            have hM0 : 0 < cs[cs.length - 1] := by
              rcases Nat.eq_zero_or_pos cs[cs.length - 1] with h0 | h0
              · refine absurd ?_ htop
                rw [List.getLast?_eq_getElem?, List.getElem?_eq_getElem hlast, h0]
              · exact h0
            have hdl : val 1000000000 (cs.drop (cs.length - 1)) = cs[cs.length - 1] := by
              rw [val_drop_succ hlast, show cs.length - 1 + 1 = cs.length by omega, List.drop_length]; simp [val]
            obtain ⟨u, hu⟩ : ∃ u, cs[cs.length - 1] = u := ⟨_, rfl⟩
            rw [hu] at hcell hcu hM0 hdl
            have hBs := B.size
            have ca := lib_AppendUint u wr.heap.size 0 (by omega) (.slice none 0 0) [] wr (World.ownsRow_nil wr wr.heap.size _ 1) (Nat.le_refl _) (by omega) (htab.on B)
            have HNV := Lib.hid hNv
            have HC0 := Lib.hid hcell0
            have HDL := Lib.hid hdl
            have HCD := Lib.hid hcd
            have HLEN := Lib.hid hlen
            clear hN hu htop hne hn hcell0 hNv hdl hcd hlen hown hxc hxl
            go_wp2_with fail
            refine ca.mono ?_
            rintro e w5 ⟨vo, rfl, hown5, hb5⟩
            go_wp2_with fail
            have hs5 := hb5.size
            obtain ⟨W, rfl⟩ : ∃ W, W = wr := ⟨_, rfl⟩
            go_loopg [8, 9] (cs.length - 1) (fun gh out i ws => ((∃ k : Nat, gh = k + 1 ∧ i = .int .i64 k) ∨ (gh = 0 ∧ i = .int .i64 (-1))) ∧ gh < cs.length ∧ 0 < val 1000000000 (cs.drop gh) ∧ ws.ownsRow W.heap.size 5 1 out (Lib.decDigits (val 1000000000 (cs.drop gh))).length (Lib.byteCells (Lib.decDigits (val 1000000000 (cs.drop gh)))) ∧ Below W.heap.size W ws)
            case atStart =>
              refine ⟨?_, by omega, by rw [HDL.out]; exact hM0, ?_, hb5⟩
              · by_cases h0 : cs.length = 1
                · refine .inr ⟨by omega, ?_⟩; congr 1; omega
                · refine .inl ⟨cs.length - 2, by omega, ?_⟩; congr 1; omega
              · rw [HDL.out]; simpa using hown5
            case round =>
              obtain ⟨⟨k, rfl, rfl⟩ | ⟨rfl, rfl⟩, hkl, hM, hown, hb⟩ := hrel
              · have hk : k < cs.length := by omega
                have hdc := dec_chunk HCD.out hk hM
                have hcell := (hb.cell (p := ⟨b1, o1 + k, none⟩) hb1'.2).trans (HC0.out k hk)
                have hq := HCD.out.get hk
                have hlen1 := HLEN.out (k + 1)
                obtain ⟨D, hD⟩ : ∃ D, Lib.decDigits (val 1000000000 (cs.drop (k + 1))) = D := ⟨_, rfl⟩
                obtain ⟨q, hqe⟩ : ∃ q, cs[k] = q := ⟨_, rfl⟩
                rw [hqe] at hdc hcell hq
                rw [hD] at hdc hlen1 hown
                have hd9 := dec_len_le 8 q (by omega)
                have hd1 := dec_len_pos q
                have Btab : Tab wr := htab.on (B.trans (hb.mono hBs))
                have cf := lib_FormatUint q (by omega) wr Btab
                have hstr : Lib.strCells ⟨(Lib.decDigits q).toArray⟩ = Lib.byteCells (Lib.decDigits q) := rfl
                have hsz : (ByteArray.mk (Lib.decDigits q).toArray).size = (Lib.decDigits q).length := by show (Lib.decDigits q).toArray.size = _; simp
                obtain ⟨dq, hdq⟩ : ∃ dq, ByteArray.mk (Lib.decDigits q).toArray = dq := ⟨_, rfl⟩
                rw [hdq] at cf hstr hsz
                obtain ⟨m, hm⟩ : ∃ m, (Lib.decDigits q).length = m := ⟨_, rfl⟩
                rw [hm] at hdc hd9 hd1 hsz
                have HDC := Lib.hid hdc
                have HSTR := Lib.hid hstr
                have HM := Lib.hid hM
                have HMM := Lib.hid hm
                clear hD hqe hdc hstr hM hdq hm
                go_wp2_with fail
                refine cf.mono ?_
                rintro e w6 ⟨rfl, hb6⟩
                have hs1 := hb.size
                have hs6 := hb6.size
                have hown6 := owns_below hown hb6 (Nat.le_refl _)
                have hb26 : Below W.heap.size W w6 := hb.trans (hb6.mono hs1)
                clear hown hb6 hb cf hcell
                have hz : (ByteArray.extract ⟨#[48, 48, 48, 48, 48, 48, 48, 48, 48]⟩ m 9).size = 9 - m := extract_size _ (by decide)
                go_wp2_with (at_builtin; first
                  | (refine wpList_app_str rfl _ _ rfl W.heap.size _ _ _ rfl hown7 dq rfl (by rw [hz, hsz]; omega) (by have := hgrow7.size; omega) ?_; intro v8 w8 hown8 hgrow8)
                  | (refine wpList_app_str rfl _ _ rfl W.heap.size _ _ _ rfl hown6 (ByteArray.extract ⟨#[48, 48, 48, 48, 48, 48, 48, 48, 48]⟩ m 9) rfl (by rw [hz]; omega) (by omega) ?_; intro v7 w7 hown7 hgrow7))
                go_roundg k
                case measure => omega
                case rel =>
                  have hN8 : D.length + (ByteArray.extract ⟨#[48, 48, 48, 48, 48, 48, 48, 48, 48]⟩ m 9).size + dq.size = (Lib.decDigits (val 1000000000 (cs.drop k))).length := by
                    rw [HDC.out, hz, hsz, List.length_append, List.length_append, List.length_replicate, HMM.out]; omega
                  have hC8 : Lib.byteCells D ++ Lib.strCells (ByteArray.extract ⟨#[48, 48, 48, 48, 48, 48, 48, 48, 48]⟩ m 9) ++ Lib.strCells dq = Lib.byteCells (Lib.decDigits (val 1000000000 (cs.drop k))) := by
                    rw [HDC.out, HSTR.out, noughts_cells, Lib.byteCells_append, Lib.byteCells_append, List.append_assoc]
                  have hb7 := hb26.grown hgrow7 (by omega) (fun q e => (World.ownsRow.lt hown6 q e).1)
                  have hs7 := hb7.size
                  rw [hN8, hC8] at hown8
                  refine ⟨?_, by omega, ?_, hown8, hb7.grown hgrow8 (by omega) (fun q e => (World.ownsRow.lt hown7 q e).1)⟩
                  · by_cases h0 : k = 0
                    · subst h0; exact .inr ⟨rfl, by go_num⟩
                    · exact .inl ⟨k - 1, by omega, by go_num⟩
                  · rw [val_drop_succ hk]
                    have := HM.out
                    omega
              · rw [List.drop_zero, ← HNV.out] at hM hown
                have hd1 := dec_len_pos N
                obtain ⟨g2, cap2, rfl, hg2, hg2'⟩ := hown.form (by omega)
                have hcells := hown.cells (g := g2) rfl
                have hcv := run_convert_bytes_back (P := Tryz.prog) wr 168 9 5 ⟨g2, 0, none⟩ cap2 (Lib.decDigits N) Tryz.underlying168 Tryz.underlying5 Tryz.underlying9 (fun j hj => hcells j _ (by simp [Lib.byteCells, hj]))
                obtain ⟨L, hL⟩ : ∃ L, (Lib.decDigits N).length = L := ⟨_, rfl⟩
                rw [hL] at hcv
                have BB : Below w.heap.size w wr := B.trans (hb.mono hBs)
                clear hown hcells hM hd1
                go_wp2_with fail
                go_ret
                exact ⟨rfl, BB⟩
          · have hpos : 0 < val 4294967296 xs := by
              rcases Nat.eq_zero_or_pos (val 4294967296 xs) with h0 | h0
              · exact absurd ((hn.2.nil_iff (b := 4294967296) (by omega)).2 h0) hx0
              · exact h0
            have hcl := chunk_len hN hpos HV.out
            have hstep := chunk_step hN
            obtain ⟨X, hX⟩ : ∃ X, val 4294967296 xs = X := ⟨_, rfl⟩
            have cdw := nat_divWord xs tl g c' 1000000000 _ wr hr (by omega) hn.1 (by omega) (by omega)
            rw [hX] at hpos hg hstep cdw
            subst hg
            have hrl : gk % 1000000000 < 1000000000 := Nat.mod_lt _ (by omega)
            have hx1 : 0 < xs.length := by rcases Nat.eq_zero_or_pos xs.length with h0 | h0; exact absurd (List.eq_nil_of_length_eq_zero h0) hx0; exact h0
            have HG := Lib.hid hpos
            have HST := Lib.hid hstep
            have HOW := Lib.hid hown
            have hBs := B.size
            clear hN hX hstep hn hr hx0 hpos hown
            go_wp2_with fail
            refine cdw.mono ?_
            rintro e w5 ⟨rfl, es, hel, hed, hev, hr5, hgr5⟩
            have hown5 := own_far HOW.out hgr5 hgl
            have B5 : Below w.heap.size w w5 := below_grown B hgr5 hBs hgw
            have hs5 := hgr5.size
            have HEV := Lib.hid hev
            have HEL := Lib.hid hel
            clear hgr5 hev cdw hel
            have hmm : ((gk % 1000000000 : Nat) : Int) % 4294967296 = ((gk % 1000000000 : Nat) : Int) := by omega
            go_wp2_with (at_builtin; refine wpList_app rfl _ _ _ rfl w1.heap.size 102 .u32 4 Tryz.underlying35 info_u32 u5 cs rfl (hown5.alloc _) w5.heap.size 1 1 [gk % 1000000000] rfl rfl (by unfold Row; rw [heap_alloc_new]; simp [cells]) (by omega) (by simp; omega) (by omega) (by simp; omega) ?_; intro v1 w6 hown6 hgrow)
            have hrow6 : Row w6 g 102 .u32 (es ++ tl) := (hr5.alloc _).grown hgrow (fun e => by have := hown5.block_ge g e.symm; omega)
            have B6 : Below w.heap.size w w6 := below_app (B5.alloc (by omega) _) hgrow (hown5.alloc _) (by simp; omega) (by omega)
            have hs6 : w5.heap.size + 1 ≤ w6.heap.size := by have := hgrow.size; simpa using this
            have hes := HEL.out
            have cct := nat_cut es (some ⟨g, 0, none⟩) c' (fun _ => True) w6 (by have := hrow6.rd (S := fun _ => True) trivial (off := 0) (n := es.length) (by simp); simpa using this) (by omega) (by omega) hed
            rw [hes] at cct
            have HES := Lib.hid hes
            have HO6 := Lib.hid hown6
            have HR6 := Lib.hid hrow6
            clear hgrow hown5 hr5 hrow6 hown6 hes
            go_wp2_with fail
            refine cct.mono ?_
            rintro e w7 ⟨zs, A7, c7, rfl, ⟨hz1, hz2, hz3, hzn, hzv, hz4⟩, hrd7, rfl⟩
            have HZ3 := Lib.hid hz3
            have HZN := Lib.hid hzn
            have HZV := Lib.hid (hzv.trans HEV.out)
            have HZ4 := Lib.hid hz4
            clear hz3 hzn hzv hz4 hrd7 cct
            go_wp2_with fail
            go_roundg (gk / 1000000000)
            case measure => have := HG.out; omega
            case rel =>
              have hst := HST.out
              refine ⟨v1, cs ++ [gk % 1000000000], zs, A7, c7, rfl, rfl, HZV.out.symm, HZN.out, hz1, by have := HES.out; omega, hcd.snoc hrl, by rw [HZV.out]; exact hst, HO6.out, by simp; omega, ?_, B6, by omega⟩
              rcases HZ4.out with ⟨rfl, h2, h3⟩ | ⟨hz, rfl, rfl⟩
              · refine .inl ⟨rfl, by simp, top_snoc ?_⟩
                have h1 : 0 = gk / 1000000000 := HZV.out
                have := HG.out
                omega
              · refine .inr ⟨hz, rfl, es.drop zs.length ++ tl, ?_⟩
                have h1 := HR6.out
                rw [← List.take_append_drop zs.length es, ← HZ3.out, List.append_assoc] at h1
                exact h1
end Go.Proofs.YtdmoibphidipeaaGreatDoor
/- Whole numbers: what Div answers. -/

namespace Go.Proofs.YtdmoibphidipeaaGreatDoor
open Go.RowKit Num

/-- two arguments in their boxes, and two results' places -/
def Four (w : World) (g : Nat) (n1 n2 : Bool) (v1 v2 : Value) : Prop :=
  w.heap[g]? = some (.cells #[.bool n1, v1] 37 (0, 0)) ∧ w.heap[g + 1]? = some (.cells #[.bool n2, v2] 37 (0, 0)) ∧ w.heap[g + 1 + 1]? = some (.cells #[.bool false, .slice none 0 0] 37 (0, 0)) ∧ w.heap[g + 1 + 1 + 1]? = some (.cells #[.bool false, .slice none 0 0] 37 (0, 0)) ∧ g + 4 ≤ w.heap.size
theorem Four.on {w w' : World} {g : Nat} {n1 n2 : Bool} {v1 v2 : Value} (h : Four w g n1 n2 v1 v2) (hb : Below w.heap.size w w') : Four w' g n1 n2 v1 v2 := by
  obtain ⟨h0, h1, h2, h3, h4⟩ := h
  exact ⟨(hb.block _ (by omega)).trans h0, (hb.block _ (by omega)).trans h1, (hb.block _ (by omega)).trans h2, (hb.block _ (by omega)).trans h3, Nat.le_trans h4 hb.size⟩
theorem Four.boxes {w : World} {g : Nat} {n1 n2 : Bool} {v1 v2 : Value} (h : Four w g n1 n2 v1 v2) :
    w.cell? ⟨g, 0, none⟩ = some (.bool n1) ∧ w.cell? ⟨g, 1, none⟩ = some v1 ∧ w.cell? ⟨g + 1, 0, none⟩ = some (.bool n2) ∧ w.cell? ⟨g + 1, 1, none⟩ = some v2 := by
  obtain ⟨h0, h1, h2, h3, h4⟩ := h
  exact ⟨by rw [cell_of_row _ _ _ _ _ _ h0]; rfl, by rw [cell_of_row _ _ _ _ _ _ h0]; rfl, by rw [cell_of_row _ _ _ _ _ _ h1]; rfl, by rw [cell_of_row _ _ _ _ _ _ h1]; rfl⟩
end Go.Proofs.YtdmoibphidipeaaGreatDoor
/- Whole numbers: what Of, Int, Text answer. -/

namespace Go.Proofs.YtdmoibphidipeaaGreatDoor
open Go.RowKit Num

theorem wrap_back (m : Nat) (h : m < 18446744073709551616) : IntKind.u64.wrap (-IntKind.u64.wrap (-(m : Int))) = m := by
  simp [IntKind.wrap, IntKind.bits, IntKind.signed]
  omega

set_option maxRecDepth 10000 in
set_option maxHeartbeats 1600000 in
theorem whole_Of (n : Int) (hn1 : -9223372036854775808 ≤ n) (hn2 : n ≤ 9223372036854775807) (w : World) :
    Calls Tryz.prog 115 #[.int .i64 n] w (GivesW n w) := by
  by_cases hneg : n < 0
  · obtain ⟨m, rfl⟩ : ∃ m : Nat, n = -(m : Int) := ⟨(-n).toNat, by omega⟩
    go_enter Tryz.func115, Tryz.ntmps115
    go_wp2_with fail
    rw [wrap_back m (by omega)]
    have B0 := below_new w (.cells #[.bool false, .slice none 0 0] 37)
    refine (nat_Of m (by omega) _).mono ?_
    rintro e w1 ⟨A1, xs, c1, rfl, hc1, hn1, hv1, hr1, hb1⟩
    have HN := Lib.hid hn1
    have HV := Lib.hid (show wv true xs = -(m : Int) by rw [wv_true, hv1])
    clear hn1 hv1
    go_wp2_with fail
    refine (whole_own true xs A1 c1 (-(m : Int)) _ HN.out HV.out).mono ?_
    rintro e w2 ⟨rfl, hb2⟩
    have b2 := hb1.trans (hb2.mono hb1.size)
    obtain ⟨f0, f1, f2, f3⟩ := new_whole w b2
    obtain ⟨d, hd⟩ : ∃ d, decide (-(m : Int) < 0) = d := ⟨_, rfl⟩
    have HD := Lib.hid hd
    rw [hd]
    clear hd
    go_wp2_with fail
    obtain ⟨r0, r1, r2, r3⟩ := stored_whole f0 (.bool d) (.slice A1 xs.length c1)
    refine bodyPost_ret (v := .agg #[.bool d, .slice A1 xs.length c1]) (by simp [results, Tryz.results115, go_sem, r0, r1]) rfl ?_
    rw [← HD.out]
    exact gives_stored f0 (B0.trans (b2.mono B0.size)) (Nat.le_refl _) hc1 HN.out (abs_of HV.out) (hr1.on hb2) _ _
  · obtain ⟨m, rfl⟩ : ∃ m : Nat, n = (m : Int) := ⟨n.toNat, by omega⟩
    go_enter Tryz.func115, Tryz.ntmps115
    go_wp2_with fail
    have B0 := below_new w (.cells #[.bool false, .slice none 0 0] 37)
    refine (nat_Of m (by omega) _).mono ?_
    rintro e w1 ⟨A1, xs, c1, rfl, hc1, hn1, hv1, hr1, hb1⟩
    have HN := Lib.hid hn1
    have HV := Lib.hid (show wv false xs = (m : Int) by rw [wv_false, hv1])
    clear hn1 hv1
    go_wp2_with fail
    refine (whole_own false xs A1 c1 (m : Int) _ HN.out HV.out).mono ?_
    rintro e w2 ⟨rfl, hb2⟩
    have b2 := hb1.trans (hb2.mono hb1.size)
    obtain ⟨f0, f1, f2, f3⟩ := new_whole w b2
    obtain ⟨d, hd⟩ : ∃ d, decide ((m : Int) < 0) = d := ⟨_, rfl⟩
    have HD := Lib.hid hd
    rw [hd]
    clear hd
    go_wp2_with fail
    obtain ⟨r0, r1, r2, r3⟩ := stored_whole f0 (.bool d) (.slice A1 xs.length c1)
    refine bodyPost_ret (v := .agg #[.bool d, .slice A1 xs.length c1]) (by simp [results, Tryz.results115, go_sem, r0, r1]) rfl ?_
    rw [← HD.out]
    exact gives_stored f0 (B0.trans (b2.mono B0.size)) (Nat.le_refl _) hc1 HN.out (abs_of HV.out) (hr1.on hb2) _ _
end Go.Proofs.YtdmoibphidipeaaGreatDoor
/- Whole numbers: what Int answers. -/

namespace Go.Proofs.YtdmoibphidipeaaGreatDoor
open Go.RowKit Num

end Go.Proofs.YtdmoibphidipeaaGreatDoor
/- Whole numbers: what Text answers. -/

namespace Go.Proofs.YtdmoibphidipeaaGreatDoor
open Go.RowKit Num

/-- a whole number's text -/
def wtext (N : Int) : List UInt8 := if N < 0 then 45 :: Lib.decDigits N.natAbs else Lib.decDigits N.natAbs

set_option maxRecDepth 10000 in
set_option maxHeartbeats 1600000 in
theorem whole_textAbove (t : Bool) (a : List Nat) (A : Option Addr) (ca : Nat) (w : World) (h : Rd w (fun g => g < w.heap.size) .u32 A a) (hl : a.length ≤ 2097152) (hc : a.length ≤ ca) (ha : Dg 4294967296 a) (htab : Tab w) :
    Calls Tryz.prog 169 #[.agg #[.bool t, .slice A a.length ca]] w fun e w' => e = .returned (.string ⟨(Lib.decDigits (val 4294967296 a)).toArray⟩) ∧ Below w.heap.size w w' := by
  have B0 := below_new w (.cells #[.bool t, .slice A a.length ca] 135)
  have cT := nat_Text a A ca _ _ (h.on B0) (fun b hb => hb) hl hc ha (htab.on B0)
  obtain ⟨s, hs⟩ : ∃ s, (⟨(Lib.decDigits (val 4294967296 a)).toArray⟩ : ByteArray) = s := ⟨_, rfl⟩
  rw [hs] at cT ⊢
  clear hs
  go_enter Tryz.func169, Tryz.ntmps169
  go_wp2_with fail
  refine cT.mono ?_
  rintro e w1 ⟨rfl, b1⟩
  clear cT
  go_wp2_with fail
  go_ret
  exact ⟨rfl, B0.trans (b1.mono B0.size)⟩

set_option maxRecDepth 10000 in
set_option maxHeartbeats 1600000 in
theorem whole_textBelow (t : Bool) (a : List Nat) (A : Option Addr) (ca : Nat) (w : World) (h : Rd w (fun g => g < w.heap.size) .u32 A a) (hl : a.length ≤ 2097152) (hc : a.length ≤ ca) (ha : Dg 4294967296 a) (htab : Tab w) :
    Calls Tryz.prog 170 #[.agg #[.bool t, .slice A a.length ca]] w fun e w' => e = .returned (.string ⟨(45 :: Lib.decDigits (val 4294967296 a)).toArray⟩) ∧ Below w.heap.size w w' := by
  have B0 := below_new w (.cells #[.bool t, .slice A a.length ca] 135)
  have cT := nat_Text a A ca _ _ (h.on B0) (fun b hb => hb) hl hc ha (htab.on B0)
  have hlen := dec_len_words (val_lt ha)
  obtain ⟨ds, hds⟩ : ∃ ds, Lib.decDigits (val 4294967296 a) = ds := ⟨_, rfl⟩
  rw [hds] at hlen
  have hl2 : 1 + ds.length ≤ 9223372036854775807 := by omega
  clear hlen
  rw [hds] at cT ⊢
  clear hds
  go_enter Tryz.func170, Tryz.ntmps170
  go_wp2_with fail
  refine cT.mono ?_
  rintro e w1 ⟨rfl, b1⟩
  clear cT
  go_wp2_with fail
  go_ret
  exact ⟨by rw [app_text (l := 45 :: ds) (by simp)]; rfl, B0.trans (b1.mono B0.size)⟩

set_option maxRecDepth 10000 in
set_option maxHeartbeats 1600000 in
theorem whole_Text (n1 : Bool) (a : List Nat) (A : Option Addr) (ca : Nat) (w : World) (h : Rd w (fun g => g < w.heap.size) .u32 A a) (hl : a.length ≤ 2097152) (hc : a.length ≤ ca) (ha : Dg 4294967296 a) (htab : Tab w) :
    Calls Tryz.prog 129 #[.agg #[.bool n1, .slice A a.length ca]] w fun e w' => e = .returned (.string ⟨(wtext (wv n1 a)).toArray⟩) ∧ Below w.heap.size w w' := by
  have B0 := below_new w (.cells #[.bool n1, .slice A a.length ca] 37)
  have cH := whole_hold n1 a A ca _ (h.on B0) (by omega) hc ha
  by_cases hneg : wv n1 a < 0
  · have cI : ∀ W, Below w.heap.size w W → Calls Tryz.prog 170 #[.agg #[.bool true, .slice A a.length ca]] W fun e w' => e = .returned (.string ⟨(45 :: Lib.decDigits (val 4294967296 a)).toArray⟩) ∧ Below W.heap.size W w' := fun W hW =>
      whole_textBelow true a A ca W (h.on hW) hl hc ha (htab.on hW)
    rw [decide_eq_true hneg] at cH
    have HI := Lib.hid cI
    have HX := Lib.hid (show wtext (wv n1 a) = 45 :: Lib.decDigits (val 4294967296 a) by unfold wtext; rw [if_pos hneg, wv_abs])
    rw [HX.out]
    clear cI hneg
    go_enter Tryz.func129, Tryz.ntmps129
    go_wp2_with fail
    refine cH.mono ?_
    rintro e w1 ⟨rfl, b1⟩
    clear cH
    go_wp2_with fail
    have B1 := B0.trans (b1.mono B0.size)
    have B2 := B1.trans ((below_new w1 (.cells #[.bool true, .slice A a.length ca] 135)).mono B1.size)
    refine (HI.out _ B2).mono ?_
    rintro e w2 ⟨rfl, b2⟩
    go_wp2_with fail
    go_ret
    exact ⟨rfl, B2.trans (b2.mono B2.size)⟩
  · have cI : ∀ W, Below w.heap.size w W → Calls Tryz.prog 169 #[.agg #[.bool false, .slice A a.length ca]] W fun e w' => e = .returned (.string ⟨(Lib.decDigits (val 4294967296 a)).toArray⟩) ∧ Below W.heap.size W w' := fun W hW =>
      whole_textAbove false a A ca W (h.on hW) hl hc ha (htab.on hW)
    rw [decide_eq_false hneg] at cH
    have HI := Lib.hid cI
    have HX := Lib.hid (show wtext (wv n1 a) = Lib.decDigits (val 4294967296 a) by unfold wtext; rw [if_neg hneg, wv_abs])
    rw [HX.out]
    clear cI hneg
    go_enter Tryz.func129, Tryz.ntmps129
    go_wp2_with fail
    refine cH.mono ?_
    rintro e w1 ⟨rfl, b1⟩
    clear cH
    go_wp2_with fail
    have B1 := B0.trans (b1.mono B0.size)
    have B2 := B1.trans ((below_new w1 (.cells #[.bool false, .slice A a.length ca] 135)).mono B1.size)
    refine (HI.out _ B2).mono ?_
    rintro e w2 ⟨rfl, b2⟩
    go_wp2_with fail
    go_ret
    exact ⟨rfl, B2.trans (b2.mono B2.size)⟩
end Go.Proofs.YtdmoibphidipeaaGreatDoor
