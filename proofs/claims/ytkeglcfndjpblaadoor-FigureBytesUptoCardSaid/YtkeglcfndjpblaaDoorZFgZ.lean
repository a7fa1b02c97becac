/- A number's text, there and back: the document's own. -/
import Derived.Test.YtkeglcfndjpblaaDoorZFhX
import Derived.Test.YtkeglcfndjpblaaDoorZWrY
import Derived.Test.YtkeglcfndjpblaaDoorZWrF
import Derived.Test.YtkeglcfndjpblaaDoorZWrG
import Derived.Test.YtkeglcfndjpblaaDoorZFgY
import Derived.Deep.AppendLies
namespace Go.Proofs.YtkeglcfndjpblaaDoor
open Go.RowKit Num

theorem wv_fig {N : Int} {x : List Nat} (h : val 4294967296 x = N.natAbs) : wv (decide (N < 0)) x = N := by
  unfold wv
  by_cases h0 : N < 0
  · rw [decide_eq_true h0, if_pos rfl, h]; omega
  · rw [decide_eq_false h0, if_neg (by simp), h]; omega
theorem short_of {x : List Nat} {N : Int} (hn : Norm 4294967296 x) (h : val 4294967296 x = N.natAbs) (hs : N.natAbs < 4294967296 ^ 3) : x.length ≤ 3 :=
  hn.2.length_le (b := 4294967296) (n := 3) (by omega) (by rw [h]; exact hs)

set_option maxRecDepth 10000 in
set_option maxHeartbeats 1600000 in
theorem ref7_Num (n : Int) (hn1 : -9223372036854775808 ≤ n) (hn2 : n ≤ 9223372036854775807) (w : World) :
    Calls Tryd.prog 9 #[.int .i64 n] w fun e w' => e = .returned (.string ⟨(wtext n).toArray⟩) ∧ Below w.heap.size w w' := by
  have c1 : Calls Tryd.prog 26 #[.int .i64 n] w (fun e w' => ∃ A xs c, e = .returned (.agg #[.bool (decide (n < 0)), .slice A xs.length c]) ∧ xs.length ≤ 3 ∧ Dg 4294967296 xs ∧ wv (decide (n < 0)) xs = n ∧ Rd w' (fun g => g < w'.heap.size) .u32 A xs ∧ Below w.heap.size w w') :=
    (ref2_Of n hn1 hn2 w).mono fun e w' ⟨A, xs, c, h1, _, h3, h4, h5, h6⟩ => ⟨A, xs, c, h1, short_of h3 h4 (by omega), h3.1, wv_fig h4, h5, h6⟩
  have C1 := Lib.hid c1
  have C2 := Lib.hid (fun (V : World) (xs : List Nat) (A : Option Addr) (c : Nat) (h : Rd V (fun g => g < V.heap.size) .u32 A xs) (hl : xs.length ≤ 3) (hd : Dg 4294967296 xs) => ref2_Text (decide (n < 0)) xs A c V h (by omega) hd)
  clear c1
  obtain ⟨s, hs⟩ : ∃ s, decide (n < 0) = s := ⟨_, rfl⟩
  rw [hs] at C1 C2
  have HS := Lib.hid hs
  clear hs
  go_enter Tryd.func9, Tryd.ntmps9
  go_wp2_with first
    | (go_at_call 26; with_reducible refine Calls.mono C1.out ?_; rintro e w1 ⟨A, xs, c, rfl, hl, hd, hw, hr, b1⟩; replace hw := Lib.hid hw)
    | (go_at_call 25; with_reducible refine Calls.mono (C2.out w1 xs A c hr hl hd) ?_; rintro e w2 ⟨rfl, b2⟩)
  go_ret
  exact ⟨by rw [hw.out]; rfl, b1.trans (b2.mono b1.size)⟩

set_option maxRecDepth 10000 in
set_option maxHeartbeats 3200000 in
theorem ref7_Read (t : ByteArray) (hsz : t.size ≤ 4611686018427387904) (lo hi : Int) (hlo : -9223372036854775808 ≤ lo) (hhi : hi ≤ 9223372036854775807) (w : World) :
    Calls Tryd.prog 7 #[.string t, .int .i64 lo, .int .i64 hi] w fun e w' => (∃ (n : Int) (k : Nat), e = .returned (.tuple #[.int .i64 n, .int .i64 (k : Int)]) ∧ IsRead t.data.toList lo hi n k) ∧ Below w.heap.size w w' := by
  have hd := ref7_digits t hsz w
  by_cases hs : IsSig t.data.toList
  · have cD : Calls Tryd.prog 21 #[.string t] w fun e w' => e = .returned (.bool true) ∧ w = w' := hd.mono fun e w' ⟨⟨d, h1, h2⟩, h3⟩ => ⟨by rw [h1, h2.2 hs], h3⟩
    have CD := Lib.hid cD
    clear cD hd
    by_cases hl : 20 < t.size
    · have HF := Lib.hid (show IsRead t.data.toList lo hi 0 4 from .inr (.inl ⟨hs, fun h => by have := sig_far hs (by rw [str_len]; exact hl); omega, rfl, rfl⟩))
      clear hs
      go_enter Tryd.func7, Tryd.ntmps7
      go_wp2_with (go_at_call 21; with_reducible refine Calls.mono CD.out ?_; rintro e w1 ⟨rfl, rfl⟩)
      go_ret2
      exact ⟨⟨0, 4, rfl, HF.out⟩, Below.refl _ _⟩
    · have hl20 : t.data.toList.length ≤ 20 := by rw [str_len]; omega
      obtain ⟨N, hN⟩ : ∃ N, sigVal t.data.toList = N := ⟨_, rfl⟩
      have cP : Calls Tryd.prog 22 #[.string t] w (fun e w' => ∃ A xs c, e = .returned (.tuple #[.agg #[.bool (decide (N < 0)), .slice A xs.length c], .int .i64 0]) ∧ xs.length ≤ 3 ∧ Dg 4294967296 xs ∧ wv (decide (N < 0)) xs = N ∧ Rd w' (fun g => g < w'.heap.size) .u32 A xs ∧ Below w.heap.size w w') :=
        (ref2_Parse t (by omega) w).mono fun e w' ⟨A, xs, c, er, M, h1, _, h3, h4, h5, h6, h7⟩ => by
          obtain ⟨rfl, rfl⟩ := sig_parse h5 hs hl20
          rw [hN] at h1 h4
          exact ⟨A, xs, c, h1, short_of h3 h4 (by rw [← hN]; exact sig_near hs hl20), h3.1, wv_fig h4, h6, h7⟩
      have CP := Lib.hid cP
      have HS := Lib.hid (And.intro hs hN)
      obtain ⟨s, hss⟩ : ∃ s, decide (N < 0) = s := ⟨_, rfl⟩
      rw [hss] at CP
      clear cP hs hN hl20 hss
      have C2 := Lib.hid (fun (V : World) (xs : List Nat) (A : Option Addr) (c : Nat) (h : Rd V (fun g => g < V.heap.size) .u32 A xs) (hl : xs.length ≤ 3) (hd : Dg 4294967296 xs) => ref2_Int s xs A c V h (by omega) hd)
      go_enter Tryd.func7, Tryd.ntmps7
      go_upto_region 6 with first
        | (go_at_call 21; with_reducible refine Calls.mono CD.out ?_; rintro e w1 ⟨rfl, rfl⟩)
        | (go_at_call 22; with_reducible refine Calls.mono CP.out ?_; rintro e w1 ⟨A, xs, c, rfl, hxl, hd, hw, hr, b1⟩; replace hw := Lib.hid hw)
      have bW := below_new w1 (.cells #[.bool s, .slice A xs.length c] 54)
      have hc0 : (w1.alloc (.cells #[.bool s, .slice A xs.length c] 54)).cell? ⟨w1.heap.size, 0, none⟩ = some (.bool s) := by simp [World.cell?_alloc_new]
      have hc1 : (w1.alloc (.cells #[.bool s, .slice A xs.length c] 54)).cell? ⟨w1.heap.size, 1, none⟩ = some (.slice A xs.length c) := by simp [World.cell?_alloc_new]
      generalize w1.alloc (.cells #[.bool s, .slice A xs.length c] 54) = W at *
      have cI := C2.out W xs A c (hr.on bW) hxl hd
      rw [hw.out] at cI
      have HB := Lib.hid (b1.trans (bW.mono b1.size))
      clear bW hr hxl hd C2 CP CD b1
      by_cases hin : -9223372036854775808 ≤ N ∧ N ≤ 9223372036854775807
      · have cI2 : Calls Tryd.prog 23 #[.agg #[.bool s, .slice A xs.length c]] W fun e w' => e = .returned (.tuple #[.int .i64 N, .bool true]) ∧ Below W.heap.size W w' := cI.mono fun e w' ⟨h1, h2⟩ => ⟨by rw [h1, (isInt_yes hin.1 hin.2).1, (isInt_yes hin.1 hin.2).2], h2⟩
        have CI := Lib.hid cI2
        clear cI cI2
        by_cases hlo' : N < lo
        · have HF := Lib.hid (show IsRead t.data.toList lo hi 0 4 from .inr (.inl ⟨HS.out.1, fun h => by have := HS.out.2; omega, rfl, rfl⟩))
          go_wp2_with (go_at_call 23; with_reducible refine Calls.mono CI.out ?_; rintro e w2 ⟨rfl, b2⟩)
          go_ret2
          exact ⟨⟨0, 4, rfl, HF.out⟩, HB.out.trans (b2.mono HB.out.size)⟩
        · by_cases hhi' : hi < N
          · have HF := Lib.hid (show IsRead t.data.toList lo hi 0 4 from .inr (.inl ⟨HS.out.1, fun h => by have := HS.out.2; omega, rfl, rfl⟩))
            go_wp2_with (go_at_call 23; with_reducible refine Calls.mono CI.out ?_; rintro e w2 ⟨rfl, b2⟩)
            go_ret2
            exact ⟨⟨0, 4, rfl, HF.out⟩, HB.out.trans (b2.mono HB.out.size)⟩
          · have HF := Lib.hid (show IsRead t.data.toList lo hi N 0 from .inr (.inr ⟨HS.out.1, by have := HS.out.2; omega, HS.out.2.symm, rfl⟩))
            go_wp2_with (go_at_call 23; with_reducible refine Calls.mono CI.out ?_; rintro e w2 ⟨rfl, b2⟩)
            go_ret2
            exact ⟨⟨N, 0, rfl, HF.out⟩, HB.out.trans (b2.mono HB.out.size)⟩
      · have hout : N < -9223372036854775808 ∨ 9223372036854775807 < N := by omega
        have cI2 : Calls Tryd.prog 23 #[.agg #[.bool s, .slice A xs.length c]] W fun e w' => e = .returned (.tuple #[.int .i64 0, .bool false]) ∧ Below W.heap.size W w' := cI.mono fun e w' ⟨h1, h2⟩ => ⟨by rw [h1, (isInt_no hout).1, (isInt_no hout).2], h2⟩
        have CI := Lib.hid cI2
        have HF := Lib.hid (show IsRead t.data.toList lo hi 0 4 from .inr (.inl ⟨HS.out.1, fun h => by have := HS.out.2; omega, rfl, rfl⟩))
        clear cI cI2
        go_wp2_with (go_at_call 23; with_reducible refine Calls.mono CI.out ?_; rintro e w2 ⟨rfl, b2⟩)
        go_ret2
        exact ⟨⟨0, 4, rfl, HF.out⟩, HB.out.trans (b2.mono HB.out.size)⟩
  · have cD : Calls Tryd.prog 21 #[.string t] w fun e w' => e = .returned (.bool false) ∧ w = w' := hd.mono fun e w' ⟨⟨d, h1, h2⟩, h3⟩ => ⟨by
      cases d
      · exact h1
      · exact absurd (h2.1 rfl) hs, h3⟩
    have CD := Lib.hid cD
    have HF := Lib.hid (show IsRead t.data.toList lo hi 0 3 from .inl ⟨hs, rfl, rfl⟩)
    clear cD hd hs
    go_enter Tryd.func7, Tryd.ntmps7
    go_wp2_with (go_at_call 21; with_reducible refine Calls.mono CD.out ?_; rintro e w1 ⟨rfl, rfl⟩)
    go_ret2
    exact ⟨⟨0, 3, rfl, HF.out⟩, Below.refl _ _⟩
end Go.Proofs.YtkeglcfndjpblaaDoor
/- A row of numbers' texts: the document's own. -/

namespace Go.Proofs.YtkeglcfndjpblaaDoor
open Go.RowKit Num

/-- what a row's reading answers: all numbers, or where the first that is none stands, and its error's number -/
def IsReads (l : List By) (lo hi : Int) (ns : List Int) (i k : Nat) : Prop :=
  (k = 0 ∧ i = 0 ∧ ns.length = l.length ∧ ∀ j (h1 : j < l.length) (h2 : j < ns.length), IsRead l[j] lo hi ns[j] 0) ∨
  (k ≠ 0 ∧ ns = [] ∧ (∃ h : i < l.length, IsRead l[i] lo hi 0 k) ∧ ∀ j (_ : j < i) (h : j < l.length), ∃ n, IsRead l[j] lo hi n 0)
theorem IsRead.fail {bs : By} {lo hi n : Int} {k : Nat} (h : IsRead bs lo hi n k) (hk : k ≠ 0) : n = 0 := by
  rcases h with ⟨_, h, _⟩ | ⟨_, _, h, _⟩ | ⟨_, _, _, h⟩
  · exact h
  · exact h
  · exact absurd h hk
theorem IsReads.unique {l : List By} {lo hi : Int} {ns ns' : List Int} {i i' k k' : Nat} (h : IsReads l lo hi ns i k) (h' : IsReads l lo hi ns' i' k') : ns = ns' ∧ i = i' ∧ k = k' := by
  rcases h with ⟨rfl, rfl, h1, h2⟩ | ⟨hk, rfl, ⟨hi1, h1⟩, h2⟩ <;> rcases h' with ⟨rfl, rfl, h1', h2'⟩ | ⟨hk', rfl, ⟨hi1', h1'⟩, h2'⟩
  · refine ⟨List.ext_getElem (by rw [h1, h1']) fun j a b => ?_, rfl, rfl⟩
    exact ((h2 j (by omega) a).unique (h2' j (by omega) b)).1
  · exact absurd ((h2 i' hi1' (by omega)).unique h1').2.symm hk'
  · exact absurd ((h2' i hi1 (by omega)).unique h1).2.symm hk
  · rcases Nat.lt_trichotomy i i' with h | rfl | h
    · obtain ⟨n, hn⟩ := h2' i h hi1
      exact absurd (hn.unique h1).2.symm hk
    · exact ⟨rfl, rfl, (h1.unique h1').2⟩
    · obtain ⟨n, hn⟩ := h2 i' h hi1'
      exact absurd (hn.unique h1').2.symm hk'
theorem info_num : (Tryd.prog.info? 3).map (fun i => (i.zero, i.size, i.bytes)) = some (some (.int .i64 0), 1, 8) := by kernel_rfl
theorem own_num_rd {w : World} {base n : Nat} {v : Value} {ns : List Int} (h : w.ownsRow base 3 1 v n (icells ns)) : ∃ p cap, v = .slice p n cap ∧ n = ns.length ∧ RdV w w.heap.size p (icells ns) := by
  obtain ⟨p, cap, h1, h2, _, _, h3⟩ := RdV.ofOwn h
  exact ⟨p, cap, h1, by rw [h2, icells_length], h3⟩
theorem below_num {w W w3 : World} {n : Nat} {v : Value} {xs : List Value} (hB : Below w.heap.size w W) (ho : W.ownsRow w.heap.size 3 1 v n xs) (a : Value) (hg : (W.alloc (.cells #[a] 3)).grownBy w3 v.ownBlock) : Below w.heap.size w w3 := by
  have h1 : Below w.heap.size w (W.alloc (.cells #[a] 3)) := hB.alloc hB.size _
  exact h1.grown hg (by have := hB.size; simp; omega) (fun k e => (ho.lt k e).1)
theorem str_back (b : By) : (str b).data.toList = b := by simp [str]
theorem reads_step {l : List By} {lo hi : Int} {ns : List Int} {i : Nat} (hn : ns.length = i) (hall : ∀ j (h1 : j < l.length) (h2 : j < ns.length), IsRead l[j] lo hi ns[j] 0) (h : i < l.length) {n : Int} (hr : IsRead l[i] lo hi n 0) :
    ∀ j (h1 : j < l.length) (h2 : j < (ns ++ [n]).length), IsRead l[j] lo hi (ns ++ [n])[j] 0 := by
  intro j h1 h2
  by_cases hj : j < ns.length
  · rw [List.getElem_append_left hj]; exact hall j h1 hj
  · obtain rfl : j = i := by simp at h2; omega
    rw [List.getElem_append_right (by omega)]
    simpa [hn] using hr

set_option maxRecDepth 10000 in
set_option maxHeartbeats 3200000 in
theorem ref7_Nums (A : Option Addr) (c : Nat) (l : List By) (lo hi : Int) (hlo : -9223372036854775808 ≤ lo) (hhi : hi ≤ 9223372036854775807) (w : World) (hr : RdV w w.heap.size A (scells l)) (hm : l.length ≤ 8796093022208) (hs : ∀ s ∈ l, s.length ≤ 4611686018427387904) :
    Calls Tryd.prog 12 #[.slice A l.length c, .int .i64 lo, .int .i64 hi] w fun e w' => (∃ (p : Option Addr) (cap : Nat) (ns : List Int) (i k : Nat), e = .returned (.tuple #[.slice p ns.length cap, .int .i64 (i : Int), .int .i64 (k : Int)]) ∧ IsReads l lo hi ns i k ∧ RdV w' w'.heap.size p (icells ns)) ∧ Below w.heap.size w w' := by
  obtain ⟨i0, hq, hz0, hz1, hz2⟩ := info_parts info_num
  have HR := Lib.hid hr
  have HS := Lib.hid hs
  clear hr hs
  have C1 := Lib.hid (fun (V : World) (t : ByteArray) (h : t.size ≤ 4611686018427387904) => ref7_Read t h lo hi hlo hhi V)
  go_enter Tryd.func12, Tryd.ntmps12
  go_wp2_with fail
  go_loopg [9, 10] l.length (fun gh v it wr => ∃ (i : Nat) (ns : List Int), it = .int .i64 (i : Int) ∧ gh + i = l.length ∧ ns.length = i ∧ wr.ownsRow w.heap.size 3 1 v i (icells ns) ∧ (∀ j (h1 : j < l.length) (h2 : j < ns.length), IsRead l[j] lo hi ns[j] 0) ∧ Below w.heap.size w wr)
  case atStart => exact ⟨0, [], rfl, by omega, rfl, World.ownsRow_nil _ _ _ _, fun j h1 h2 => absurd h2 (by simp), Below.refl _ _⟩
  case round =>
    obtain ⟨i, ns, rfl, hg, hn, hown, hall, hB⟩ := hrel
    have HA := Lib.hid hall
    have HB := Lib.hid hB
    have HN := Lib.hid hn
    by_cases hlt : i < l.length
    · obtain ⟨g, o, rfl, hgb, hcell⟩ := (HR.out.below hB).word hlt
      have HO := Lib.hid hown
      have hsz : (str l[i]).size ≤ 4611686018427387904 := by
        have := HS.out l[i] (List.getElem_mem hlt)
        rw [← str_len, str_back]; exact this
      have c1 := fun V => C1.out V (str l[i]) hsz
      rw [str_back] at c1
      obtain ⟨x, hx⟩ : ∃ x, l[i] = x := ⟨_, rfl⟩
      rw [hx] at c1 hcell
      have HX := Lib.hid hx
      clear hall hB hn hown hsz hx C1
      have CR := Lib.hid c1
      clear c1
      go_upto_region 6 with (go_at_call 7; with_reducible refine Calls.mono (CR.out _) ?_; rintro e w1 ⟨⟨n, k, rfl, hrd⟩, b1⟩; replace hrd := Lib.hid hrd)
      by_cases hk : k = 0
      · subst hk
        have ho1 := Lib.hid (ownsRow_kept_below HO.out b1)
        have hb1 := Lib.hid (HB.out.trans (b1.mono HB.out.size))
        have hnx := Lib.hid (reads_step HN.out HA.out hlt (n := n) (by rw [HX.out]; exact hrd.out))
        clear hrd b1 CR hcell
        go_wp2_with (at_builtin; refine wpList_append_own _ rfl _ _ 32 rfl w.heap.size 3 i0 (.int .i64 0) 1 8 Tryd.underlying32 hq hz0 hz1 hz2 rfl (by decide) _ _ _ rfl (ho1.out.alloc _) ⟨w1.heap.size, 0, none⟩ 1 1 [.int .i64 n] rfl rfl (cell_one_new _ _ _) (by simp [Value.oneCell']) (by simp [maxLen]; omega) (by omega) (by have h1 := hb1.out.size; simp; omega) ?_; intro v' w3 hown' hgrow _; replace hown' := Lib.hid hown'; replace hgrow := Lib.hid hgrow)
        have hst : w3.ownsRow w.heap.size 3 1 v' (i + 1) (icells (ns ++ [n])) := by
          have := hown'.out
          simpa [icells] using this
        have hBs := below_num hb1.out ho1.out (.int .i64 n) hgrow.out
        go_roundg (l.length - (i + 1))
        case measure => omega
        case rel => exact ⟨i + 1, ns ++ [n], by simp, by omega, by simp [HN.out], hst, hnx.out, hBs⟩
      · have HF := Lib.hid (hrd.out.fail hk)
        have hk' : ¬ (k : Int) = 0 := by omega
        go_wp2_with fail
        go_ret3
        refine ⟨⟨none, 0, [], i, k, rfl, .inr ⟨hk, rfl, ⟨hlt, ?_⟩, fun j hj h => ⟨_, HA.out j h (by rw [HN.out]; exact hj)⟩⟩, RdV.nil _ _ _⟩, HB.out.trans (b1.mono HB.out.size)⟩
        have := hrd.out
        rw [HF.out] at this
        rw [HX.out]; exact this
    · obtain rfl : i = l.length := by omega
      obtain ⟨q, cap, rfl, hnn, hrd⟩ := own_num_rd hown
      have HE := Lib.hid (show IsReads l lo hi ns 0 0 from .inl ⟨rfl, rfl, hn, hall⟩)
      have HQ := Lib.hid (And.intro hrd hB)
      clear hall hB hown hrd hnn
      go_wp2_with fail
      go_ret3
      exact ⟨⟨q, cap, ns, 0, 0, by rw [HN.out]; rfl, HE.out, HQ.out.1⟩, HQ.out.2⟩
end Go.Proofs.YtkeglcfndjpblaaDoor
