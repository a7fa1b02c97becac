/- What the document's own calls on digits answer: Words, Same, cmp, Cmp. -/
import Derived.Test.YtoidhoiadkafhaaRefA
namespace Go.Proofs.Ytoidhoiadkafhaa
open Go.RowKit Num

set_option maxHeartbeats 800000 in
/-- digits of 16 bits as words -/
theorem ref_words (d : List Nat) (A : Option Addr) (c : Nat) (S : Nat → Prop) (w : World) (h : Rd w S .u64 A d) (hS : ∀ b, S b → b < w.heap.size) (hl : d.length ≤ 2147483648) (hc : d.length ≤ c) (hd : Dg 65536 d) :
    Calls Try.prog 22 #[.slice A d.length c] w fun e w' => ∃ A' ys c', e = .returned (.slice A' ys.length c') ∧ ys.length ≤ c' ∧ Norm 4294967296 ys ∧ val 4294967296 ys = val 65536 d ∧
      Rd w' (fun b => w.heap.size ≤ b ∧ b < w'.heap.size) .u32 A' ys ∧ Below w.heap.size w w' := by
  go_enter Try.func22, Try.ntmps22
  go_wp2_with (go_at_call 47; refine (ref_cut _ _ _ _ _ h (by omega) hc).mono ?_; rintro e w' ⟨n, h1, h2, h3, rfl, rfl⟩)
  have HZ := Lib.hid h2
  have HT := Lib.hid h3
  clear h2 h3
  go_loopg [3, 5, 6] (n + 1) (fun g v i _ wr => ∃ (k : Nat) (ys : List Nat), g + 2 * k = n + 1 ∧ i = .int .i64 (2 * k : Nat) ∧ Own wr w.heap.size 36 .u32 v ys ∧ ys.length = k ∧ Dg 4294967296 ys ∧ val 4294967296 ys = val 65536 ((d.take n).take (2 * k)) ∧ Below w.heap.size w wr)
  case atStart => exact ⟨0, [], by omega, rfl, Own.nil _ _ _ _, rfl, Dg.nil _, rfl, Below.refl _ _⟩
  case round =>
    obtain ⟨k, ys, hg, rfl, hown, rfl, hyd, hyv, hbel⟩ := hrel
    have hR := h.below hbel hS
    have HG := Lib.hid hg
    have HV := Lib.hid hyv
    clear hg hyv
    by_cases hlt : 2 * ys.length < n
    · obtain ⟨b, o, rfl, hb, hcells⟩ := hR (by omega)
      have hadb := hS _ hb
      have hx0 := hd.get (j := 2 * ys.length) (by omega)
      have hc0 := hcells (2 * ys.length) (by omega)
      have hD0 : ∀ (hh : 2 * ys.length < (d.take n).length), (d.take n)[2 * ys.length] = d[2 * ys.length]'(by omega) := fun hh => List.getElem_take ..
      obtain ⟨x0, hxe0⟩ : ∃ x0, d[2 * ys.length]'(by omega) = x0 := ⟨_, rfl⟩
      rw [hxe0] at hx0 hc0
      have HX0 := Lib.hid hxe0
      have HD0 := Lib.hid hD0
      clear hxe0 hD0
      by_cases hlt1 : 2 * ys.length + 1 < n
      · have hx1 := hd.get (j := 2 * ys.length + 1) (by omega)
        have hc1 := hcells (2 * ys.length + 1) (by omega)
        have hD1 : ∀ (hh : 2 * ys.length + 1 < (d.take n).length), (d.take n)[2 * ys.length + 1] = d[2 * ys.length + 1]'(by omega) := fun hh => List.getElem_take ..
        obtain ⟨x1, hxe1⟩ : ∃ x1, d[2 * ys.length + 1]'(by omega) = x1 := ⟨_, rfl⟩
        rw [hxe1] at hx1 hc1
        have HX1 := Lib.hid hxe1
        have HD1 := Lib.hid hD1
        clear hxe1 hD1 hcells
        go_wp2_with (at_builtin; refine wpList_app rfl _ _ _ rfl w.heap.size 36 .u32 4 Try.underlying22 info_u32 u3 ys rfl (hown.alloc _) wr.heap.size 1 1 [x0 + x1 * 65536] rfl rfl (by unfold Row; rw [heap_alloc_new]; simp [cells]) (by omega) (by omega) (by omega) (by have := hbel.size; simp; omega) ?_; intro v1 w1 hown1 hgrow)
        have hb2 := below_app (hbel.alloc hbel.size _) hgrow (hown.alloc _) (by have := hbel.size; simp; omega) (Nat.le_refl _)
        go_roundg (gk - 2)
        case measure => have := HG.out; omega
        case rel =>
          have hnl : (d.take n).length = n := by rw [List.length_take]; omega
          have hw := words_two HV.out (by omega)
          rw [HD0.out, HD1.out, HX0.out, HX1.out] at hw
          refine ⟨ys.length + 1, ys ++ [x0 + x1 * 65536], by have := HG.out; omega, by go_num, hown1, by simp, hyd.snoc (by omega), hw, hb2⟩
      · clear hcells
        go_wp2_with (at_builtin; refine wpList_app rfl _ _ _ rfl w.heap.size 36 .u32 4 Try.underlying22 info_u32 u3 ys rfl (hown.alloc _) wr.heap.size 1 1 [x0] rfl rfl (by unfold Row; rw [heap_alloc_new]; simp [cells]) (by omega) (by omega) (by omega) (by have := hbel.size; simp; omega) ?_; intro v1 w1 hown1 hgrow)
        have hb2 := below_app (hbel.alloc hbel.size _) hgrow (hown.alloc _) (by have := hbel.size; simp; omega) (Nat.le_refl _)
        go_roundg (gk - 2)
        case measure => have := HG.out; omega
        case rel =>
          have hnl : (d.take n).length = n := by rw [List.length_take]; omega
          have hw := words_one HV.out (by omega)
          rw [HD0.out, HX0.out] at hw
          refine ⟨ys.length + 1, ys ++ [x0], by have := HG.out; omega, by go_num, hown1, by simp, hyd.snoc (by omega), hw, hb2⟩
    · obtain ⟨A', c', rfl, hc', _, hrd⟩ := hown.form
      go_wp2
      go_ret
      have hnl : (d.take n).length = n := by rw [List.length_take]; omega
      have hw := HV.out
      rw [List.take_of_length_le (i := 2 * ys.length) (by omega)] at hw
      refine ⟨A', ys, c', rfl, hc', ⟨hyd, ?_⟩, ?_, hrd, hbel⟩
      · exact words_top hw hyd (Norm.take hd h1 HT.out).2 (by have := HG.out; omega)
      · rw [hw, val_take_of_zero HZ.out]

/-- two lists that are the same -/
theorem ref_same (xs : List Nat) (A A' : Option Addr) (c c' : Nat) (S S' : Nat → Prop) (w : World) (h : Rd w S .u32 A xs) (h' : Rd w S' .u32 A' xs) (hl : xs.length ≤ 4611686018427387904) :
    Calls Try.prog 8 #[.slice A xs.length c, .slice A' xs.length c'] w fun e w' => e = .returned (.bool true) ∧ ∃ m, w' = w.drewN m := by
  go_enter Try.func8, Try.ntmps8
  go_wp2
  go_loopg [5] xs.length (fun g i wr => ∃ k m, g + k = xs.length ∧ i = .int .i64 k ∧ wr = w.drewN m)
  case atStart => exact ⟨0, 0, by omega, rfl, rfl⟩
  case round =>
    obtain ⟨k, m, hk, rfl, rfl⟩ := hrel
    by_cases hlt : k < xs.length
    · obtain ⟨b, o, rfl, hb, hc1⟩ := h.at_ hlt
      obtain ⟨b', o', rfl, hb', hc2⟩ := h'.at_ hlt
      obtain ⟨x, hx⟩ : ∃ x, xs[k] = x := ⟨_, rfl⟩
      rw [hx] at hc1 hc2
      have HK := Lib.hid hk
      clear hx hk
      go_wp2
      go_quiet (fail)
      go_wp2
      go_roundg (gk - 1)
      case measure => have := HK.out; omega
      case rel => exact ⟨k + 1, m + nq, by have := HK.out; omega, by go_num, by simp⟩
    · go_wp2
      go_ret
      exact ⟨rfl, m, rfl⟩

set_option maxHeartbeats 400000 in
/-- digit by digit, from the highest one -/
theorem ref_cmp' (x y : List Nat) (A A' : Option Addr) (c c' : Nat) (S S' : Nat → Prop) (w : World) (h : Rd w S .u64 A x) (h' : Rd w S' .u64 A' y) (hl : x.length ≤ 2147483648) (hl' : y.length ≤ 2147483648) (hx : Dg 65536 x) (hy : Dg 65536 y)
    (n : Nat) (hn : (x.length < y.length ∧ n = y.length) ∨ (y.length ≤ x.length ∧ n = x.length)) :
    Calls Try.prog 45 #[.slice A x.length c, .slice A' y.length c'] w fun e w' => e = .returned (.int .i64 (cmpI (val 65536 x) (val 65536 y))) ∧ w = w' := by
  have hz : ∀ j, n ≤ j → x.getD j 0 = y.getD j 0 := fun j hj => by rw [getD_ge (by omega), getD_ge (by omega)]
  have HZ := Lib.hid hz
  clear hz
  rcases hn with ⟨hn, hm⟩ | ⟨hn, hm⟩
  all_goals
    have hn64 : n ≤ 2147483648 := by omega
    have HM := Lib.hid hm
    clear hm
    go_enter Try.func45, Try.ntmps45
    go_wp2
    go_loopg [5] n (fun g i wr => ((∃ k : Nat, g = k + 1 ∧ i = .int .i64 k) ∨ (g = 0 ∧ i = .int .i64 (-1))) ∧ g ≤ n ∧ w = wr ∧ ∀ j, g ≤ j → x.getD j 0 = y.getD j 0)
    case atStart =>
      refine ⟨?_, Nat.le_refl _, rfl, HZ.out⟩
      have hm := HM.out
      by_cases h0 : n = 0
      · refine .inr ⟨h0, ?_⟩; congr 1; omega
      · refine .inl ⟨n - 1, by omega, ?_⟩; congr 1; omega
    case round =>
      obtain ⟨⟨k, rfl, rfl⟩ | ⟨rfl, rfl⟩, hg, rfl, hab⟩ := hrel
      · have HAB := Lib.hid hab
        clear hab
        have ca := ref_at x A c k S w h (by omega)
        have cb := ref_at y A' c' k S' w h' (by omega)
        obtain ⟨a, ha⟩ : ∃ a, x.getD k 0 = a := ⟨_, rfl⟩
        obtain ⟨b, hb⟩ : ∃ b, y.getD k 0 = b := ⟨_, rfl⟩
        rw [ha] at ca
        rw [hb] at cb
        have HA := Lib.hid ha
        have HB := Lib.hid hb
        clear ha hb
        rcases Nat.lt_trichotomy a b with hlt | heq | hgt
        · go_wp2_with (go_at_call 52; (first | (with_reducible refine ca.mono ?_) | (with_reducible refine cb.mono ?_)); rintro e w' ⟨rfl, rfl⟩)
          go_ret
          refine ⟨?_, rfl⟩
          rw [cmpI_lt (val_lt_of_getD (i := k) hx (by omega) (fun j hj => HAB.out j hj) (by rw [HA.out, HB.out]; exact hlt))]
          rfl
        · subst heq
          go_wp2_with (go_at_call 52; (first | (with_reducible refine ca.mono ?_) | (with_reducible refine cb.mono ?_)); rintro e w' ⟨rfl, rfl⟩)
          go_roundg k
          case measure => omega
          case rel =>
            refine ⟨?_, by omega, rfl, fun j hj => ?_⟩
            · by_cases h0 : k = 0
              · subst h0; exact .inr ⟨rfl, by go_num⟩
              · exact .inl ⟨k - 1, by omega, by go_num⟩
            · by_cases e : j = k
              · subst e; rw [HA.out, HB.out]
              · exact HAB.out j (by omega)
        · go_wp2_with (go_at_call 52; (first | (with_reducible refine ca.mono ?_) | (with_reducible refine cb.mono ?_)); rintro e w' ⟨rfl, rfl⟩)
          go_ret
          refine ⟨?_, rfl⟩
          rw [cmpI_gt (val_lt_of_getD (i := k) hy (by omega) (fun j hj => (HAB.out j hj).symm) (by rw [HA.out, HB.out]; exact hgt))]
          rfl
      · go_wp2
        go_ret
        refine ⟨?_, rfl⟩
        rw [cmpI_eq (val_eq_of_getD fun j => hab j (by omega))]
        rfl
theorem ref_cmp (x y : List Nat) (A A' : Option Addr) (c c' : Nat) (S S' : Nat → Prop) (w : World) (h : Rd w S .u64 A x) (h' : Rd w S' .u64 A' y) (hl : x.length ≤ 2147483648) (hl' : y.length ≤ 2147483648) (hx : Dg 65536 x) (hy : Dg 65536 y) :
    Calls Try.prog 45 #[.slice A x.length c, .slice A' y.length c'] w fun e w' => e = .returned (.int .i64 (cmpI (val 65536 x) (val 65536 y))) ∧ w = w' := by
  rcases Nat.lt_or_ge x.length y.length with hn | hn
  · exact ref_cmp' x y A A' c c' S S' w h h' hl hl' hx hy _ (.inl ⟨hn, rfl⟩)
  · exact ref_cmp' x y A A' c c' S S' w h h' hl hl' hx hy _ (.inr ⟨hn, rfl⟩)

/-- how two numbers stand -/
theorem ref_Cmp (x y : List Nat) (A A' : Option Addr) (c c' : Nat) (S S' : Nat → Prop) (w : World) (h : Rd w S .u32 A x) (h' : Rd w S' .u32 A' y) (hS : ∀ b, S b → b < w.heap.size) (hS' : ∀ b, S' b → b < w.heap.size) (hl : x.length ≤ 1073741824) (hl' : y.length ≤ 1073741824) (hx : Dg 4294967296 x) (hy : Dg 4294967296 y) :
    Calls Try.prog 19 #[.slice A x.length c, .slice A' y.length c'] w fun e w' => e = .returned (.int .i64 (cmpI (val 4294967296 x) (val 4294967296 y))) ∧ Below w.heap.size w w' := by
  go_enter Try.func19, Try.ntmps19
  go_wp2_with fail
  refine (ref_half x A c S w h hS hl hx).mono ?_
  rintro e w1 ⟨A1, x1, c1, rfl, hc1, hl1, hn1, hv1, hr1, hb1⟩
  have hs1 := hb1.size
  have HN1 := Lib.hid hn1
  have HV1 := Lib.hid hv1
  clear hn1 hv1
  go_wp2_with fail
  refine (ref_half y A' c' S' w1 (h'.below hb1 hS') (fun b hb => by have := hS' b hb; omega) hl' hy).mono ?_
  rintro e w2 ⟨A2, x2, c2, rfl, hc2, hl2, hn2, hv2, hr2, hb2⟩
  have HN2 := Lib.hid hn2
  have HV2 := Lib.hid hv2
  clear hn2 hv2
  go_wp2_with fail
  refine (ref_cmp x1 x2 A1 A2 c1 c2 _ _ w2 (hr1.below hb2 (fun b hb => hb.2)) hr2 (by omega) (by omega) HN1.out.1 HN2.out.1).mono ?_
  rintro e w3 ⟨rfl, rfl⟩
  rw [HV1.out, HV2.out]
  go_wp2
  go_ret
  exact ⟨rfl, hb1.trans (hb2.mono hs1)⟩
end Go.Proofs.Ytoidhoiadkafhaa
