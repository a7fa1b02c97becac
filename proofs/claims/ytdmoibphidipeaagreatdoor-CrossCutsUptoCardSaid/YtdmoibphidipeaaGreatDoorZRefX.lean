/- What the document's own calls on digits answer: one contract for each (cut, at, Half, Words, Same, cmp, Cmp). -/
import Derived.Test.YtdmoibphidipeaaGreatDoorRows
import Derived.Test.YtdmoibphidipeaaGreatDoorZBase
import Derived.Lib.Hide
import Derived.WalkLawsBesides
import Derived.Deep.QuietTactic
import Derived.BigQuiet
import Derived.Deep.RegionHeld3
import Derived.IntWalk
import Derived.Deep.LoopGhost
import Derived.Outline
namespace Go.Proofs.YtdmoibphidipeaaGreatDoor
open Go.RowKit Num

theorem info_u64 : (Tryz.prog.info? 138).map (fun i => (i.zero, i.size, i.bytes)) = some (some (.int .u64 0), 1, 8) := by kernel_rfl
theorem info_u32 : (Tryz.prog.info? 102).map (fun i => (i.zero, i.size, i.bytes)) = some (some (.int .u32 0), 1, 4) := by kernel_rfl

theorem ref_at_in (d : List Nat) (A : Option Addr) (c : Nat) (i : Nat) (S : Nat → Prop) (w : World) (h : Rd w S .u64 A d) (hi : i < d.length) (_hl : d.length ≤ 4611686018427387904) :
    Calls Tryz.prog 177 #[.slice A d.length c, .int .i64 i] w fun e w' => e = .returned (.int .u64 (d[i] : Int)) ∧ w = w' := by
  obtain ⟨b, o, rfl, hb, hc⟩ := h.at_ hi
  go_enter Tryz.func177, Tryz.ntmps177
  go_wp2
  go_ret
  exact ⟨rfl, rfl⟩
theorem ref_at_out (n : Nat) (A : Option Addr) (c : Nat) (i : Nat) (w : World) (hi : n ≤ i) :
    Calls Tryz.prog 177 #[.slice A n c, .int .i64 i] w fun e w' => e = .returned (.int .u64 0) ∧ w = w' := by
  go_enter Tryz.func177, Tryz.ntmps177
  go_wp2
  go_ret
  exact ⟨rfl, rfl⟩
/-- a digit; 0 behind the last one -/
theorem ref_at (d : List Nat) (A : Option Addr) (c : Nat) (i : Nat) (S : Nat → Prop) (w : World) (h : Rd w S .u64 A d) (hl : d.length ≤ 4611686018427387904) :
    Calls Tryz.prog 177 #[.slice A d.length c, .int .i64 i] w fun e w' => e = .returned (.int .u64 (d.getD i 0 : Int)) ∧ w = w' := by
  by_cases hi : i < d.length
  · refine (ref_at_in d A c i S w h hi hl).mono ?_
    rintro e w' ⟨rfl, rfl⟩
    simp [List.getD_eq_getElem?_getD, hi]
  · refine (ref_at_out d.length A c i w (by omega)).mono ?_
    rintro e w' ⟨rfl, rfl⟩
    simp [List.getD_eq_getElem?_getD, hi]

set_option maxHeartbeats 400000 in
theorem ref_cut (d : List Nat) (A : Option Addr) (c : Nat) (S : Nat → Prop) (w : World) (h : Rd w S .u64 A d) (hl : d.length ≤ 4611686018427387904) (hc : d.length ≤ c) :
    Calls Tryz.prog 213 #[.slice A d.length c] w fun e w' => ∃ n, n ≤ d.length ∧ (∀ j, n ≤ j → ∀ hj : j < d.length, d[j] = 0) ∧ (n = 0 ∨ ∃ h : n - 1 < d.length, d[n - 1] ≠ 0) ∧ e = .returned (.slice A n c) ∧ w = w' := by
  go_enter Tryz.func213, Tryz.ntmps213
  go_wp2
  go_loopg [3] d.length (fun g n wr => g ≤ d.length ∧ n = .int .i64 g ∧ w = wr ∧ ∀ j, g ≤ j → ∀ hj : j < d.length, d[j] = 0)
  case atStart => exact ⟨Nat.le_refl _, rfl, rfl, fun j h1 h2 => by omega⟩
  case round =>
    obtain ⟨hg, rfl, rfl, hz⟩ := hrel
    have HZ := Lib.hid hz
    clear hz
    by_cases h0 : 0 < gk
    · obtain ⟨b, o, rfl, hb, hcell⟩ := h.at_ (j := gk - 1) (by omega)
      obtain ⟨x, hx⟩ : ∃ x, d[gk - 1] = x := ⟨_, rfl⟩
      rw [hx] at hcell
      have HX := Lib.hid hx
      clear hx
      by_cases hx0 : x = 0
      · subst hx0
        go_wp2
        go_roundg (gk - 1)
        case measure => omega
        case rel =>
          refine ⟨by omega, by go_num, rfl, fun j h1 h2 => ?_⟩
          by_cases hj : j = gk - 1
          · subst hj; exact HX.out
          · exact HZ.out j (by omega) h2
      · go_wp2
        go_ret
        exact ⟨gk, hg, HZ.out, .inr ⟨by omega, by rw [HX.out]; exact hx0⟩, rfl, rfl⟩
    · go_wp2
      go_ret
      exact ⟨gk, by omega, fun j h1 h2 => HZ.out j (by omega) h2, .inl (by omega), rfl, rfl⟩

def halves (xs : List Nat) : List Nat := xs.flatMap fun x => [x % 65536, x / 65536]
theorem length_halves (xs : List Nat) : (halves xs).length = 2 * xs.length := by
  induction xs with
  | nil => rfl
  | cons x r ih => simp only [halves, List.flatMap_cons, List.length_append, List.length_cons] at ih ⊢; rw [ih]; simp; omega
theorem halves_snoc (xs : List Nat) (x : Nat) : halves (xs ++ [x]) = halves xs ++ [x % 65536, x / 65536] := by simp [halves]
theorem dg_halves {xs : List Nat} (h : Dg 4294967296 xs) : Dg 65536 (halves xs) := by
  intro y hy
  simp only [halves, List.mem_flatMap] at hy
  obtain ⟨x, hx, hy⟩ := hy
  have := h x hx
  simp at hy
  omega
theorem val_halves (xs : List Nat) : val 65536 (halves xs) = val 4294967296 xs := by
  induction xs with
  | nil => rfl
  | cons x r ih =>
    have e : halves (x :: r) = x % 65536 :: x / 65536 :: halves r := rfl
    rw [e, val_cons, val_cons, val_cons, ih]; omega

/-- the digits of 16 bits of a number of words -/
theorem ref_half (xs : List Nat) (A : Option Addr) (c : Nat) (S : Nat → Prop) (w : World) (h : Rd w S .u32 A xs) (hS : ∀ b, S b → b < w.heap.size) (hl : xs.length ≤ 1073741824) (hd : Dg 4294967296 xs) :
    Calls Tryz.prog 166 #[.slice A xs.length c] w fun e w' => ∃ A' ys c', e = .returned (.slice A' ys.length c') ∧ ys.length ≤ c' ∧ ys.length ≤ 2 * xs.length ∧ Norm 65536 ys ∧ val 65536 ys = val 4294967296 xs ∧
      Rd w' (fun b => w.heap.size ≤ b ∧ b < w'.heap.size) .u64 A' ys ∧ Below w.heap.size w w' := by
  go_enter Tryz.func166, Tryz.ntmps166
  go_wp2
  go_loopg [3, 4] xs.length (fun g v i wr => ∃ k, g + k = xs.length ∧ i = .int .i64 k ∧ Own wr w.heap.size 138 .u64 v (halves (xs.take k)) ∧ Below w.heap.size w wr)
  case atStart => exact ⟨0, by omega, rfl, Own.nil _ _ _ _, Below.refl _ _⟩
  case round =>
    obtain ⟨k, hk, rfl, hown, hbel⟩ := hrel
    have hlen : (halves (xs.take k)).length = 2 * k := by rw [length_halves, List.length_take]; omega
    by_cases hlt : k < xs.length
    · have hR := h.below hbel hS
      obtain ⟨b, o, rfl, hb, hcell⟩ := hR.at_ (j := k) hlt
      have hx32 := hd.get hlt
      have hsn : halves (xs.take (k + 1)) = halves (xs.take k) ++ [xs[k] % 65536, xs[k] / 65536] := by rw [take_succ_get hlt, halves_snoc]
      obtain ⟨x, hx⟩ : ∃ x, xs[k] = x := ⟨_, rfl⟩
      rw [hx] at hcell hx32 hsn
      have HK := Lib.hid hk
      have HL := Lib.hid hlen
      have HS := Lib.hid hsn
      clear hx hk hlen hsn
      have q1 : IntKind.u64.wrap ((x : Int).tmod 65536) = ((x % 65536 : Nat) : Int) := by rw [Int.tmod_eq_emod_of_nonneg (by omega), IntWalk.u64_in _ (by omega)]; omega
      have q2 : IntKind.u64.wrap (IntKind.u32.wrap ((x : Int) / 65536)) = ((x / 65536 : Nat) : Int) := by rw [IntWalk.u32_in _ (by omega), IntWalk.u64_in _ (by omega)]; omega
      have hadb := hS _ hb
      go_wp2
      go_region_held3 (fun w' => w'.cell? ⟨b, o + k, none⟩ = some (.int .u32 x))
        (first | go_keep | (rw [far_app hgrow hown (by exact hadb) (by have := hbel.size; simp; omega)]; assumption))
        ((refine step_app (by rfl) _ _ _ (by rfl) w.heap.size 138 .u64 8 Tryz.underlying159 info_u64 u3 _ (by rfl) ((hown.alloc _).drew) wr.heap.size 2 2 [x % 65536, x / 65536] (by rfl) (by rfl) (by exact heap_alloc_new wr _) (by omega) (by rw [HL.out]; omega) (by omega) (by have := hbel.size; simp; omega) ?_; intro v1 w1 hown1 hgrow))
      have hb2 := below_app ((hbel.alloc hbel.size _).drew) hgrow ((hown.alloc _).drew) (by have := hbel.size; simp; omega) (Nat.le_refl _)
      go_wp2
      go_roundg (gk - 1)
      case measure => have := HK.out; omega
      case rel => exact ⟨k + 1, by have := HK.out; omega, by go_num, by rw [HS.out]; exact hown1, hb2⟩
    · have hk2 : xs.take k = xs := List.take_of_length_le (by omega)
      rw [hk2] at hown hlen
      obtain ⟨A', c', rfl, hc', _, hrd⟩ := hown.form
      have hl3 : (halves xs).length ≤ 2147483648 := by omega
      have HK := Lib.hid hk
      have HL := Lib.hid hlen
      clear hk hlen hk2
      go_wp2_with (go_at_call 213; refine (ref_cut _ _ _ _ _ hrd (by omega) hc').mono ?_; rintro e w' ⟨n, h1, h2, h3, rfl, rfl⟩)
      go_ret
      have hl2 : ((halves xs).take n).length = n := by rw [List.length_take]; omega
      refine ⟨A', (halves xs).take n, c', by rw [hl2]; rfl, by omega, by have := HL.out; have := HK.out; omega, Norm.take (dg_halves hd) h1 h3, ?_, hrd.take n, hbel⟩
      rw [val_take_of_zero h2, val_halves]
end Go.Proofs.YtdmoibphidipeaaGreatDoor
/- What the document's own calls on digits answer: Words, Same, cmp, Cmp. -/

namespace Go.Proofs.YtdmoibphidipeaaGreatDoor
open Go.RowKit Num

set_option maxHeartbeats 800000 in
/-- digits of 16 bits as words -/
theorem ref_words (d : List Nat) (A : Option Addr) (c : Nat) (S : Nat → Prop) (w : World) (h : Rd w S .u64 A d) (hS : ∀ b, S b → b < w.heap.size) (hl : d.length ≤ 2147483648) (hc : d.length ≤ c) (hd : Dg 65536 d) :
    Calls Tryz.prog 167 #[.slice A d.length c] w fun e w' => ∃ A' ys c', e = .returned (.slice A' ys.length c') ∧ ys.length ≤ c' ∧ Norm 4294967296 ys ∧ val 4294967296 ys = val 65536 d ∧
      Rd w' (fun b => w.heap.size ≤ b ∧ b < w'.heap.size) .u32 A' ys ∧ Below w.heap.size w w' := by
  go_enter Tryz.func167, Tryz.ntmps167
  go_wp2_with (go_at_call 213; refine (ref_cut _ _ _ _ _ h (by omega) hc).mono ?_; rintro e w' ⟨n, h1, h2, h3, rfl, rfl⟩)
  have HZ := Lib.hid h2
  have HT := Lib.hid h3
  clear h2 h3
  go_loopg [3, 5, 6] (n + 1) (fun g v i _ wr => ∃ (k : Nat) (ys : List Nat), g + 2 * k = n + 1 ∧ i = .int .i64 (2 * k : Nat) ∧ Own wr w.heap.size 102 .u32 v ys ∧ ys.length = k ∧ Dg 4294967296 ys ∧ val 4294967296 ys = val 65536 ((d.take n).take (2 * k)) ∧ Below w.heap.size w wr)
  case atStart => exact ⟨0, [], by omega, rfl, Own.nil _ _ _ _, rfl, Dg.nil _, rfl, Below.refl _ _⟩
  case round =>
    obtain ⟨k, ys, hg, rfl, hown, rfl, hyd, hyv, hbel⟩ := hrel
    have hR := h.below hbel hS
    have HG := Lib.hid hg
    have HV := Lib.hid hyv
    clear hg hyv
    by_cases hlt : 2 * ys.length < n
    · obtain ⟨b, o, rfl, hb, hcells⟩ := hR (by omega)
      have hadb := hS _ hb
      have hx0 := hd.get (j := 2 * ys.length) (by omega)
      have hc0 := hcells (2 * ys.length) (by omega)
      have hD0 : ∀ (hh : 2 * ys.length < (d.take n).length), (d.take n)[2 * ys.length] = d[2 * ys.length]'(by omega) := fun hh => List.getElem_take ..
      obtain ⟨x0, hxe0⟩ : ∃ x0, d[2 * ys.length]'(by omega) = x0 := ⟨_, rfl⟩
      rw [hxe0] at hx0 hc0
      have HX0 := Lib.hid hxe0
      have HD0 := Lib.hid hD0
      clear hxe0 hD0
      by_cases hlt1 : 2 * ys.length + 1 < n
      · have hx1 := hd.get (j := 2 * ys.length + 1) (by omega)
        have hc1 := hcells (2 * ys.length + 1) (by omega)
        have hD1 : ∀ (hh : 2 * ys.length + 1 < (d.take n).length), (d.take n)[2 * ys.length + 1] = d[2 * ys.length + 1]'(by omega) := fun hh => List.getElem_take ..
        obtain ⟨x1, hxe1⟩ : ∃ x1, d[2 * ys.length + 1]'(by omega) = x1 := ⟨_, rfl⟩
        rw [hxe1] at hx1 hc1
        have HX1 := Lib.hid hxe1
        have HD1 := Lib.hid hD1
        clear hxe1 hD1 hcells
        go_wp2_with (at_builtin; refine wpList_app rfl _ _ _ rfl w.heap.size 102 .u32 4 Tryz.underlying35 info_u32 u3 ys rfl (hown.alloc _) wr.heap.size 1 1 [x0 + x1 * 65536] rfl rfl (by unfold Row; rw [heap_alloc_new]; simp [cells]) (by omega) (by omega) (by omega) (by have := hbel.size; simp; omega) ?_; intro v1 w1 hown1 hgrow)
        have hb2 := below_app (hbel.alloc hbel.size _) hgrow (hown.alloc _) (by have := hbel.size; simp; omega) (Nat.le_refl _)
        go_roundg (gk - 2)
        case measure => have := HG.out; omega
        case rel =>
          have hnl : (d.take n).length = n := by rw [List.length_take]; omega
          have hw := words_two HV.out (by omega)
          rw [HD0.out, HD1.out, HX0.out, HX1.out] at hw
          refine ⟨ys.length + 1, ys ++ [x0 + x1 * 65536], by have := HG.out; omega, by go_num, hown1, by simp, hyd.snoc (by omega), hw, hb2⟩
      · clear hcells
        go_wp2_with (at_builtin; refine wpList_app rfl _ _ _ rfl w.heap.size 102 .u32 4 Tryz.underlying35 info_u32 u3 ys rfl (hown.alloc _) wr.heap.size 1 1 [x0] rfl rfl (by unfold Row; rw [heap_alloc_new]; simp [cells]) (by omega) (by omega) (by omega) (by have := hbel.size; simp; omega) ?_; intro v1 w1 hown1 hgrow)
        have hb2 := below_app (hbel.alloc hbel.size _) hgrow (hown.alloc _) (by have := hbel.size; simp; omega) (Nat.le_refl _)
        go_roundg (gk - 2)
        case measure => have := HG.out; omega
        case rel =>
          have hnl : (d.take n).length = n := by rw [List.length_take]; omega
          have hw := words_one HV.out (by omega)
          rw [HD0.out, HX0.out] at hw
          refine ⟨ys.length + 1, ys ++ [x0], by have := HG.out; omega, by go_num, hown1, by simp, hyd.snoc (by omega), hw, hb2⟩
    · obtain ⟨A', c', rfl, hc', _, hrd⟩ := hown.form
      go_wp2
      go_ret
      have hnl : (d.take n).length = n := by rw [List.length_take]; omega
      have hw := HV.out
      rw [List.take_of_length_le (i := 2 * ys.length) (by omega)] at hw
      refine ⟨A', ys, c', rfl, hc', ⟨hyd, ?_⟩, ?_, hrd, hbel⟩
      · exact words_top hw hyd (Norm.take hd h1 HT.out).2 (by have := HG.out; omega)
      · rw [hw, val_take_of_zero HZ.out]

set_option maxHeartbeats 400000 in
/-- digit by digit, from the highest one -/
theorem ref_cmp' (x y : List Nat) (A A' : Option Addr) (c c' : Nat) (S S' : Nat → Prop) (w : World) (h : Rd w S .u64 A x) (h' : Rd w S' .u64 A' y) (hl : x.length ≤ 2147483648) (hl' : y.length ≤ 2147483648) (hx : Dg 65536 x) (hy : Dg 65536 y)
    (n : Nat) (hn : (x.length < y.length ∧ n = y.length) ∨ (y.length ≤ x.length ∧ n = x.length)) :
    Calls Tryz.prog 211 #[.slice A x.length c, .slice A' y.length c'] w fun e w' => e = .returned (.int .i64 (cmpI (val 65536 x) (val 65536 y))) ∧ w = w' := by
  have hz : ∀ j, n ≤ j → x.getD j 0 = y.getD j 0 := fun j hj => by rw [getD_ge (by omega), getD_ge (by omega)]
  have HZ := Lib.hid hz
  clear hz
  rcases hn with ⟨hn, hm⟩ | ⟨hn, hm⟩
  all_goals
    have hn64 : n ≤ 2147483648 := by omega
    have HM := Lib.hid hm
    clear hm
    go_enter Tryz.func211, Tryz.ntmps211
    go_wp2
    go_loopg [5] n (fun g i wr => ((∃ k : Nat, g = k + 1 ∧ i = .int .i64 k) ∨ (g = 0 ∧ i = .int .i64 (-1))) ∧ g ≤ n ∧ w = wr ∧ ∀ j, g ≤ j → x.getD j 0 = y.getD j 0)
    case atStart =>
      refine ⟨?_, Nat.le_refl _, rfl, HZ.out⟩
      have hm := HM.out
      by_cases h0 : n = 0
      · refine .inr ⟨h0, ?_⟩; congr 1; omega
      · refine .inl ⟨n - 1, by omega, ?_⟩; congr 1; omega
    case round =>
      obtain ⟨⟨k, rfl, rfl⟩ | ⟨rfl, rfl⟩, hg, rfl, hab⟩ := hrel
      · have HAB := Lib.hid hab
        clear hab
        have ca := ref_at x A c k S w h (by omega)
        have cb := ref_at y A' c' k S' w h' (by omega)
        obtain ⟨a, ha⟩ : ∃ a, x.getD k 0 = a := ⟨_, rfl⟩
        obtain ⟨b, hb⟩ : ∃ b, y.getD k 0 = b := ⟨_, rfl⟩
        rw [ha] at ca
        rw [hb] at cb
        have HA := Lib.hid ha
        have HB := Lib.hid hb
        clear ha hb
        rcases Nat.lt_trichotomy a b with hlt | heq | hgt
        · go_wp2_with (go_at_call 177; (first | (with_reducible refine ca.mono ?_) | (with_reducible refine cb.mono ?_)); rintro e w' ⟨rfl, rfl⟩)
          go_ret
          refine ⟨?_, rfl⟩
          rw [cmpI_lt (val_lt_of_getD (i := k) hx (by omega) (fun j hj => HAB.out j hj) (by rw [HA.out, HB.out]; exact hlt))]
          rfl
        · subst heq
          go_wp2_with (go_at_call 177; (first | (with_reducible refine ca.mono ?_) | (with_reducible refine cb.mono ?_)); rintro e w' ⟨rfl, rfl⟩)
          go_roundg k
          case measure => omega
          case rel =>
            refine ⟨?_, by omega, rfl, fun j hj => ?_⟩
            · by_cases h0 : k = 0
              · subst h0; exact .inr ⟨rfl, by go_num⟩
              · exact .inl ⟨k - 1, by omega, by go_num⟩
            · by_cases e : j = k
              · subst e; rw [HA.out, HB.out]
              · exact HAB.out j (by omega)
        · go_wp2_with (go_at_call 177; (first | (with_reducible refine ca.mono ?_) | (with_reducible refine cb.mono ?_)); rintro e w' ⟨rfl, rfl⟩)
          go_ret
          refine ⟨?_, rfl⟩
          rw [cmpI_gt (val_lt_of_getD (i := k) hy (by omega) (fun j hj => (HAB.out j hj).symm) (by rw [HA.out, HB.out]; exact hgt))]
          rfl
      · go_wp2
        go_ret
        refine ⟨?_, rfl⟩
        rw [cmpI_eq (val_eq_of_getD fun j => hab j (by omega))]
        rfl
theorem ref_cmp (x y : List Nat) (A A' : Option Addr) (c c' : Nat) (S S' : Nat → Prop) (w : World) (h : Rd w S .u64 A x) (h' : Rd w S' .u64 A' y) (hl : x.length ≤ 2147483648) (hl' : y.length ≤ 2147483648) (hx : Dg 65536 x) (hy : Dg 65536 y) :
    Calls Tryz.prog 211 #[.slice A x.length c, .slice A' y.length c'] w fun e w' => e = .returned (.int .i64 (cmpI (val 65536 x) (val 65536 y))) ∧ w = w' := by
  rcases Nat.lt_or_ge x.length y.length with hn | hn
  · exact ref_cmp' x y A A' c c' S S' w h h' hl hl' hx hy _ (.inl ⟨hn, rfl⟩)
  · exact ref_cmp' x y A A' c c' S S' w h h' hl hl' hx hy _ (.inr ⟨hn, rfl⟩)

/-- how two numbers stand -/
theorem ref_Cmp (x y : List Nat) (A A' : Option Addr) (c c' : Nat) (S S' : Nat → Prop) (w : World) (h : Rd w S .u32 A x) (h' : Rd w S' .u32 A' y) (hS : ∀ b, S b → b < w.heap.size) (hS' : ∀ b, S' b → b < w.heap.size) (hl : x.length ≤ 1073741824) (hl' : y.length ≤ 1073741824) (hx : Dg 4294967296 x) (hy : Dg 4294967296 y) :
    Calls Tryz.prog 164 #[.slice A x.length c, .slice A' y.length c'] w fun e w' => e = .returned (.int .i64 (cmpI (val 4294967296 x) (val 4294967296 y))) ∧ Below w.heap.size w w' := by
  go_enter Tryz.func164, Tryz.ntmps164
  go_wp2_with fail
  refine (ref_half x A c S w h hS hl hx).mono ?_
  rintro e w1 ⟨A1, x1, c1, rfl, hc1, hl1, hn1, hv1, hr1, hb1⟩
  have hs1 := hb1.size
  have HN1 := Lib.hid hn1
  have HV1 := Lib.hid hv1
  clear hn1 hv1
  go_wp2_with fail
  refine (ref_half y A' c' S' w1 (h'.below hb1 hS') (fun b hb => by have := hS' b hb; omega) hl' hy).mono ?_
  rintro e w2 ⟨A2, x2, c2, rfl, hc2, hl2, hn2, hv2, hr2, hb2⟩
  have HN2 := Lib.hid hn2
  have HV2 := Lib.hid hv2
  clear hn2 hv2
  go_wp2_with fail
  refine (ref_cmp x1 x2 A1 A2 c1 c2 _ _ w2 (hr1.below hb2 (fun b hb => hb.2)) hr2 (by omega) (by omega) HN1.out.1 HN2.out.1).mono ?_
  rintro e w3 ⟨rfl, rfl⟩
  rw [HV1.out, HV2.out]
  go_wp2
  go_ret
  exact ⟨rfl, hb1.trans (hb2.mono hs1)⟩
end Go.Proofs.YtdmoibphidipeaaGreatDoor
/- What the document's own calls answer: Add, sub, Sub, bit, Bits, Of. -/

namespace Go.Proofs.YtdmoibphidipeaaGreatDoor
open Go.RowKit Num

set_option maxHeartbeats 800000 in
theorem ref_add (a b : List Nat) (A A' : Option Addr) (ca cb : Nat) (S S' : Nat → Prop) (w : World) (h : Rd w S .u32 A a) (h' : Rd w S' .u32 A' b) (hS : ∀ g, S g → g < w.heap.size) (hS' : ∀ g, S' g → g < w.heap.size) (hl : a.length ≤ 536870912) (hl' : b.length ≤ 536870912) (ha : Dg 4294967296 a) (hb : Dg 4294967296 b) :
    Calls Tryz.prog 137 #[.slice A a.length ca, .slice A' b.length cb] w (Gives .u32 4294967296 (val 4294967296 a + val 4294967296 b) w) := by
  go_enter Tryz.func137, Tryz.ntmps137
  go_wp2_with fail
  refine (ref_half a A ca S w h hS (by omega) ha).mono ?_
  rintro e w1 ⟨A1, x, c1, rfl, hc1, hl1, hn1, hv1, hr1, hb1⟩
  have hs1 := hb1.size
  have HN1 := Lib.hid hn1
  have HV1 := Lib.hid hv1
  clear hn1 hv1
  go_wp2_with fail
  refine (ref_half b A' cb S' w1 (h'.below hb1 hS') (fun g hg => by have := hS' g hg; omega) (by omega) hb).mono ?_
  rintro e w2 ⟨A2, y, c2, rfl, hc2, hl2, hn2, hv2, hr2, hb2⟩
  have hs2 := hb2.size
  have HN2 := Lib.hid hn2
  have HV2 := Lib.hid hv2
  clear hn2 hv2
  have hr1' : Rd w2 (fun g => g < w2.heap.size) .u64 A1 x := (hr1.below hb2 (fun g hg => hg.2)).imp (fun g hg => by omega)
  have hr2' : Rd w2 (fun g => g < w2.heap.size) .u64 A2 y := hr2.imp (fun g hg => hg.2)
  clear hr1 hr2
  obtain ⟨n, hn⟩ : ∃ n, (x.length < y.length ∧ n = y.length) ∨ (y.length ≤ x.length ∧ n = x.length) := by
    rcases Nat.lt_or_ge x.length y.length with h | h
    · exact ⟨_, .inl ⟨h, rfl⟩⟩
    · exact ⟨_, .inr ⟨h, rfl⟩⟩
  rcases hn with ⟨hn, hm⟩ | ⟨hn, hm⟩
  all_goals
    have hn64 : n ≤ 1073741824 := by omega
    have hxn : x.length ≤ n := by omega
    have hyn : y.length ≤ n := by omega
    have HM := Lib.hid hm
    clear hm
    go_wp2_with fail
    go_loopg [7, 8, 9, 10] (n + 1) (fun g v c i _ wr => ∃ (k cy : Nat) (ys : List Nat), g + k = n + 1 ∧ i = .int .i64 k ∧ c = .int .u64 cy ∧ cy ≤ 1 ∧ Own wr w2.heap.size 138 .u64 v ys ∧ ys.length = k ∧ Dg 65536 ys ∧ val 65536 ys + 65536 ^ k * cy = val 65536 (ext x k) + val 65536 (ext y k) ∧ Below w2.heap.size w2 wr)
    case atStart => exact ⟨0, 0, [], by omega, rfl, rfl, by omega, Own.nil _ _ _ _, rfl, Dg.nil _, rfl, Below.refl _ _⟩
    case round =>
      obtain ⟨k, cy, ys, hg, rfl, rfl, hcy, hown, rfl, hyd, hyv, hbel⟩ := hrel
      have HG := Lib.hid hg
      have HV := Lib.hid hyv
      clear hg hyv
      by_cases hlt : ys.length < n + 1
      · have cx := ref_at x A1 c1 ys.length _ wr (hr1'.below hbel (fun g hg => hg)) (by omega)
        have cz := ref_at y A2 c2 ys.length _ wr (hr2'.below hbel (fun g hg => hg)) (by omega)
        have hxd := HN1.out.1.getD (by omega) ys.length
        have hyd' := HN2.out.1.getD (by omega) ys.length
        obtain ⟨p, hp⟩ : ∃ p, x.getD ys.length 0 = p := ⟨_, rfl⟩
        obtain ⟨q, hq⟩ : ∃ q, y.getD ys.length 0 = q := ⟨_, rfl⟩
        rw [hp] at cx hxd
        rw [hq] at cz hyd'
        have HP := Lib.hid hp
        have HQ := Lib.hid hq
        clear hp hq
        have hml := HM.out
        go_wp2_with (first
          | (go_at_call 177; (first | (with_reducible refine cx.mono ?_) | (with_reducible refine cz.mono ?_)); rintro e w' ⟨rfl, rfl⟩)
          | (at_builtin; refine wpList_app rfl _ _ _ rfl w2.heap.size 138 .u64 8 Tryz.underlying159 info_u64 u7 ys rfl (hown.alloc _) wr.heap.size 1 1 [(p + q + cy) % 65536] rfl rfl (by unfold Row; rw [heap_alloc_new]; simp [cells]) (by omega) (by omega) (by omega) (by have := hbel.size; simp; omega) ?_; intro v1 w3 hown1 hgrow))
        have hb3 := below_app (hbel.alloc hbel.size _) hgrow (hown.alloc _) (by have := hbel.size; simp; omega) (Nat.le_refl _)
        go_roundg (gk - 1)
        case measure => have := HG.out; omega
        case rel =>
          have hv := add_step (x := p) (y := q) rfl HV.out
          refine ⟨ys.length + 1, (p + q + cy) / 65536, ys ++ [(p + q + cy) % 65536], by have := HG.out; omega, by go_num, by go_num, by omega, hown1, by simp, hyd.snoc (by omega), ?_, hb3⟩
          rw [hv, val_ext_succ, val_ext_succ, HP.out, HQ.out]
      · obtain ⟨A3, c3, rfl, hc3, _, hrd⟩ := hown.form
        have hs3 := hbel.size
        have hlen : ys.length ≤ 2147483648 := by have := HG.out; omega
        have hml := HM.out
        go_wp2_with (go_at_call 167; refine (ref_words ys A3 c3 _ wr hrd (fun g hg => hg.2) hlen hc3 hyd).mono ?_; rintro e w4 ⟨A4, zs, c4, rfl, hc4, hn4, hv4, hr4, hb4⟩)
        go_ret
        refine ⟨A4, zs, c4, rfl, hc4, hn4, ?_, hr4.imp (fun g hg => hg.2), (hb1.trans (hb2.mono hs1)).trans ((hbel.mono (by omega)).trans (hb4.mono (by omega)))⟩
        have hk : ys.length = n + 1 := by have := HG.out; omega
        have hv := HV.out
        rw [hk, val_ext (by omega), val_ext (by omega)] at hv
        have h0 := carry_zero (by omega) (val_lt_pow HN1.out.1 (by omega) hxn) (val_lt_pow HN2.out.1 (by omega) hyn) hv
        rw [hv4, ← HV1.out, ← HV2.out, ← hv, h0]
        simp
end Go.Proofs.YtdmoibphidipeaaGreatDoor
/- What the document's own calls answer: sub, Sub, bit, Bits. -/

namespace Go.Proofs.YtdmoibphidipeaaGreatDoor
open Go.RowKit Num

set_option maxHeartbeats 400000 in
theorem ref_bit (x : List Nat) (A : Option Addr) (c i : Nat) (S : Nat → Prop) (w : World) (h : Rd w S .u64 A x) (hl : x.length ≤ 1073741824) (hi : i ≤ 1099511627776) (hx : Dg 65536 x) :
    Calls Tryz.prog 168 #[.slice A x.length c, .int .i64 i] w fun e w' => e = .returned (.int .u64 (((val 65536 x).testBit i).toNat : Int)) ∧ w = w' := by
  have hb := bit_of (i := i) hx
  have hd := hx.getD (by omega) (i / 16)
  have ca := ref_at x A c (i / 16) S w h (by omega)
  obtain ⟨p, hp⟩ : ∃ p, x.getD (i / 16) 0 = p := ⟨_, rfl⟩
  obtain ⟨r, hr⟩ : ∃ r, ((val 65536 x).testBit i).toNat = r := ⟨_, rfl⟩
  rw [hp] at ca hd hb
  rw [hr] at hb ⊢
  have HB := Lib.hid hb
  clear hp hr hb
  go_enter Tryz.func168, Tryz.ntmps168
  go_wp2_with (go_at_call 177; refine ca.mono ?_; rintro e w' ⟨rfl, rfl⟩)
  go_ret
  refine ⟨?_, rfl⟩
  show Ending.returned (.int .u64 (((p : Int) / 2 ^ (i % 16)).tmod ((2 : Nat) : Int))) = _
  rw [show ((p : Int) / 2 ^ (i % 16)) = ((p / 2 ^ (i % 16) : Nat) : Int) by simp, tmod_nat, HB.out]

set_option maxHeartbeats 800000 in
/-- how many bits -/
theorem ref_Bits (a : List Nat) (A : Option Addr) (ca : Nat) (S : Nat → Prop) (w : World) (h : Rd w S .u32 A a) (hS : ∀ g, S g → g < w.heap.size) (hl : a.length ≤ 536870912) (ha : Dg 4294967296 a) :
    Calls Tryz.prog 122 #[.slice A a.length ca] w fun e w' => ∃ n : Nat, e = .returned (.int .i64 n) ∧ IsBits (val 4294967296 a) n ∧ Below w.heap.size w w' := by
  go_enter Tryz.func122, Tryz.ntmps122
  go_wp2_with fail
  refine (ref_half a A ca S w h hS (by omega) ha).mono ?_
  rintro e w1 ⟨A1, x, c1, rfl, hc1, hl1, hn1, hv1, hr1, hb1⟩
  have hs1 := hb1.size
  have hlt := val_lt hn1.1
  rw [hv1] at hlt
  have h16 : val 4294967296 a < 2 ^ (16 * x.length) := by rw [Nat.pow_mul]; exact hlt
  have hz : ∀ j, 16 * x.length ≤ j → (val 4294967296 a).testBit j = false := fun j hj => Nat.testBit_lt_two_pow (Nat.lt_of_lt_of_le h16 (Nat.pow_le_pow_right (by omega) hj))
  have HN1 := Lib.hid hn1
  have HV1 := Lib.hid hv1
  have HZ := Lib.hid hz
  clear hn1 hv1 hz hlt h16
  go_wp2_with fail
  go_loopg [4] (16 * x.length) (fun g i wr => ((∃ k : Nat, g = k + 1 ∧ i = .int .i64 k) ∨ (g = 0 ∧ i = .int .i64 (-1))) ∧ g ≤ 16 * x.length ∧ w1 = wr ∧ ∀ j, g ≤ j → (val 4294967296 a).testBit j = false)
  case atStart =>
    refine ⟨?_, Nat.le_refl _, rfl, HZ.out⟩
    by_cases h0 : x.length = 0
    · refine .inr ⟨by omega, ?_⟩; congr 1; omega
    · refine .inl ⟨16 * x.length - 1, by omega, ?_⟩; congr 1; omega
  case round =>
    obtain ⟨⟨k, rfl, rfl⟩ | ⟨rfl, rfl⟩, hg, rfl, hab⟩ := hrel
    · have HAB := Lib.hid hab
      clear hab
      have cb := ref_bit x A1 c1 k _ w1 hr1 (by omega) (by omega) HN1.out.1
      rw [HV1.out] at cb
      obtain ⟨r, hr⟩ : ∃ r, (val 4294967296 a).testBit k = r := ⟨_, rfl⟩
      rw [hr] at cb
      have HR := Lib.hid hr
      clear hr
      cases r with
      | true =>
        go_wp2_with (go_at_call 168; refine cb.mono ?_; rintro e w' ⟨rfl, rfl⟩)
        go_ret
        refine ⟨k + 1, rfl, ⟨?_, .inr ?_⟩, hb1⟩
        · exact Nat.lt_pow_two_of_testBit _ (fun j hj => HAB.out j hj)
        · exact Nat.ge_two_pow_of_testBit HR.out
      | false =>
        go_wp2_with (go_at_call 168; refine cb.mono ?_; rintro e w' ⟨rfl, rfl⟩)
        go_roundg k
        case measure => omega
        case rel =>
          refine ⟨?_, by omega, rfl, fun j hj => ?_⟩
          · by_cases h0 : k = 0
            · subst h0; exact .inr ⟨rfl, by go_num⟩
            · exact .inl ⟨k - 1, by omega, by go_num⟩
          · by_cases e : j = k
            · subst e; exact HR.out
            · exact HAB.out j (by omega)
    · go_wp2
      go_ret
      refine ⟨0, rfl, ⟨?_, .inl rfl⟩, hb1⟩
      exact Nat.lt_pow_two_of_testBit _ (fun j hj => hab j hj)
end Go.Proofs.YtdmoibphidipeaaGreatDoor
/- What the document's own Sub answers. -/

namespace Go.Proofs.YtdmoibphidipeaaGreatDoor
open Go.RowKit Num

set_option maxHeartbeats 800000 in
/-- digits without those of a number that isn't above -/
theorem ref_sub (x y : List Nat) (A A' : Option Addr) (c1 c2 : Nat) (S S' : Nat → Prop) (w : World) (h : Rd w S .u64 A x) (h' : Rd w S' .u64 A' y) (hS : ∀ g, S g → g < w.heap.size) (hS' : ∀ g, S' g → g < w.heap.size) (hl : x.length ≤ 1073741824) (hyl : y.length ≤ x.length) (hx : Dg 65536 x) (hy : Dg 65536 y) (hle : val 65536 y ≤ val 65536 x) :
    Calls Tryz.prog 212 #[.slice A x.length c1, .slice A' y.length c2] w fun e w' => ∃ A3 zs c3, e = .returned (.slice A3 zs.length c3) ∧ zs.length ≤ c3 ∧ zs.length ≤ x.length ∧ Norm 65536 zs ∧ val 65536 zs + val 65536 y = val 65536 x ∧
      Rd w' (fun b => w.heap.size ≤ b ∧ b < w'.heap.size) .u64 A3 zs ∧ Below w.heap.size w w' := by
  have HLE := Lib.hid hle
  clear hle
  go_enter Tryz.func212, Tryz.ntmps212
  go_wp2_with fail
  go_loopg [5, 6, 7, 8] x.length (fun g v c i _ wr => ∃ (k cy : Nat) (ys : List Nat), g + k = x.length ∧ i = .int .i64 k ∧ c = .int .u64 cy ∧ cy ≤ 1 ∧ Own wr w.heap.size 138 .u64 v ys ∧ ys.length = k ∧ Dg 65536 ys ∧ val 65536 ys + val 65536 (ext y k) = val 65536 (ext x k) + 65536 ^ k * cy ∧ Below w.heap.size w wr)
  case atStart => exact ⟨0, 0, [], by omega, rfl, rfl, by omega, Own.nil _ _ _ _, rfl, Dg.nil _, rfl, Below.refl _ _⟩
  case round =>
    obtain ⟨k, cy, ys, hg, rfl, rfl, hcy, hown, rfl, hyd, hyv, hbel⟩ := hrel
    have HG := Lib.hid hg
    have HV := Lib.hid hyv
    clear hg hyv
    by_cases hlt : ys.length < x.length
    · have cx := ref_at x A c1 ys.length _ wr (h.below hbel hS) (by omega)
      have cz := ref_at y A' c2 ys.length _ wr (h'.below hbel hS') (by omega)
      have hxd := hx.getD (by omega) ys.length
      have hyd' := hy.getD (by omega) ys.length
      obtain ⟨p, hp⟩ : ∃ p, x.getD ys.length 0 = p := ⟨_, rfl⟩
      obtain ⟨q, hq⟩ : ∃ q, y.getD ys.length 0 = q := ⟨_, rfl⟩
      rw [hp] at cx hxd
      rw [hq] at cz hyd'
      have HP := Lib.hid hp
      have HQ := Lib.hid hq
      clear hp hq
      go_wp2_with (first
        | (go_at_call 177; (first | (with_reducible refine cx.mono ?_) | (with_reducible refine cz.mono ?_)); rintro e w' ⟨rfl, rfl⟩)
        | (at_builtin; refine wpList_app rfl _ _ _ rfl w.heap.size 138 .u64 8 Tryz.underlying159 info_u64 u5 ys rfl (hown.alloc _) wr.heap.size 1 1 [(65536 + p - q - cy) % 65536] rfl rfl (by unfold Row; rw [heap_alloc_new]; simp [cells]; omega) (by omega) (by omega) (by omega) (by have := hbel.size; simp; omega) ?_; intro v1 w3 hown1 hgrow))
      have hb3 := below_app (hbel.alloc hbel.size _) hgrow (hown.alloc _) (by have := hbel.size; simp; omega) (Nat.le_refl _)
      go_roundg (gk - 1)
      case measure => have := HG.out; omega
      case rel =>
        have hv := sub_step (x := p) (y := q) (v := 65536 + p - q - cy) rfl HV.out (by omega) (by omega)
        refine ⟨ys.length + 1, 1 - (65536 + p - q - cy) / 65536, ys ++ [(65536 + p - q - cy) % 65536], by have := HG.out; omega, by go_num, by congr 1; omega, by omega, hown1, by simp, hyd.snoc (by omega), ?_, hb3⟩
        rw [val_ext_succ, val_ext_succ, HP.out, HQ.out, hv]
    · obtain ⟨A3, c3, rfl, hc3, _, hrd⟩ := hown.form
      have hs3 := hbel.size
      have hlen : ys.length ≤ 2147483648 := by have := HG.out; omega
      go_wp2_with (go_at_call 213; refine (ref_cut _ _ _ _ _ hrd (by omega) hc3).mono ?_; rintro e w' ⟨n, h1, h2, h3, rfl, rfl⟩)
      go_ret
      have hl2 : (ys.take n).length = n := by rw [List.length_take]; omega
      have hk : ys.length = x.length := by have := HG.out; omega
      refine ⟨A3, ys.take n, c3, by rw [hl2]; rfl, by omega, by omega, Norm.take hyd h1 h3, ?_, hrd.take n, hbel⟩
      have hv := HV.out
      rw [hk, val_ext hyl, val_ext (Nat.le_refl _)] at hv
      have h0 := borrow_zero hcy (by have := val_lt hyd; rwa [hk] at this) HLE.out hv
      rw [h0] at hv
      rw [val_take_of_zero h2, hv]; simp

set_option maxHeartbeats 800000 in
/-- what is left -/
theorem ref_Sub (a b : List Nat) (A A' : Option Addr) (ca cb : Nat) (S S' : Nat → Prop) (w : World) (h : Rd w S .u32 A a) (h' : Rd w S' .u32 A' b) (hS : ∀ g, S g → g < w.heap.size) (hS' : ∀ g, S' g → g < w.heap.size) (hl : a.length ≤ 536870912) (hl' : b.length ≤ 536870912) (ha : Dg 4294967296 a) (hb : Dg 4294967296 b) :
    Calls Tryz.prog 165 #[.slice A a.length ca, .slice A' b.length cb] w (GivesB .u32 4294967296 (val 4294967296 a - val 4294967296 b) (decide (val 4294967296 b ≤ val 4294967296 a)) w) := by
  go_enter Tryz.func165, Tryz.ntmps165
  go_wp2_with fail
  refine (ref_Cmp a b A A' ca cb S S' w h h' hS hS' (by omega) (by omega) ha hb).mono ?_
  rintro e w0 ⟨rfl, hb0⟩
  have hs0 := hb0.size
  have hneg := cmpI_neg (val 4294967296 a) (val 4294967296 b)
  by_cases hlt : val 4294967296 a < val 4294967296 b
  · rw [cmpI_lt hlt]
    have H := Lib.hid hlt
    clear hlt hneg
    go_wp2_with fail
    go_ret2
    have hlt := H.out
    refine ⟨none, [], 0, ?_, by simp, norm_nil _, ?_, Rd.nil, hb0⟩
    · rw [decide_eq_false (by omega)]; rfl
    · rw [val_nil]; omega
  · obtain ⟨z, hz⟩ : ∃ z, cmpI (val 4294967296 a) (val 4294967296 b) = z := ⟨_, rfl⟩
    rw [hz] at hneg ⊢
    have hz0 : 0 ≤ z := by omega
    have H := Lib.hid hlt
    clear hlt hneg hz
    go_wp2_with fail
    refine (ref_half a A ca S w0 (h.below hb0 hS) (fun g hg => by have := hS g hg; omega) (by omega) ha).mono ?_
    rintro e w1 ⟨A1, x, c1, rfl, hc1, hl1, hn1, hv1, hr1, hb1⟩
    have hs1 := hb1.size
    have HN1 := Lib.hid hn1
    have HV1 := Lib.hid hv1
    clear hn1 hv1
    go_wp2_with fail
    refine (ref_half b A' cb S' w1 ((h'.below hb0 hS').below (hb1.mono hs0) hS') (fun g hg => by have := hS' g hg; omega) (by omega) hb).mono ?_
    rintro e w2 ⟨A2, y, c2, rfl, hc2, hl2, hn2, hv2, hr2, hb2⟩
    have hs2 := hb2.size
    have HN2 := Lib.hid hn2
    have HV2 := Lib.hid hv2
    clear hn2 hv2
    have hle : val 65536 y ≤ val 65536 x := by rw [HV1.out, HV2.out]; exact Nat.le_of_not_lt H.out
    have hyx : y.length ≤ x.length := HN2.out.2.length_le (by omega) (Nat.lt_of_le_of_lt hle (val_lt HN1.out.1))
    have HLE := Lib.hid hle
    clear hle
    have hr1' : Rd w2 (fun g => g < w2.heap.size) .u64 A1 x := (hr1.below hb2 (fun g hg => hg.2)).imp (fun g hg => by omega)
    go_wp2_with fail
    refine (ref_sub x y A1 A2 c1 c2 _ _ w2 hr1' hr2 (fun g hg => hg) (fun g hg => hg.2) (by omega) hyx HN1.out.1 HN2.out.1 HLE.out).mono ?_
    rintro e w3 ⟨A3, zs, c3, rfl, hc3, hl3, hn3, hv3, hr3, hb3⟩
    have hs3 := hb3.size
    have HN3 := Lib.hid hn3
    have HV3 := Lib.hid hv3
    clear hn3 hv3
    go_wp2_with fail
    refine (ref_words zs A3 c3 _ w3 hr3 (fun g hg => hg.2) (by omega) hc3 HN3.out.1).mono ?_
    rintro e w4 ⟨A4, us, c4, rfl, hc4, hn4, hv4, hr4, hb4⟩
    have HV4 := Lib.hid hv4
    clear hv4
    go_wp2
    go_ret2
    refine ⟨A4, us, c4, ?_, hc4, hn4, ?_, hr4.imp (fun g hg => hg.2), hb0.trans ((hb1.mono hs0).trans ((hb2.mono (by omega)).trans ((hb3.mono (by omega)).trans (hb4.mono (by omega)))))⟩
    · rw [decide_eq_true (Nat.le_of_not_lt H.out)]; rfl
    · have := HV3.out
      rw [HV1.out, HV2.out] at this
      rw [HV4.out]; omega
end Go.Proofs.YtdmoibphidipeaaGreatDoor
