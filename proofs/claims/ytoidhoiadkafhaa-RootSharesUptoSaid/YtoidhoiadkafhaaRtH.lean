/- What the program's own above and Sqrt answer: each calls the other. -/
import Derived.Test.YtoidhoiadkafhaaRtG
namespace Go.Proofs.Ytoidhoiadkafhaa
open Go.RowKit Num

theorem least_of {p : Nat → Prop} (h : ∃ n, p n) : ∃ n, p n ∧ ∀ m, p m → n ≤ m := by
  obtain ⟨n, hn⟩ := h
  induction n using Nat.strongRecOn with
  | _ n ih =>
    by_cases h : ∃ m, m < n ∧ p m
    · obtain ⟨m, hm, hp⟩ := h
      exact ih m hm hp
    · exact ⟨n, hn, fun m hm => Nat.le_of_not_lt fun hlt => h ⟨m, hlt, hm⟩⟩
/-- a scope in which the run jumps back to one label, with a measure that no frame shows -/
theorem wp_scope_ghost {P : Program} {a : Act} {w : World} {Q : Exit → Act → World → Prop} {c rest : Code} (l : Nat) (J : Nat → Act → World → Prop) (hf : findLabel c l = some rest)
    (first : c.wp P (Exit.jump l (fun a' w' => ∃ n, J n a' w') Q) a w)
    (pass : ∀ n a w, J n a w → rest.wp P (Exit.jump l (fun a' w' => ∃ m, m < n ∧ J m a' w') Q) a w) : (Code.scope c).wp P Q a w := by
  refine wp_scope_jumps l (fun a' w' => ∃ n, J n a' w') (fun a' w' => Classical.epsilon fun n => J n a' w' ∧ ∀ m, J m a' w' → n ≤ m) hf first ?_
  intro a w hJ
  obtain ⟨h1, h2⟩ := Classical.epsilon_spec (least_of hJ)
  refine wp_mono (pass _ a w h1) ?_
  intro e a' w' he
  cases e with
  | goto l' =>
    obtain ⟨hl, m, hm, hJm⟩ := he
    refine ⟨hl, ⟨m, hJm⟩, ?_⟩
    obtain ⟨-, k2⟩ := Classical.epsilon_spec (least_of (p := fun n => J n a' w') ⟨m, hJm⟩)
    exact Nat.lt_of_le_of_lt (k2 m hJm) hm
  | normal => exact he
  | exit id => exact he
  | ret => exact he
  | panic ch => exact he
  | outgrown => exact he

/-- a root -/
def GivesRoot (N : Nat) (w : World) (e : Ending) (w' : World) : Prop :=
  ∃ A xs c, e = .returned (.slice A xs.length c) ∧ xs.length ≤ c ∧ Norm 4294967296 xs ∧ IsRoot N (val 4294967296 xs) ∧ Rd w' (fun g => g < w'.heap.size) .u32 A xs ∧ Below w.heap.size w w'
def SqrtUpto (M : Nat) : Prop := ∀ (a : List Nat) (A : Option Addr) (ca : Nat) (w : World), val 4294967296 a < M → Rd w (fun g => g < w.heap.size) .u32 A a → a.length ≤ 134217728 → a.length ≤ ca → Dg 4294967296 a → Calls Try.prog 17 #[.slice A a.length ca] w (GivesRoot (val 4294967296 a) w)
/-- a number above the root -/
def GivesAbove (N la : Nat) (w : World) (e : Ending) (w' : World) : Prop :=
  ∃ A xs c, e = .returned (.slice A xs.length c) ∧ xs.length ≤ c ∧ xs.length ≤ 2 * la + 4 ∧ Norm 4294967296 xs ∧ 0 < val 4294967296 xs ∧ N < val 4294967296 xs * val 4294967296 xs ∧ Rd w' (fun g => g < w'.heap.size) .u32 A xs ∧ Below w.heap.size w w'

theorem val_drop {b k : Nat} {xs : List Nat} (hd : Dg b xs) (hb : 0 < b) (h : k ≤ xs.length) : val b (xs.drop k) = val b xs / b ^ k := by
  have e := val_split (b := b) h
  have hlt := val_lt (hd.take (n := k))
  rw [List.length_take, Nat.min_eq_left h] at hlt
  rw [e, Nat.add_mul_div_left _ _ (Nat.pow_pos hb), Nat.div_eq_of_lt hlt, Nat.zero_add]
theorem shift_down (N r : Nat) (hr : r < 32) : shiftVal N (-2 * (r : Int)) = N / 2 ^ (2 * r) := by
  unfold shiftVal
  rw [if_neg (by omega)]
  by_cases h : r = 0
  · subst h; simp
  · rw [if_pos (by omega)]
    congr 2
    omega
theorem shift_up (N r : Nat) (hr : r < 32) : shiftVal N (r : Int) = N * 2 ^ r := by
  unfold shiftVal
  rw [if_neg (by omega), if_neg (by omega), Int.toNat_natCast]
theorem shift_half (N : Nat) : shiftVal N (-1) = N / 2 := by
  unfold shiftVal
  rw [if_neg (by omega), if_pos (by omega)]
  show N / 2 ^ 1 = N / 2
  rw [Nat.pow_one]
theorem high_val (N low : Nat) : N / 4294967296 ^ (2 * (low / 32)) / 2 ^ (2 * (low % 32)) = N / (2 ^ low * 2 ^ low) := by
  rw [Nat.div_div_eq_div_mul]
  congr 1
  rw [show (4294967296 : Nat) = 2 ^ 32 from rfl, ← Nat.pow_mul, ← Nat.pow_add, ← Nat.pow_add]
  congr 1
  omega

theorem Num.Own.made (w : World) (t : TypeId) (k : IntKind) (n : Nat) (hn : n ≤ maxLen) : Own (w.alloc (.cells (cells k (List.replicate n 0)).toArray t)) w.heap.size t k (.slice (some ⟨w.heap.size, 0, none⟩) n n) (List.replicate n 0) := by
  unfold Own World.ownsRow
  refine ⟨by rw [length_cells, Nat.mul_one], .inr ⟨w.heap.size, n, _, by rw [List.length_replicate], Nat.le_refl _, heap_alloc_new w _, by rw [List.length_replicate]; exact Nat.le_refl _, hn, by simp [length_cells], ?_⟩⟩
  rw [List.length_replicate, Nat.mul_one]
  exact List.take_of_length_le (by rw [length_cells, List.length_replicate]; exact Nat.le_refl _)
theorem top_append {xs ys : List Nat} (h : Top ys) (hne : ys ≠ []) : Top (xs ++ ys) := by
  unfold Top at *
  rw [List.getLast?_append]
  cases e : ys.getLast? with
  | none => exact absurd (List.getLast?_eq_none_iff.1 e) hne
  | some x => rw [e] at h; simpa using h
theorem up_val (s low : Nat) : 4294967296 ^ (low / 32) * ((s + 1) * 2 ^ (low % 32)) = (s + 1) * 2 ^ low := by
  rw [show (4294967296 : Nat) = 2 ^ 32 from rfl, ← Nat.pow_mul, Nat.mul_left_comm, ← Nat.pow_add]
  congr 2
  omega

set_option maxHeartbeats 1600000 in
theorem root_above (a : List Nat) (A : Option Addr) (ca : Nat) (w : World) (h : Rd w (fun g => g < w.heap.size) .u32 A a) (hl : a.length ≤ 134217728) (hc : a.length ≤ ca) (ha : Dg 4294967296 a) (hbig : ¬ val 4294967296 a < 18446744073709551616) (IH : SqrtUpto (val 4294967296 a)) :
    Calls Try.prog 42 #[.slice A a.length ca] w (GivesAbove (val 4294967296 a) a.length w) := by
  have cb := nat_Bits a A ca _ w h (by omega) hc ha
  go_enter Try.func42, Try.ntmps42
  go_wp2_with fail
  refine cb.mono ?_
  rintro e w1 ⟨n, rfl, hb, hn, rfl⟩
  have hn65 : 64 < n := by
    rcases Nat.lt_or_ge 64 n with h1 | h1
    · exact h1
    · exact absurd (Nat.lt_of_lt_of_le hb.1 (Nat.pow_le_pow_right (n := 2) (by omega) h1)) hbig
  have hne : ¬ ca = 2 * (n / 4 / 32) := by omega
  have hdl : 2 * (n / 4 / 32) ≤ a.length := by omega
  have hrd := h.drop (n := 2 * (n / 4 / 32)) hc
  rw [if_neg hne] at hrd
  have hlen : (a.drop (2 * (n / 4 / 32))).length = a.length - 2 * (n / 4 / 32) := List.length_drop
  have cS := nat_Shift (a.drop (2 * (n / 4 / 32))) _ (ca - 2 * (n / 4 / 32)) (-2 * ((n / 4 % 32 : Nat) : Int)) _ w hrd (fun g hg => hg) (by omega) (by omega) ha.drop (by omega) (by omega)
  rw [shift_down _ _ (Nat.mod_lt _ (by omega)), val_drop ha (by omega) hdl, high_val, hlen] at cS
  have hlow : 16 ≤ n / 4 := by omega
  have hsmall : val 4294967296 a / (2 ^ (n / 4) * 2 ^ (n / 4)) < val 4294967296 a := by
    refine Nat.div_lt_self (by omega) ?_
    rw [← Nat.pow_add]
    exact Nat.one_lt_two_pow (by omega)
  rw [show ((n / 4 % 32 : Nat) : Int) = (n : Int) / 4 % 32 by omega] at cS
  have HS := Lib.hid hsmall
  clear cb hrd hsmall hb
  obtain ⟨H, hH⟩ : ∃ H, val 4294967296 a / (2 ^ (n / 4) * 2 ^ (n / 4)) = H := ⟨_, rfl⟩
  rw [hH] at HS cS
  have HH := Lib.hid hH
  clear hH
  go_wp2_with fail
  refine cS.mono ?_
  rintro e w2 ⟨A2, xs, c2, rfl, hc2, hn2, hv2, hr2, b2⟩
  have l2 := len_le (b := 4294967296) (by omega) hn2.2 ha (by rw [hv2]; have := HS.out; omega)
  have cQ := IH xs A2 c2 w2 (by rw [hv2]; exact HS.out) hr2 (by omega) hc2 hn2.1
  rw [hv2] at cQ
  clear cS hv2
  go_wp2_with fail
  refine cQ.mono ?_
  rintro e w3 ⟨A3, ys, c3, rfl, hc3, hn3, hv3, hr3, b3⟩
  have l3 := len_le (b := 4294967296) (by omega) hn3.2 ha (by
    have h1 := hv3.1
    have h2 := Nat.le_mul_self (val 4294967296 ys)
    have := HS.out
    omega)
  have B3 := b2.trans (b3.mono b2.size)
  have cO := nat_Of 1 (by omega) w3
  have HV3 := Lib.hid hv3
  clear cQ hv3
  go_wp2_with fail
  refine cO.mono ?_
  rintro e w4 ⟨A4, one, c4, rfl, hc4, hn4, hv4, hr4, b4⟩
  have l4 : one.length ≤ 1 := hn4.2.length_le (b := 4294967296) (by omega) (by rw [hv4]; omega)
  have B4 := B3.trans (b4.mono B3.size)
  have cA := nat_Add ys one A3 A4 c3 c4 _ _ w4 (hr3.on b4) hr4 (fun g hg => hg) (fun g hg => hg) (by omega) (by omega) hc3 hc4 hn3.1 hn4.1
  rw [hv4] at cA
  clear cO
  go_wp2_with fail
  refine cA.mono ?_
  rintro e w5 ⟨A5, zs, c5, rfl, hc5, hn5, hv5, hr5, b5⟩
  have l5 := len_add (b := 4294967296) (n := a.length + 1) (by omega) hn5.2 hn3.1 hn4.1 (by rw [hv5, hv4]) (by omega) (by omega)
  have B5 := B4.trans (b5.mono B4.size)
  have cT := nat_Shift zs A5 c5 ((n / 4 % 32 : Nat) : Int) _ w5 hr5 (fun g hg => hg) (by omega) hc5 hn5.1 (by omega) (by omega)
  rw [shift_up _ _ (Nat.mod_lt _ (by omega)), hv5, show ((n / 4 % 32 : Nat) : Int) = (n : Int) / 4 % 32 by omega] at cT
  clear cA hv4
  go_wp2_with fail
  refine cT.mono ?_
  rintro e w6 ⟨A6, out, c6, rfl, hc6, hn6, hv6, hr6, b6⟩
  have B6 := B5.trans (b6.mono B5.size)
  have l6 : out.length ≤ a.length + 3 := hn6.2.length_le (b := 4294967296) (by omega) (by
    rw [hv6, ← hv5]
    have h1 := val_lt_pow hn5.1 (by omega) l5
    have h2 : 2 ^ (n / 4 % 32) ≤ 4294967296 := Nat.pow_le_pow_right (n := 2) (by omega) (show n / 4 % 32 ≤ 32 by omega)
    rw [Nat.pow_succ]
    exact Nat.lt_of_le_of_lt (Nat.mul_le_mul_left _ h2) (Nat.mul_lt_mul_of_pos_right h1 (by omega)))
  have hpos : 0 < val 4294967296 out := by rw [hv6]; exact Nat.mul_pos (by omega) (Nat.pow_pos (by omega))
  have hne6 : out ≠ [] := by rintro rfl; simp [val] at hpos
  have hlen6 : 0 < out.length := List.length_pos_iff.2 hne6
  obtain ⟨bo, oo, rfl, hbo, hco⟩ := hr6 hlen6
  have hmk : ∀ u : World, (Instr.makeSlice 22 (.int .i64 ((n : Int) / 4 / 32)) (.int .i64 ((n : Int) / 4 / 32))).run Try.prog u =
      .ok (.slice (some ⟨u.heap.size, 0, none⟩) (n / 4 / 32) (n / 4 / 32)) (u.alloc (.cells (cells .u32 (List.replicate (n / 4 / 32) 0)).toArray 36)) := fun u => by
    have := make_words (n / 4 / 32) (by omega) u
    rwa [show ((n / 4 / 32 : Nat) : Int) = (n : Int) / 4 / 32 by omega] at this
  obtain ⟨ti, hti, hz0, hz1, hz2⟩ := info_parts info_u32
  have hown := Num.Own.made w6 36 .u32 (n / 4 / 32) (by unfold maxLen; omega)
  have hnews : ∀ (j : Nat) (u : Value), (cells .u32 out)[j]? = some u → (w6.alloc (.cells (cells .u32 (List.replicate (n / 4 / 32) 0)).toArray 36)).cell? ((⟨bo, oo, none⟩ : Addr).add j) = some u := fun j u hu => by
    have hj : j < out.length := by have := (List.getElem?_eq_some_iff.1 hu).1; rwa [length_cells] at this
    rw [get_cells hj] at hu
    rw [add_mk, ← hu, ← hco j hj]
    exact (below_one w6 _).cell (p := ⟨bo, oo + j, none⟩) hbo
  have BN := B6.trans ((below_one w6 (.cells (cells .u32 (List.replicate (n / 4 / 32) 0)).toArray 36)).mono B6.size)
  have HV6 := Lib.hid hv6
  have HW := Lib.hid hnews
  clear cT hv6 hv5 hco hnews hpos
  go_wp2_with (at_builtin; refine wpList_append_lies _ rfl _ _ _ rfl w6.heap.size 36 ti _ 1 4 Try.underlying22 hti hz0 hz1 hz2 rfl (by omega) _ (n / 4 / 32) _ rfl (by have := hown; unfold Own at this; rw [List.length_replicate] at this; exact this) _ out.length _ (cells .u32 out) rfl (by rw [length_cells, Nat.mul_one]) HW.out (one_cells _ _) hlen6 (by unfold maxLen; omega) (by omega) (by simp) _ rfl ?_; intro g cap w7 h1 h2 _ _)
  go_ret
  have hO : Own w7 w6.heap.size 36 .u32 (.slice (some ⟨g, 0, none⟩) (List.replicate (n / 4 / 32) 0 ++ out).length cap) (List.replicate (n / 4 / 32) 0 ++ out) := by
    unfold Own
    rw [List.length_append, List.length_replicate, cells_append]
    exact h1
  have BF := below_app (xs := List.replicate (n / 4 / 32) 0) (t := 36) (k := .u32) (base := w6.heap.size) BN h2 hown (Nat.le_trans B6.size (below_one w6 _).size) B6.size
  have hval : val 4294967296 (List.replicate (n / 4 / 32) 0 ++ out) = (val 4294967296 ys + 1) * 2 ^ (n / 4) := by
    rw [val_append, val_zeros, List.length_replicate, HV6.out, up_val, Nat.zero_add]
  obtain ⟨A7, c7, e7, hc7, -, hr7⟩ := hO.form
  obtain ⟨rfl, -, rfl⟩ : some ⟨g, 0, none⟩ = A7 ∧ True ∧ cap = c7 := by injection e7 with e1 e2 e3; exact ⟨e1, trivial, e3⟩
  refine ⟨_, List.replicate (n / 4 / 32) 0 ++ out, cap, by rw [List.length_append, List.length_replicate]; rfl, hc7, by rw [List.length_append, List.length_replicate]; omega, ⟨Dg.append.2 ⟨Dg.zeros (by omega), hn6.1⟩, top_append hn6.2 hne6⟩, ?_, ?_, hr7.imp (fun g hg => hg.2), BF⟩
  · rw [hval]; exact Nat.mul_pos (by omega) (Nat.pow_pos (by omega))
  · rw [hval]
    exact root_up (by rw [HH.out]; exact HV3.out)

set_option maxHeartbeats 1600000 in
theorem root_Sqrt_step (a : List Nat) (A : Option Addr) (ca : Nat) (w : World) (h : Rd w (fun g => g < w.heap.size) .u32 A a) (hl : a.length ≤ 134217728) (hc : a.length ≤ ca) (ha : Dg 4294967296 a) (IH : SqrtUpto (val 4294967296 a)) :
    Calls Try.prog 17 #[.slice A a.length ca] w (GivesRoot (val 4294967296 a) w) := by
  have cu := nat_Uint a A ca _ w h (by omega) hc ha
  by_cases hbig : val 4294967296 a < 18446744073709551616
  · obtain ⟨N, hN⟩ : ∃ N, val 4294967296 a = N := ⟨_, rfl⟩
    rw [hN] at cu hbig ⊢
    have cs := root_sqrtSmall N hbig w
    go_enter Try.func17, Try.ntmps17
    go_wp2_with fail
    go_step3
    go_wp2_with fail
    refine cu.mono ?_
    rintro e w1 ⟨rfl, ⟨_, rfl⟩ | ⟨hn, rfl⟩⟩
    · go_wp2_with fail
      refine cs.mono ?_
      rintro e w1 ⟨r, rfl, hr, hr2, k, rfl⟩
      have co := nat_Of r (by omega) (w.drewN k)
      clear cs cu
      go_wp2_with fail
      refine co.mono ?_
      rintro e w1 ⟨A1, xs, c1, rfl, hc1, hn1, hv1, hr1, hb1⟩
      have HV := Lib.hid hv1
      clear hv1 co
      go_wp2_with fail
      rw [Exit.noGoto_ret]
      go_ret
      exact ⟨A1, xs, c1, rfl, hc1, hn1, by rw [HV.out]; exact hr, hr1, (below_drewN (Below.refl w.heap.size w) k).trans hb1⟩
    · exact absurd hbig hn
  · have cv := root_above a A ca w h hl hc ha hbig IH
    obtain ⟨N, hN⟩ : ∃ N, val 4294967296 a = N := ⟨_, rfl⟩
    rw [hN] at cu cv hbig ⊢
    go_enter Try.func17, Try.ntmps17
    have hN2 := hN
    go_wp2_with fail
    refine wp_scope_ghost 0 (fun gh a' w' => ∃ (X : Option Addr) (x : List Nat) (dx : Nat) (u3 u4 u6 u7 u8 u9 u10 u11 u12 u13 u14 u15 u16 u17 u18 u19 u20 u21 u22 u23 u24 u25 u26 u27 u28 u29 u30 u31 u32 u33 u34 u35 u36 u37 : Value), a' = { tmps := #[.slice A a.length ca, undef, .slice none 0 0, u3, u4, .slice X x.length dx, u6, u7, u8, u9, u10, u11, u12, u13, u14, u15, u16, u17, u18, u19, u20, u21, u22, u23, u24, u25, u26, u27, u28, u29, u30, u31, u32, u33, u34, u35, u36, u37], defers := [] } ∧ val 4294967296 x = gh ∧ x.length ≤ dx ∧ x.length ≤ 402653184 ∧ Norm 4294967296 x ∧ 0 < val 4294967296 x ∧ N < (val 4294967296 x + 1) * (val 4294967296 x + 1) ∧ Rd w' (fun g => g < w'.heap.size) .u32 X x ∧ Below w.heap.size w w') rfl ?_ ?_
    · go_wp2_with fail
      refine cu.mono ?_
      rintro e w1 ⟨rfl, ⟨hn, rfl⟩ | ⟨_, rfl⟩⟩
      · exact absurd hn hbig
      · go_wp2_with fail
        refine cv.mono ?_
        rintro e w1 ⟨X, x, dx, rfl, hdx, hxl, hxn, hx0, hx1, hrx, hB⟩
        clear cu cv
        have hxl : x.length ≤ 402653184 := by omega
        have hx1 := Nat.lt_of_lt_of_le hx1 (Nat.mul_le_mul (Nat.le_succ (val 4294967296 x)) (Nat.le_succ (val 4294967296 x)))
        go_wp2_with fail
        go_step3
        have cD := nat_Div a x A X ca dx _ _ w1 (h.on hB) hrx (fun g hg => hg) (fun g hg => hg) (by omega) (by omega) hc hdx ha hxn.1
        rw [hN] at cD
        have hnx := newton_next (N := N) (r := val 4294967296 x) hx0
        have hne : val 4294967296 x ≤ (val 4294967296 x + N / val 4294967296 x) / 2 → IsRoot N (val 4294967296 x) := newton_end hx1 hx0
        have hgt : 0 < (val 4294967296 x + N / val 4294967296 x) / 2 := newton_pos hx1 (by omega) hx0
        have hs := hB.size
        obtain ⟨R, hR⟩ : ∃ R, val 4294967296 x = R := ⟨_, rfl⟩
        rw [hR] at hnx hne hgt cD hx0 hx1
        have HR := Lib.hid hR
        have HX := Lib.hid hnx
        have HE := Lib.hid hne
        have HG := Lib.hid hgt
        have HN := Lib.hid hN
        clear hR hnx hne hgt hN hN2
        go_wp2_with fail
        refine cD.mono ?_
        rintro e w2 ⟨A2, q, c2, A3, r, c3, rfl, hc2, -, hn2, -, hv2, -, hr2, -, b2⟩
        have B2 := hB.trans (b2.mono hs)
        have hql := len_le (b := 4294967296) (by omega) hn2.2 ha (by rw [hv2, HN.out]; exact Nat.div_le_self _ _)
        have cA := nat_Add x q X A2 dx c2 _ _ w2 (hrx.on b2) hr2 (fun g hg => hg) (fun g hg => hg) (by omega) (by omega) hdx hc2 hxn.1 hn2.1
        rw [hv2, HR.out] at cA
        have HV2 := Lib.hid hv2
        clear cD hv2
        go_wp2_with fail
        refine cA.mono ?_
        rintro e w3 ⟨A4, s, c4, rfl, hc4, hn4, hv4, hr4, b4⟩
        have hsl := len_add (b := 4294967296) (n := 402653184) (by omega) hn4.2 hxn.1 hn2.1 (by rw [hv4, HV2.out, HR.out]) (by omega) (by omega)
        have B4 := B2.trans (b4.mono B2.size)
        have cS := nat_Shift s A4 c4 (-1) _ w3 hr4 (fun g hg => hg) (by omega) hc4 hn4.1 (by omega) (by omega)
        rw [shift_half, hv4] at cS
        have HV4 := Lib.hid hv4
        clear cA hv4
        go_wp2_with fail
        refine cS.mono ?_
        rintro e w4 ⟨A5, y, c5, rfl, hc5, hn5, hv5, hr5, b5⟩
        have B5 := B4.trans (b5.mono B4.size)
        have hyl := len_le (b := 4294967296) (by omega) hn5.2 hn4.1 (by rw [hv5, HV4.out]; omega)
        have cC := nat_Cmp y x A5 X c5 dx _ _ w4 hr5 (((hrx.on b2).on b4).on b5) (by omega) (by omega) hc5 hdx hn5.1 hxn.1
        rw [hv5, HR.out] at cC
        have HV5 := Lib.hid hv5
        obtain ⟨z, hz⟩ : ∃ z, cmpI ((R + N / R) / 2) R = z := ⟨_, rfl⟩
        have hz2 : z < 0 ↔ (R + N / R) / 2 < R := by rw [← hz]; exact cmpI_neg _ _
        rw [hz] at cC
        clear cS hv5 hz
        go_wp2_with fail
        refine cC.mono ?_
        rintro e w5 ⟨rfl, k, rfl⟩
        have BZ := B5.trans ((below_drewN (Below.refl w4.heap.size w4) k).mono B5.size)
        have HZ := Lib.hid hz2
        clear cC hz2
        by_cases hlt : z < 0
        · go_wp2_with fail
          go_step3
          have hTR := HZ.out.1 hlt
          have hyl2 := len_le (b := 4294967296) (by omega) hn5.2 hxn.1 (by rw [HV5.out, HR.out]; omega)
          exact ⟨rfl, _, A5, y, c5, _, _, _, _, _, _, _, _, _, _, _, _, _, _, _, _, _, _, _, _, _, _, _, _, _, _, _, _, _, _, _, _, _, _, rfl, HV5.out, hc5, by omega, hn5, by rw [HV5.out]; exact HG.out, by rw [HV5.out]; exact HX.out, hr5.drewN k, BZ⟩
        · go_wp2_with fail
          simp only [Exit.jump]
          go_ret
          have hroot := HE.out (by rcases Nat.lt_or_ge ((R + N / R) / 2) R with h | h; exact absurd (HZ.out.2 h) (by omega); exact h)
          exact ⟨X, x, dx, rfl, hdx, hxn, by rw [HR.out]; exact hroot, (((hrx.on b2).on b4).on b5).drewN k, BZ⟩
    · rintro gh a' w' ⟨X, x, dx, u3, u4, u6, u7, u8, u9, u10, u11, u12, u13, u14, u15, u16, u17, u18, u19, u20, u21, u22, u23, u24, u25, u26, u27, u28, u29, u30, u31, u32, u33, u34, u35, u36, u37, rfl, hgh, hdx, hxl, hxn, hx0, hx1, hrx, hB⟩
      clear cu cv
      have cD := nat_Div a x A X ca dx _ _ w' (h.on hB) hrx (fun g hg => hg) (fun g hg => hg) (by omega) (by omega) hc hdx ha hxn.1
      rw [hN] at cD
      have hnx := newton_next (N := N) (r := val 4294967296 x) hx0
      have hne : val 4294967296 x ≤ (val 4294967296 x + N / val 4294967296 x) / 2 → IsRoot N (val 4294967296 x) := newton_end hx1 hx0
      have hgt : 0 < (val 4294967296 x + N / val 4294967296 x) / 2 := newton_pos hx1 (by omega) hx0
      have hs := hB.size
      obtain ⟨R, hR⟩ : ∃ R, val 4294967296 x = R := ⟨_, rfl⟩
      rw [hR] at hnx hne hgt cD hx0 hx1
      have HR := Lib.hid hR
      have HX := Lib.hid hnx
      have HE := Lib.hid hne
      have HG := Lib.hid hgt
      have HN := Lib.hid hN
      clear hR hnx hne hgt hN hN2
      go_wp2_with fail
      refine cD.mono ?_
      rintro e w2 ⟨A2, q, c2, A3, r, c3, rfl, hc2, -, hn2, -, hv2, -, hr2, -, b2⟩
      have B2 := hB.trans (b2.mono hs)
      have hql := len_le (b := 4294967296) (by omega) hn2.2 ha (by rw [hv2, HN.out]; exact Nat.div_le_self _ _)
      have cA := nat_Add x q X A2 dx c2 _ _ w2 (hrx.on b2) hr2 (fun g hg => hg) (fun g hg => hg) (by omega) (by omega) hdx hc2 hxn.1 hn2.1
      rw [hv2, HR.out] at cA
      have HV2 := Lib.hid hv2
      clear cD hv2
      go_wp2_with fail
      refine cA.mono ?_
      rintro e w3 ⟨A4, s, c4, rfl, hc4, hn4, hv4, hr4, b4⟩
      have hsl := len_add (b := 4294967296) (n := 402653184) (by omega) hn4.2 hxn.1 hn2.1 (by rw [hv4, HV2.out, HR.out]) (by omega) (by omega)
      have B4 := B2.trans (b4.mono B2.size)
      have cS := nat_Shift s A4 c4 (-1) _ w3 hr4 (fun g hg => hg) (by omega) hc4 hn4.1 (by omega) (by omega)
      rw [shift_half, hv4] at cS
      have HV4 := Lib.hid hv4
      clear cA hv4
      go_wp2_with fail
      refine cS.mono ?_
      rintro e w4 ⟨A5, y, c5, rfl, hc5, hn5, hv5, hr5, b5⟩
      have B5 := B4.trans (b5.mono B4.size)
      have hyl := len_le (b := 4294967296) (by omega) hn5.2 hn4.1 (by rw [hv5, HV4.out]; omega)
      have cC := nat_Cmp y x A5 X c5 dx _ _ w4 hr5 (((hrx.on b2).on b4).on b5) (by omega) (by omega) hc5 hdx hn5.1 hxn.1
      rw [hv5, HR.out] at cC
      have HV5 := Lib.hid hv5
      obtain ⟨z, hz⟩ : ∃ z, cmpI ((R + N / R) / 2) R = z := ⟨_, rfl⟩
      have hz2 : z < 0 ↔ (R + N / R) / 2 < R := by rw [← hz]; exact cmpI_neg _ _
      rw [hz] at cC
      clear cS hv5 hz
      go_wp2_with fail
      refine cC.mono ?_
      rintro e w5 ⟨rfl, k, rfl⟩
      have BZ := B5.trans ((below_drewN (Below.refl w4.heap.size w4) k).mono B5.size)
      have HZ := Lib.hid hz2
      clear cC hz2
      by_cases hlt : z < 0
      · go_wp2_with fail
        go_step3
        have hTR := HZ.out.1 hlt
        have hyl2 := len_le (b := 4294967296) (by omega) hn5.2 hxn.1 (by rw [HV5.out, HR.out]; omega)
        exact ⟨rfl, (R + N / R) / 2, by rw [← hgh, HR.out]; exact hTR, A5, y, c5, _, _, _, _, _, _, _, _, _, _, _, _, _, _, _, _, _, _, _, _, _, _, _, _, _, _, _, _, _, _, _, _, _, _, rfl, HV5.out, hc5, by omega, hn5, by rw [HV5.out]; exact HG.out, by rw [HV5.out]; exact HX.out, hr5.drewN k, BZ⟩
      · go_wp2_with fail
        simp only [Exit.jump]
        go_ret
        have hroot := HE.out (by rcases Nat.lt_or_ge ((R + N / R) / 2) R with h | h; exact absurd (HZ.out.2 h) (by omega); exact h)
        exact ⟨X, x, dx, rfl, hdx, hxn, by rw [HR.out]; exact hroot, (((hrx.on b2).on b4).on b5).drewN k, BZ⟩

/-- THE ROOT -/
theorem root_Sqrt (a : List Nat) (A : Option Addr) (ca : Nat) (w : World) (h : Rd w (fun g => g < w.heap.size) .u32 A a) (hl : a.length ≤ 134217728) (hc : a.length ≤ ca) (ha : Dg 4294967296 a) :
    Calls Try.prog 17 #[.slice A a.length ca] w (GivesRoot (val 4294967296 a) w) := by
  have key : ∀ M, SqrtUpto M := by
    intro M
    induction M using Nat.strongRecOn with
    | _ M ih =>
      intro a A ca w hM h hl hc ha
      exact root_Sqrt_step a A ca w h hl hc ha (ih _ hM)
  exact key (val 4294967296 a + 1) a A ca w (by omega) h hl hc ha
end Go.Proofs.Ytoidhoiadkafhaa
