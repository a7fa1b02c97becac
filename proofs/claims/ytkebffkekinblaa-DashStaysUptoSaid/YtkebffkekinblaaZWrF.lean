/- Whole numbers, the document's own: what Int answers. -/
import Derived.Test.YtkebffkekinblaaZWrY
import Derived.Test.YtkebffkekinblaaZOaD
import Derived.Deep.CutRange
import Derived.Deep.RegionWith
namespace Go.Proofs.Ytkebffkekinblaa
open Go.RowKit Num

theorem val_drop_le' (b i : Nat) (hb : 0 < b) (cs : List Nat) : val b (cs.drop i) ≤ val b cs := by
  rcases Nat.lt_or_ge i cs.length with h | h
  · rw [val_split (b := b) (k := i) (xs := cs) (by omega)]
    have : 1 * val b (cs.drop i) ≤ b ^ i * val b (cs.drop i) := Nat.mul_le_mul_right _ (Nat.pow_pos hb)
    omega
  · rw [List.drop_eq_nil_of_le h]; simp [val]

theorem box_keep {w W w1 : World} {B : Nat} {x y : Value} (k1 : W.cell? ⟨w.heap.size, 0, none⟩ = some x) (k2 : W.cell? ⟨w.heap.size, 1, none⟩ = some y) (hB : w.heap.size < B) (hb : Below B W w1) : w1.cell? ⟨w.heap.size, 0, none⟩ = some x ∧ w1.cell? ⟨w.heap.size, 1, none⟩ = some y :=
  ⟨(hb.cell (p := ⟨w.heap.size, 0, none⟩) hB).trans k1, (hb.cell (p := ⟨w.heap.size, 1, none⟩) hB).trans k2⟩

set_option maxRecDepth 100000 in
set_option maxHeartbeats 6400000 in
theorem ref2_Int (n1 : Bool) (a : List Nat) (A : Option Addr) (ca : Nat) (w : World) (h : Rd w (fun g => g < w.heap.size) .u32 A a) (hl : a.length ≤ 268435456) (ha : Dg 4294967296 a) :
    Calls Try.prog 70 #[.agg #[.bool n1, .slice A a.length ca]] w (IntIs (wv n1 a) w) := by
  have B0 := below_new w (.cells #[.bool n1, .slice A a.length ca] 79)
  have cO1 : ∀ V, Calls Try.prog 69 #[.int .i64 (-9223372036854775808)] V (fun e w' => ∃ A xs c, e = .returned (.agg #[.bool true, .slice A xs.length c]) ∧ xs.length ≤ 3 ∧ Norm 4294967296 xs ∧ wv true xs = -9223372036854775808 ∧ Rd w' (fun g => g < w'.heap.size) .u32 A xs ∧ Below V.heap.size V w') := fun V => by
    refine (ref2_Of (-9223372036854775808) (by omega) (by omega) V).mono ?_
    rintro e w' ⟨A, xs, c, rfl, hc, hn, hv, hr, hb⟩
    exact ⟨A, xs, c, rfl, hn.2.length_le (b := 4294967296) (by omega) (by rw [hv]; decide), hn, by rw [wv_true, hv]; rfl, hr, hb⟩
  have cO2 : ∀ V, Calls Try.prog 69 #[.int .i64 9223372036854775807] V (fun e w' => ∃ A xs c, e = .returned (.agg #[.bool false, .slice A xs.length c]) ∧ xs.length ≤ 3 ∧ Norm 4294967296 xs ∧ wv false xs = 9223372036854775807 ∧ Rd w' (fun g => g < w'.heap.size) .u32 A xs ∧ Below V.heap.size V w') := fun V => by
    refine (ref2_Of 9223372036854775807 (by omega) (by omega) V).mono ?_
    rintro e w' ⟨A, xs, c, rfl, hc, hn, hv, hr, hb⟩
    exact ⟨A, xs, c, rfl, hn.2.length_le (b := 4294967296) (by omega) (by rw [hv]; decide), hn, by rw [wv_false, hv]; rfl, hr, hb⟩
  obtain ⟨N, hN⟩ : ∃ N, wv n1 a = N := ⟨_, rfl⟩
  obtain ⟨z1, hz1⟩ : ∃ z, sgn (N - -9223372036854775808) = z := ⟨_, rfl⟩
  obtain ⟨z2, hz2⟩ : ∃ z, sgn (N - 9223372036854775807) = z := ⟨_, rfl⟩
  have cC1 : ∀ V, Below w.heap.size w V → ∀ (b : List Nat) (A' : Option Addr) (cb : Nat), Rd V (fun g => g < V.heap.size) .u32 A' b → b.length ≤ 3 → Norm 4294967296 b → wv true b = -9223372036854775808 → Calls Try.prog 85 #[.agg #[.bool n1, .slice A a.length ca], .agg #[.bool true, .slice A' b.length cb]] V fun e w' => e = .returned (.int .i64 z1) ∧ Below V.heap.size V w' := fun V hV b A' cb hr hl2 hn hb => by
    have := ref2_Cmp n1 true a b A A' ca cb V (h.on hV) hr (by omega) (by omega) ha hn.1
    rwa [hN, hb, hz1] at this
  have cC2 : ∀ V, Below w.heap.size w V → ∀ (b : List Nat) (A' : Option Addr) (cb : Nat), Rd V (fun g => g < V.heap.size) .u32 A' b → b.length ≤ 3 → Norm 4294967296 b → wv false b = 9223372036854775807 → Calls Try.prog 85 #[.agg #[.bool n1, .slice A a.length ca], .agg #[.bool false, .slice A' b.length cb]] V fun e w' => e = .returned (.int .i64 z2) ∧ Below V.heap.size V w' := fun V hV b A' cb hr hl2 hn hb => by
    have := ref2_Cmp n1 false a b A A' ca cb V (h.on hV) hr (by omega) (by omega) ha hn.1
    rwa [hN, hb, hz2] at this
  have CO1 := Lib.hid cO1
  have CO2 := Lib.hid cO2
  have CC1 := Lib.hid cC1
  have CC2 := Lib.hid cC2
  have HN := Lib.hid hN
  rw [hN]
  have hcase : (z1 = -1 ∧ isInt N = false) ∨ (z1 = 0 ∧ z2 = -1 ∧ isInt N = true) ∨ (z1 = 1 ∧ z2 = -1 ∧ isInt N = true) ∨ (z1 = 1 ∧ z2 = 0 ∧ isInt N = true) ∨ (z1 = 1 ∧ z2 = 1 ∧ isInt N = false) := by
    rw [← hz1, ← hz2]
    by_cases q1 : N < -9223372036854775808
    · exact .inl ⟨by rw [sgn, if_pos (by omega)], (isInt_no (.inl q1)).1⟩
    by_cases q2 : N = -9223372036854775808
    · exact .inr (.inl ⟨by rw [sgn, if_neg (by omega), if_neg (by omega)], by rw [sgn, if_pos (by omega)], (isInt_yes (by omega) (by omega)).1⟩)
    by_cases q3 : N < 9223372036854775807
    · exact .inr (.inr (.inl ⟨by rw [sgn, if_neg (by omega), if_pos (by omega)], by rw [sgn, if_pos (by omega)], (isInt_yes (by omega) (by omega)).1⟩))
    by_cases q4 : N = 9223372036854775807
    · exact .inr (.inr (.inr (.inl ⟨by rw [sgn, if_neg (by omega), if_pos (by omega)], by rw [sgn, if_neg (by omega), if_neg (by omega)], (isInt_yes (by omega) (by omega)).1⟩)))
    · exact .inr (.inr (.inr (.inr ⟨by rw [sgn, if_neg (by omega), if_pos (by omega)], by rw [sgn, if_neg (by omega), if_pos (by omega)], (isInt_no (.inr (by omega))).1⟩)))
  clear cO1 cO2 cC1 cC2 hN hz1 hz2
  obtain ⟨W, hW, k1, k2, s1⟩ : ∃ W, w.alloc (.cells #[.bool n1, .slice A a.length ca] 79) = W ∧ W.cell? ⟨w.heap.size, 0, none⟩ = some (.bool n1) ∧ W.cell? ⟨w.heap.size, 1, none⟩ = some (.slice A a.length ca) ∧ w.heap.size < W.heap.size :=
    ⟨_, rfl, (cells_of (heap_alloc_new w _)).1, (cells_of (heap_alloc_new w _)).2.1, by simp⟩
  rw [hW] at B0
  have K0 : Below W.heap.size W W.drew := below_drewN (Below.refl _ _) 1
  go_enter Try.func70, Try.ntmps70
  go_wp2_with fail
  try rw [hW]
  clear hW
  go_cut [15] from 6 (fun v15 wc => v15 = .bool (!isInt N) ∧ Below W.heap.size W wc)
  case first =>
    rcases hcase with ⟨rfl, q3⟩ | ⟨rfl, rfl, q3⟩ | ⟨rfl, rfl, q3⟩ | ⟨rfl, rfl, q3⟩ | ⟨rfl, rfl, q3⟩
    all_goals
      have Q3 := Lib.hid q3
      clear q3
      go_region_with (first
        | (go_at_call 69; (with_reducible refine Calls.mono (CO1.out _) ?_); rintro e w1 ⟨A1, xs, c1, rfl, hl1, hn1, hw1, hr1, hb1⟩; have K1 := next K0 (Nat.le_refl _) hb1; obtain ⟨j1, j2⟩ := box_keep k1 k2 s1 K1)
        | (go_at_call 85; (with_reducible refine Calls.mono (CC1.out _ (B0.trans (K1.mono B0.size)) xs A1 c1 hr1 hl1 hn1 hw1) ?_); rintro e w2 ⟨rfl, hb2⟩; have K2 := next K1 (Nat.le_refl _) hb2; obtain ⟨j3, j4⟩ := box_keep k1 k2 s1 K2)
        | (go_at_call 69; (with_reducible refine Calls.mono (CO2.out _) ?_); rintro e w3 ⟨A3, ys, c3, rfl, hl3, hn3, hw3, hr3, hb3⟩; have K3 := next K2 (Nat.le_refl _) hb3; obtain ⟨j5, j6⟩ := box_keep k1 k2 s1 K3)
        | (go_at_call 85; (with_reducible refine Calls.mono (CC2.out _ (B0.trans (K3.mono B0.size)) ys A3 c3 hr3 hl3 hn3 hw3) ?_); rintro e w4 ⟨rfl, hb4⟩; have K4 := next K3 (Nat.le_refl _) hb4))
      all_goals
        go_wp2_with fail
        go_meet
        first
          | exact ⟨by rw [Q3.out]; rfl, K4⟩
          | exact ⟨by rw [Q3.out]; rfl, K2⟩
  case rest =>
    obtain ⟨rfl, BC⟩ := hcut
    clear CO1 CO2 CC1 CC2 K0 hcase
    have BB := B0.trans (BC.mono B0.size)
    obtain ⟨j1, j2⟩ := box_keep k1 k2 s1 BC
    by_cases hi : isInt N = true
    · have hi2 : (!isInt N) = false := by rw [hi]; rfl
      rw [hi2]
      have hlo : -9223372036854775808 ≤ N ∧ N ≤ 9223372036854775807 := by simpa [isInt] using hi
      have hO : intOr0 N = N := by rw [intOr0, hi]; rfl
      have HI := Lib.hid hi
      have HO := Lib.hid hO
      clear hi hi2 hO k1 k2
      cases n1
      · have HV := Lib.hid (show N = (val 4294967296 a : Int) by rw [← HN.out]; rfl)
        have hmax : val 4294967296 a ≤ 9223372036854775807 := by have := HV.out; omega
        have HM := Lib.hid hmax
        have hra := h.on BB
        clear hlo hmax
        go_wp2_with fail
        go_loopg [4, 5] a.length (fun g v i wr => ((∃ k : Nat, g = k + 1 ∧ i = .int .i64 k) ∨ (g = 0 ∧ i = .int .i64 (-1))) ∧ g ≤ a.length ∧ wc = wr ∧ v = .int .i64 ((val 4294967296 (a.drop g) : Nat)))
        case atStart =>
          refine ⟨?_, Nat.le_refl _, rfl, by rw [List.drop_length]; rfl⟩
          by_cases h0 : a.length = 0
          · refine .inr ⟨h0, ?_⟩; congr 1; omega
          · refine .inl ⟨a.length - 1, by omega, ?_⟩; congr 1; omega
        case round =>
          obtain ⟨⟨k, rfl, rfl⟩ | ⟨rfl, rfl⟩, hg, rfl, rfl⟩ := hrel
          · have hk : k < a.length := by omega
            obtain ⟨b, o, rfl, _, hc⟩ := hra.at_ hk
            have hp1 := ha.get hk
            have hd := val_drop_succ (b := 4294967296) hk
            have hv := val_drop_le' 4294967296 k (by omega) a
            have hm := HM.out
            obtain ⟨p, hp⟩ : ∃ p, a[k] = p := ⟨_, rfl⟩
            obtain ⟨v, hve⟩ : ∃ v, val 4294967296 (a.drop (k + 1)) = v := ⟨_, rfl⟩
            rw [hp] at hc hp1 hd
            rw [hve] at hd ⊢
            have hb1 : p + 4294967296 * v ≤ 9223372036854775807 := by omega
            have HD := Lib.hid hd
            clear hp hve hv hd hm
            skip
            go_wp2_with fail
            go_roundg k
            case measure => omega
            case rel =>
              refine ⟨?_, by omega, rfl, ?_⟩
              · by_cases h0 : k = 0
                · subst h0; exact .inr ⟨rfl, by go_num⟩
                · exact .inl ⟨k - 1, by omega, by go_num⟩
              · rw [HD.out]; congr 1; omega
          · go_wp2_with fail
            go_ret2
            refine ⟨?_, BB⟩
            rw [HO.out, HI.out, HV.out, List.drop_zero]; rfl
      · have HV := Lib.hid (show N = -(val 4294967296 a : Int) by rw [← HN.out]; rfl)
        have hmax : val 4294967296 a ≤ 9223372036854775808 := by have := HV.out; omega
        have HM := Lib.hid hmax
        have hra := h.on BB
        clear hlo hmax
        go_wp2_with fail
        go_loopg [4, 5] a.length (fun g v i wr => ((∃ k : Nat, g = k + 1 ∧ i = .int .i64 k) ∨ (g = 0 ∧ i = .int .i64 (-1))) ∧ g ≤ a.length ∧ wc = wr ∧ v = .int .i64 (-(val 4294967296 (a.drop g) : Nat)))
        case atStart =>
          refine ⟨?_, Nat.le_refl _, rfl, by rw [List.drop_length]; rfl⟩
          by_cases h0 : a.length = 0
          · refine .inr ⟨h0, ?_⟩; congr 1; omega
          · refine .inl ⟨a.length - 1, by omega, ?_⟩; congr 1; omega
        case round =>
          obtain ⟨⟨k, rfl, rfl⟩ | ⟨rfl, rfl⟩, hg, rfl, rfl⟩ := hrel
          · have hk : k < a.length := by omega
            obtain ⟨b, o, rfl, _, hc⟩ := hra.at_ hk
            have hp1 := ha.get hk
            have hd := val_drop_succ (b := 4294967296) hk
            have hv := val_drop_le' 4294967296 k (by omega) a
            have hm := HM.out
            obtain ⟨p, hp⟩ : ∃ p, a[k] = p := ⟨_, rfl⟩
            obtain ⟨v, hve⟩ : ∃ v, val 4294967296 (a.drop (k + 1)) = v := ⟨_, rfl⟩
            rw [hp] at hc hp1 hd
            rw [hve] at hd ⊢
            have hb1 : p + 4294967296 * v ≤ 9223372036854775808 := by omega
            have HD := Lib.hid hd
            clear hp hve hv hd hm
            skip
            go_wp2_with fail
            go_roundg k
            case measure => omega
            case rel =>
              refine ⟨?_, by omega, rfl, ?_⟩
              · by_cases h0 : k = 0
                · subst h0; exact .inr ⟨rfl, by go_num⟩
                · exact .inl ⟨k - 1, by omega, by go_num⟩
              · rw [HD.out]; congr 1; omega
          · go_wp2_with fail
            go_ret2
            refine ⟨?_, BB⟩
            rw [HO.out, HI.out, HV.out, List.drop_zero]; rfl
    · have hi' : isInt N = false := by simpa using hi
      have hi2 : (!isInt N) = true := by rw [hi']; rfl
      rw [hi2]
      have HI := Lib.hid hi'
      clear hi hi' hi2
      go_wp2_with fail
      go_ret2
      refine ⟨?_, BB⟩
      rw [HI.out, intOr0, HI.out]; rfl
end Go.Proofs.Ytkebffkekinblaa
