/- What the program's own long division answers: divWord, guess. -/
import Derived.Test.YtoidhoiadkafhaaNatF
import Derived.Test.YtoidhoiadkafhaaDivN
import Derived.BigQuiet
namespace Go.Proofs.Ytoidhoiadkafhaa
open Go.RowKit Num

theorem div_word_step {V p d q r : Nat} (hd : 0 < d) (hr : V % d = r) (hq : V / d = q) : (p + 4294967296 * V) / d = (p + 4294967296 * r) / d + 4294967296 * q ∧ (p + 4294967296 * V) % d = (p + 4294967296 * r) % d := by
  have h := Nat.div_add_mod V d
  rw [hr, hq] at h
  have e : p + 4294967296 * V = (p + 4294967296 * r) + d * (4294967296 * q) := by rw [← h]; grind
  rw [e, Nat.add_mul_div_left _ _ hd, Nat.add_mul_mod_self_left]
  exact ⟨rfl, rfl⟩

theorem u64_quo (N D : Nat) (hN : N < 18446744073709551616) : IntKind.u64.wrap ((N : Int) / (D : Int)) = ((N / D : Nat) : Int) := by
  have h2 : N / D < 18446744073709551616 := Nat.lt_of_le_of_lt (Nat.div_le_self _ _) hN
  rw [← Int.natCast_ediv]
  generalize N / D = q at h2
  exact IntWalk.u64_in _ (by omega)

set_option maxHeartbeats 800000 in
/-- the words of block g become how often d is in them; what is left is answered -/
theorem nat_divWord (zs tl : List Nat) (g c d : Nat) (t : TypeId) (w : World) (hrow : Row w g t .u32 (zs ++ tl)) (hl : zs.length ≤ 4294967296) (hz : Dg 4294967296 zs) (hd0 : 0 < d) (hd : d < 4294967296) :
    Calls Try.prog 49 #[.slice (some ⟨g, 0, none⟩) zs.length c, .int .u32 d] w fun e w' => e = .returned (.int .u32 ((val 4294967296 zs % d : Nat) : Int)) ∧ ∃ cs, cs.length = zs.length ∧ Dg 4294967296 cs ∧ val 4294967296 cs = val 4294967296 zs / d ∧ Row w' g t .u32 (cs ++ tl) ∧ w.grownBy w' (some g) := by
  go_enter Try.func49, Try.ntmps49
  go_wp2_with fail
  go_loopg [5, 6] zs.length (fun gh c' i wr => ((∃ k : Nat, gh = k + 1 ∧ i = .int .i64 k) ∨ (gh = 0 ∧ i = .int .i64 (-1))) ∧ gh ≤ zs.length ∧ ∃ (b : Nat) (es : List Nat), c' = .int .u64 b ∧ b < d ∧ val 4294967296 (zs.drop gh) % d = b ∧ es.length + gh = zs.length ∧ Dg 4294967296 es ∧ Row wr g t .u32 (zs.take gh ++ (es ++ tl)) ∧ w.grownBy wr (some g) ∧
    val 4294967296 (zs.drop gh) / d = val 4294967296 es)
  case atStart =>
    refine ⟨?_, Nat.le_refl _, 0, [], rfl, hd0, by simp [val], by simp, Dg.nil _, by simpa using hrow, World.grownBy.refl _ _, by simp [val]⟩
    by_cases h0 : zs.length = 0
    · refine .inr ⟨h0, ?_⟩; congr 1; omega
    · refine .inl ⟨zs.length - 1, by omega, ?_⟩; congr 1; omega
  case round =>
    obtain ⟨⟨k, rfl, rfl⟩ | ⟨rfl, rfl⟩, hg, b, es, rfl, hb, hbv, hel, hed, hr, hgr, hv⟩ := hrel
    · have hk : k < zs.length := by omega
      have htl : (zs.take (k + 1)).length = k + 1 := by rw [List.length_take]; omega
      have ca := hr.cell (i := k) (by rw [List.length_append, htl]; omega)
      rw [List.getElem_append_left (by rw [htl]; omega), List.getElem_take] at ca
      have hf := hr.frozen k
      have hp1 := hz.get hk
      have hs1 := val_drop_succ (b := 4294967296) hk
      have hse : ∀ v, (zs.take (k + 1) ++ (es ++ tl)).set k v = zs.take k ++ ((v :: es) ++ tl) := fun v => by
        rw [List.set_append_left _ _ (by rw [htl]; omega), take_succ_get hk, List.set_append_right _ _ (by rw [List.length_take]; omega)]
        simp [Nat.min_eq_left (show k ≤ zs.length by omega)]
      obtain ⟨p, hp⟩ : ∃ p, zs[k] = p := ⟨_, rfl⟩
      rw [hp] at ca hp1 hs1
      have HS1 := Lib.hid hs1
      have HBV := Lib.hid hbv
      have HEL := Lib.hid hel
      have HV := Lib.hid hv
      have HSE := Lib.hid hse
      clear hp hs1 hbv hel hv hse htl
      have hb1 : b < 4294967296 := by omega
      have hor1 := or_words p b hp1 hb1
      have hN64 : p + 4294967296 * b < 18446744073709551616 := by omega
      have hNd : p + 4294967296 * b < d * 4294967296 := by omega
      have hst := fun h1 h2 => div_word_step (V := val 4294967296 (zs.drop (k + 1))) (p := p) (d := d) (q := val 4294967296 es) (r := b) hd0 h1 h2
      obtain ⟨N, hN⟩ : ∃ N, p + 4294967296 * b = N := ⟨_, rfl⟩
      rw [hN] at hor1 hN64 hNd hst
      have hor : bits BinOp.or IntKind.u64 ((b : Int) * 4294967296) (p : Int) = (N : Int) := by rw [← hor1]; congr 1
      have hquo := u64_quo N d hN64
      have hrem := tmod_nat N d
      have hq := Nat.div_lt_of_lt_mul hNd
      have HST := Lib.hid hst
      clear hor1 hst hN
      go_wp2_with fail
      go_roundg k
      case measure => omega
      case rel =>
        obtain ⟨e1, e2⟩ := HST.out HBV.out HV.out
        have e0 : ∀ Q : Nat, Q < 4294967296 → (Q : Int) % 4294967296 = Q := fun Q hQ => by omega
        have e3 : (N : Int) / (d : Int) % 4294967296 = ((N / d : Nat) : Int) := by
          rw [← Int.natCast_ediv, e0 _ hq]
        rw [e3]
        have hr2 := hr.set k (N / d)
        rw [HSE.out] at hr2
        refine ⟨?_, by omega, N % d, N / d :: es, by simp, Nat.mod_lt _ hd0, ?_, by have := HEL.out; simp; omega, Dg.cons.2 ⟨hq, hed⟩, hr2, grown_setCell hgr _ _, ?_⟩
        · by_cases h0 : k = 0
          · subst h0; exact .inr ⟨rfl, by go_num⟩
          · exact .inl ⟨k - 1, by omega, by go_num⟩
        · rw [HS1.out, e2]
        · rw [HS1.out, e1, val_cons]
    · rw [List.drop_zero] at hbv hv
      rw [List.take_zero, List.nil_append] at hr
      have HBV := Lib.hid hbv
      have HV := Lib.hid hv
      have HEL := Lib.hid hel
      have hb1 : b < 4294967296 := by omega
      clear hbv hv hel
      go_wp2
      go_ret
      exact ⟨by rw [HBV.out]; rfl, es, HEL.out, hed, HV.out.symm, hr, hgr⟩

set_option maxHeartbeats 1600000 in
/-- a guess at how often d is in left: as often as it is, or once more -/
theorem nat_guess (x d : List Nat) (k : Nat) (A A' : Option Addr) (c c' : Nat) (S S' : Nat → Prop) (w : World) (h : Rd w S .u32 A x) (h' : Rd w S' .u32 A' d) (hxl : x.length = k + 3) (hdl : d.length = k + 2) (hk : k ≤ 1073741824) (hx : Dg 4294967296 x) (hd : Dg 4294967296 d) (htop : 0 < d[k + 1]) (hlt : val 4294967296 x < 4294967296 * val 4294967296 d) :
    Calls Try.prog 72 #[.slice A (k + 3) c, .slice A' (k + 2) c'] w fun e w' => ∃ (q : Nat), e = .returned (.int .u32 q) ∧ q < 4294967296 ∧ val 4294967296 x / val 4294967296 d ≤ q ∧ (q - 1) * val 4294967296 d ≤ val 4294967296 x ∧ ∃ m, w' = w.drewN m := by
  obtain ⟨bx, ox, rfl, _, hcx⟩ := h (by omega)
  obtain ⟨bd, od, rfl, _, hcd⟩ := h' (by omega)
  have c0 := hcx k (by omega)
  have c1 := hcx (k + 1) (by omega)
  have c2 := hcx (k + 2) (by omega)
  have t0 := hcd k (by omega)
  have t1 := hcd (k + 1) (by omega)
  have l0 := hx.get (j := k) (by omega)
  have l1 := hx.get (j := k + 1) (by omega)
  have l2 := hx.get (j := k + 2) (by omega)
  have m0 := hd.get (j := k) (by omega)
  have m1 := hd.get (j := k + 1) (by omega)
  have hvx := val_three (b := 4294967296) hxl
  have hvd := val_two (b := 4294967296) hdl
  have hV0 := val_lt (b := 4294967296) (xs := x.take k) hx.take
  have hD0 := val_lt (b := 4294967296) (xs := d.take k) hd.take
  rw [List.length_take, Nat.min_eq_left (by omega)] at hV0 hD0
  have hPp : 0 < 4294967296 ^ k := Nat.pow_pos (by omega)
  obtain ⟨P, hP⟩ : ∃ P, 4294967296 ^ k = P := ⟨_, rfl⟩
  obtain ⟨V0, hV0e⟩ : ∃ V0, val 4294967296 (x.take k) = V0 := ⟨_, rfl⟩
  obtain ⟨D0, hD0e⟩ : ∃ D0, val 4294967296 (d.take k) = D0 := ⟨_, rfl⟩
  obtain ⟨p0, hp0⟩ : ∃ p, x[k] = p := ⟨_, rfl⟩
  obtain ⟨p1, hp1⟩ : ∃ p, x[k + 1] = p := ⟨_, rfl⟩
  obtain ⟨p2, hp2⟩ : ∃ p, x[k + 2] = p := ⟨_, rfl⟩
  obtain ⟨q0, hq0⟩ : ∃ p, d[k] = p := ⟨_, rfl⟩
  obtain ⟨q1, hq1⟩ : ∃ p, d[k + 1] = p := ⟨_, rfl⟩
  rw [hP] at hvx hvd hV0 hD0 hPp
  rw [hV0e] at hvx hV0
  rw [hD0e] at hvd hD0
  rw [hp0] at hvx c0 l0
  rw [hp1] at hvx c1 l1
  rw [hp2] at hvx c2 l2
  rw [hq0] at hvd t0 m0
  rw [hq1] at hvd t1 m1 htop
  rw [hvx, hvd] at hlt ⊢
  clear hP hV0e hD0e hp0 hp1 hp2 hq0 hq1 hcx hcd hvx hvd hx hd h h' hxl hdl
  have hle := guess_top hD0 m0 hlt
  obtain ⟨head, hhead⟩ : ∃ head, p1 + 4294967296 * p2 = head := ⟨_, rfl⟩
  rw [hhead] at hlt ⊢
  have hh64 : head < 18446744073709551616 := by omega
  have HH := Lib.hid hhead
  have HLT := Lib.hid hlt
  have hor1 := or_words p1 p2 l1 l2
  rw [hhead] at hor1
  clear hhead hlt
  have hor : bits BinOp.or IntKind.u64 ((p2 : Int) * 4294967296) (p1 : Int) = (head : Int) := by rw [← hor1]; congr 1
  have hquo := u64_quo head q1 hh64
  have hQ0 : (V0 + P * (p0 + 4294967296 * head)) / (D0 + P * (q0 + 4294967296 * q1)) ≤ head / q1 := guess_first hV0 l0 htop (Nat.div_mul_le_self _ _)
  have hr0 : head % q1 < 4294967296 := Nat.lt_trans (Nat.mod_lt _ htop) m1
  have hhr : head / q1 * q1 + head % q1 = head := by rw [Nat.mul_comm]; exact Nat.div_add_mod head q1
  have hQ64 : head / q1 < 18446744073709551616 := Nat.lt_of_le_of_lt (Nat.div_le_self _ _) hh64
  obtain ⟨Q, hQ⟩ : ∃ Q, (V0 + P * (p0 + 4294967296 * head)) / (D0 + P * (q0 + 4294967296 * q1)) = Q := ⟨_, rfl⟩
  rw [hQ] at hQ0
  have HQ := Lib.hid hQ
  have HQ0 := Lib.hid hQ0
  have HHR := Lib.hid hhr
  have HQ64 := Lib.hid hQ64
  have HR0 := Lib.hid hr0
  clear hor1 hQ hQ0 hhr hQ64 hr0
  go_enter Try.func72, Try.ntmps72
  go_wp2_with fail
  go_region
  go_wp2_with fail
  go_region
  go_wp2_with fail
  go_loopg [8, 9] (4294967296 - head % q1) (fun gh q' r' wr => ∃ (q r m : Nat), gh + r = 4294967296 ∧ q' = .int .u64 q ∧ r' = .int .u64 r ∧ wr = w.drewN m ∧ r < 4294967296 ∧ q * q1 + r = head ∧ Q ≤ q ∧ q < 18446744073709551616)
  case atStart => exact ⟨head / q1, head % q1, 2, by have := HR0.out; omega, rfl, rfl, rfl, HR0.out, HHR.out, HQ0.out, HQ64.out⟩
  case round =>
    obtain ⟨q, r, m, hg, rfl, rfl, rfl, hr, hqr, hQq, hq64⟩ := hrel
    have HG := Lib.hid hg
    have HQR := Lib.hid hqr
    have HQQ := Lib.hid hQq
    clear hg hqr hQq
    have hstop : ∀ q' : Nat, q' < 4294967296 → q' * (q0 + 4294967296 * q1) ≤ p0 + 4294967296 * head → Q ≤ q' → ∀ n : Nat, ∃ q, (Ending.returned (Value.int IntKind.u32 (q' : Int))) = Ending.returned (Value.int IntKind.u32 (q : Nat)) ∧ q < 4294967296 ∧ (V0 + P * (p0 + 4294967296 * head)) / (D0 + P * (q0 + 4294967296 * q1)) ≤ q ∧ (q - 1) * (D0 + P * (q0 + 4294967296 * q1)) ≤ V0 + P * (p0 + 4294967296 * head) ∧ ∃ m, w.drewN n = w.drewN m := fun q' h1 h2 h3 n =>
      ⟨q', rfl, h1, by rw [HQ.out]; exact h3, guess_close (by omega) hD0 htop h2, n, rfl⟩
    have HSTOP := Lib.hid hstop
    have hbrk : ∀ q' r', q' * q1 + r' = head → 4294967296 ≤ r' → q' < 4294967296 ∧ q' * (q0 + 4294967296 * q1) ≤ p0 + 4294967296 * head := fun q' r' h1 h2 =>
      have h3 := guess_word h1 h2 hle l1 HH.out.symm
      ⟨h3, guess_break h1 h2 h3 m0⟩
    have HBRK := Lib.hid hbrk
    clear hstop hbrk
    by_cases hq : 4294967295 < q
    · have hd1 : decide ((4294967295 : Int) < (q : Int)) = true := by simp; omega
      have hq1 : 1 ≤ (q : Int) := by omega
      have hQ1 : Q ≤ q - 1 := by
        have hlt2 : V0 + P * (p0 + 4294967296 * head) < (D0 + P * (q0 + 4294967296 * q1)) * 4294967296 := by rw [Nat.mul_comm _ 4294967296]; exact HLT.out
        have := Nat.div_lt_of_lt_mul hlt2
        have := HQ.out
        omega
      have HQ1 := Lib.hid hQ1
      have HN := Lib.hid (guess_next HQR.out (by omega))
      clear hQ1
      by_cases hbr : r + q1 < 4294967296
      · go_wp2_with fail
        go_quiet (fail)
        go_wp2_with fail
        go_roundg (4294967296 - (r + q1))
        case measure => have := HG.out; omega
        case rel => exact ⟨q - 1, r + q1, _, by omega, by congr 1; omega, by go_num, rfl, hbr, HN.out, HQ1.out, by omega⟩
      · go_wp2_with fail
        go_quiet (fail)
        go_wp2_with fail
        go_ret
        obtain ⟨h1, h2⟩ := HBRK.out (q - 1) (r + q1) HN.out (by omega)
        have := HSTOP.out (q - 1) h1 h2 HQ1.out (m + nq)
        rw [show ((q : Int) - 1) % 4294967296 = ((q - 1 : Nat) : Int) by omega]
        exact this
    · have hd1 : decide ((4294967295 : Int) < (q : Int)) = false := by simp; omega
      have hor1 := or_words p0 r l0 hr
      have hqq : q * q0 ≤ 4294967295 * 4294967295 := Nat.mul_le_mul (by omega) (by omega)
      have hqq1 : (q : Int) * (q0 : Int) ≤ 18446744065119617025 := by rw [← Int.natCast_mul]; omega
      have hqq0 : 0 ≤ (q : Int) * (q0 : Int) := by rw [← Int.natCast_mul]; omega
      have hor : bits BinOp.or IntKind.u64 ((r : Int) * 4294967296) (p0 : Int) = (p0 : Int) + 4294967296 * (r : Int) := by
        have e : (p0 : Int) + 4294967296 * (r : Int) = ((p0 + 4294967296 * r : Nat) : Int) := by omega
        rw [e, ← hor1]; congr 1
      clear hor1
      by_cases hc : r * 4294967296 + p0 < q * q0
      · have hcI : (p0 : Int) + 4294967296 * (r : Int) < (q : Int) * (q0 : Int) := by rw [← Int.natCast_mul]; omega
        have hq1 : 1 ≤ (q : Int) := by
          rcases Nat.eq_zero_or_pos q with h0 | h0
          · subst h0; rw [Nat.zero_mul] at hc; omega
          · omega
        have hQ1 : Q ≤ q - 1 := quot_le HQ.out.symm (guess_over hV0 HQR.out hc)
        have HQ1 := Lib.hid hQ1
        have HN := Lib.hid (guess_next HQR.out (by omega))
        clear hQ1 hc hqq
        by_cases hbr : r + q1 < 4294967296
        · go_wp2_with fail
          go_quiet (fail)
          go_wp2_with fail
          go_roundg (4294967296 - (r + q1))
          case measure => have := HG.out; omega
          case rel => exact ⟨q - 1, r + q1, _, by omega, by congr 1; omega, by go_num, rfl, hbr, HN.out, HQ1.out, by omega⟩
        · go_wp2_with fail
          go_quiet (fail)
          go_wp2_with fail
          go_ret
          obtain ⟨h1, h2⟩ := HBRK.out (q - 1) (r + q1) HN.out (by omega)
          have := HSTOP.out (q - 1) h1 h2 HQ1.out (m + nq)
          rw [show (q : Int) - 1 = ((q - 1 : Nat) : Int) by omega]
          exact this
      · have hcI : (q : Int) * (q0 : Int) ≤ (p0 : Int) + 4294967296 * (r : Int) := by rw [← Int.natCast_mul]; omega
        have HC := Lib.hid (guess_fits (l2 := p0) HQR.out (Nat.le_of_not_lt hc))
        clear hc hqq
        go_wp2_with fail
        go_quiet (fail)
        go_wp2_with fail
        go_ret
        exact HSTOP.out q (by omega) HC.out HQQ.out _
end Go.Proofs.Ytoidhoiadkafhaa
