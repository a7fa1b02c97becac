/- What the document's own twice and Power answer. -/
import Derived.Test.YtoidhoiadkafhaaRefF
namespace Go.Proofs.Ytoidhoiadkafhaa
open Go.RowKit Num

set_option maxHeartbeats 800000 in
/-- digits twice, and a bit -/
theorem ref_twice (x : List Nat) (A : Option Addr) (c more : Nat) (S : Nat → Prop) (w : World) (h : Rd w S .u64 A x) (hS : ∀ g, S g → g < w.heap.size) (hl : x.length ≤ 1073741824) (hx : Dg 65536 x) (hm : more ≤ 1) :
    Calls Try.prog 59 #[.slice A x.length c, .int .u64 more] w fun e w' => ∃ A3 zs c3, e = .returned (.slice A3 zs.length c3) ∧ zs.length ≤ c3 ∧ Norm 65536 zs ∧ val 65536 zs = 2 * val 65536 x + more ∧
      Rd w' (fun b => w.heap.size ≤ b ∧ b < w'.heap.size) .u64 A3 zs ∧ Below w.heap.size w w' := by
  go_enter Try.func59, Try.ntmps59
  go_wp2_with fail
  go_loopg [5, 6, 7, 8] (x.length + 1) (fun g v c i _ wr => ∃ (k cy : Nat) (ys : List Nat), g + k = x.length + 1 ∧ i = .int .i64 k ∧ c = .int .u64 cy ∧ cy ≤ 1 ∧ Own wr w.heap.size 30 .u64 v ys ∧ ys.length = k ∧ Dg 65536 ys ∧ val 65536 ys + 65536 ^ k * cy = more + val 65536 (ext x k) * 2 ∧ Below w.heap.size w wr)
  case atStart => exact ⟨0, more, [], by omega, rfl, rfl, hm, Own.nil _ _ _ _, rfl, Dg.nil _, by rw [val_ext_zero]; simp [val], Below.refl _ _⟩
  case round =>
    obtain ⟨k, cy, ys, hg, rfl, rfl, hcy, hown, rfl, hyd, hyv, hbel⟩ := hrel
    have HG := Lib.hid hg
    have HV := Lib.hid hyv
    clear hg hyv
    by_cases hlt : ys.length < x.length + 1
    · have cx := ref_at x A c ys.length _ wr (h.below hbel hS) (by omega)
      have hxd := hx.getD (by omega) ys.length
      obtain ⟨p, hp⟩ : ∃ p, x.getD ys.length 0 = p := ⟨_, rfl⟩
      rw [hp] at cx hxd
      have HP := Lib.hid hp
      clear hp
      go_wp2_with (first
        | (go_at_call 52; refine cx.mono ?_; rintro e w' ⟨rfl, rfl⟩)
        | (at_builtin; refine wpList_app rfl _ _ _ rfl w.heap.size 30 .u64 8 Try.underlying38 info_u64 u5 ys rfl (hown.alloc _) wr.heap.size 1 1 [(cy + (2 * p + 0)) % 65536] rfl rfl (by unfold Row; rw [heap_alloc_new]; simp [cells]; omega) (by omega) (by omega) (by omega) (by have := hbel.size; simp; omega) ?_; intro v1 w3 hown1 hgrow))
      have hb3 := below_app (hbel.alloc hbel.size _) hgrow (hown.alloc _) (by have := hbel.size; simp; omega) (Nat.le_refl _)
      go_roundg (gk - 1)
      case measure => have := HG.out; omega
      case rel =>
        have hv := mul_step (x := 2) (p := 0) (q := p) rfl HV.out
        refine ⟨ys.length + 1, (cy + (2 * p + 0)) / 65536, ys ++ [(cy + (2 * p + 0)) % 65536], by have := HG.out; omega, by go_num, by congr 1; omega, by omega, hown1, by simp, hyd.snoc (by omega), ?_, hb3⟩
        rw [hv, val_ext_succ, HP.out, Nat.mul_zero, Nat.add_zero]
    · obtain ⟨A3, c3, rfl, hc3, _, hrd⟩ := hown.form
      have hs3 := hbel.size
      have hlen : ys.length ≤ 1073741825 := by have := HG.out; omega
      go_wp2_with (go_at_call 47; refine (ref_cut _ _ _ _ _ hrd (by omega) hc3).mono ?_; rintro e w' ⟨n, h1, h2, h3, rfl, rfl⟩)
      go_ret
      have hl2 : (ys.take n).length = n := by rw [List.length_take]; omega
      have hk : ys.length = x.length + 1 := by have := HG.out; omega
      refine ⟨A3, ys.take n, c3, by rw [hl2]; rfl, by omega, Norm.take hyd h1 h3, ?_, hrd.take n, hbel⟩
      have hv := HV.out
      rw [hk, val_ext (by omega)] at hv
      have h0 : cy = 0 := by
        rcases Nat.eq_zero_or_pos cy with h0 | h0
        · exact h0
        · have h5 := val_lt hx
          have h6 : 65536 ^ (x.length + 1) * 1 ≤ 65536 ^ (x.length + 1) * cy := Nat.mul_le_mul_left _ h0
          rw [Nat.pow_succ] at h6 hv
          omega
      rw [h0] at hv
      rw [val_take_of_zero h2]; omega

set_option maxHeartbeats 800000 in
/-- 2 to a power -/
theorem ref_Power (n : Nat) (hn : n ≤ 536870912) (w : World) :
    Calls Try.prog 37 #[.int .i64 n] w (Gives .u32 4294967296 (2 ^ n) w) := by
  have hrow := Row.new w 30 .u64 [1]
  go_enter Try.func37, Try.ntmps37
  go_wp2_with fail
  have hbel0 : Below w.heap.size w (w.alloc (Obj.cells #[Value.int IntKind.u64 1] 30)) := (Below.refl _ _).alloc (Nat.le_refl _) _
  go_loopg [3, 4] n (fun g v i wr => ∃ (k : Nat) (A : Option Addr) (xs : List Nat) (c : Nat), g + k = n ∧ i = .int .i64 k ∧ v = .slice A xs.length c ∧ xs.length ≤ c ∧ Norm 65536 xs ∧ val 65536 xs = 2 ^ k ∧ Rd wr (fun g => g < wr.heap.size) .u64 A xs ∧ Below w.heap.size w wr)
  case atStart => exact ⟨0, _, [1], 1, by omega, rfl, rfl, by simp, ⟨by simp [Dg], by simp [Top]⟩, rfl, hrow.rd_all hrow.lt, hbel0⟩
  case round =>
    obtain ⟨k, A, xs, c, hg, rfl, rfl, hc, hn1, hv, hr, hb⟩ := hrel
    have hlen : xs.length ≤ k + 1 := hn1.2.length_le (b := 65536) (by omega) (by
      rw [hv]
      refine Nat.lt_of_lt_of_le (Nat.pow_lt_pow_right (by omega) (Nat.lt_succ_self k)) (Nat.pow_le_pow_left (by omega) _))
    have hs := hb.size
    have HG := Lib.hid hg
    have HN := Lib.hid hn1
    have HV := Lib.hid hv
    clear hg hn1 hv hrow
    by_cases hlt : k < n
    · go_wp2_with (go_at_call 59; refine (ref_twice xs A c 0 _ wr hr (fun g hg => hg) (by omega) HN.out.1 (by omega)).mono ?_; rintro e w2 ⟨A3, zs, c3, rfl, hc3, hn3, hv3, hr3, hb3⟩)
      go_roundg (gk - 1)
      case measure => have := HG.out; omega
      case rel => exact ⟨k + 1, A3, zs, c3, by have := HG.out; omega, by go_num, rfl, hc3, hn3, by rw [hv3, HV.out, Nat.pow_succ]; omega, hr3.imp (fun g hg => hg.2), hb.trans (hb3.mono hs)⟩
    · go_wp2_with (go_at_call 22; refine (ref_words xs A c _ wr hr (fun g hg => hg) (by have := HG.out; omega) hc HN.out.1).mono ?_; rintro e w4 ⟨A4, us, c4, rfl, hc4, hn4, hv4, hr4, hb4⟩)
      go_ret
      refine ⟨A4, us, c4, rfl, hc4, hn4, ?_, hr4.imp (fun g hg => hg.2), hb.trans (hb4.mono hs)⟩
      rw [hv4, HV.out, show k = n by have := HG.out; omega]
end Go.Proofs.Ytoidhoiadkafhaa
