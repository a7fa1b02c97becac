/- What the document's own calls answer: Add, sub, Sub, bit, Bits, Of. -/
import Derived.Test.YtoidhoiadkafhaaRefB
namespace Go.Proofs.Ytoidhoiadkafhaa
open Go.RowKit Num

set_option maxHeartbeats 800000 in
theorem ref_add (a b : List Nat) (A A' : Option Addr) (ca cb : Nat) (S S' : Nat → Prop) (w : World) (h : Rd w S .u32 A a) (h' : Rd w S' .u32 A' b) (hS : ∀ g, S g → g < w.heap.size) (hS' : ∀ g, S' g → g < w.heap.size) (hl : a.length ≤ 536870912) (hl' : b.length ≤ 536870912) (ha : Dg 4294967296 a) (hb : Dg 4294967296 b) :
    Calls Try.prog 33 #[.slice A a.length ca, .slice A' b.length cb] w (Gives .u32 4294967296 (val 4294967296 a + val 4294967296 b) w) := by
  go_enter Try.func33, Try.ntmps33
  go_wp2_with fail
  refine (ref_half a A ca S w h hS (by omega) ha).mono ?_
  rintro e w1 ⟨A1, x, c1, rfl, hc1, hl1, hn1, hv1, hr1, hb1⟩
  have hs1 := hb1.size
  have HN1 := Lib.hid hn1
  have HV1 := Lib.hid hv1
  clear hn1 hv1
  go_wp2_with fail
  refine (ref_half b A' cb S' w1 (h'.below hb1 hS') (fun g hg => by have := hS' g hg; omega) (by omega) hb).mono ?_
  rintro e w2 ⟨A2, y, c2, rfl, hc2, hl2, hn2, hv2, hr2, hb2⟩
  have hs2 := hb2.size
  have HN2 := Lib.hid hn2
  have HV2 := Lib.hid hv2
  clear hn2 hv2
  have hr1' : Rd w2 (fun g => g < w2.heap.size) .u64 A1 x := (hr1.below hb2 (fun g hg => hg.2)).imp (fun g hg => by omega)
  have hr2' : Rd w2 (fun g => g < w2.heap.size) .u64 A2 y := hr2.imp (fun g hg => hg.2)
  clear hr1 hr2
  obtain ⟨n, hn⟩ : ∃ n, (x.length < y.length ∧ n = y.length) ∨ (y.length ≤ x.length ∧ n = x.length) := by
    rcases Nat.lt_or_ge x.length y.length with h | h
    · exact ⟨_, .inl ⟨h, rfl⟩⟩
    · exact ⟨_, .inr ⟨h, rfl⟩⟩
  rcases hn with ⟨hn, hm⟩ | ⟨hn, hm⟩
  all_goals
    have hn64 : n ≤ 1073741824 := by omega
    have hxn : x.length ≤ n := by omega
    have hyn : y.length ≤ n := by omega
    have HM := Lib.hid hm
    clear hm
    go_wp2_with fail
    go_loopg [7, 8, 9, 10] (n + 1) (fun g v c i _ wr => ∃ (k cy : Nat) (ys : List Nat), g + k = n + 1 ∧ i = .int .i64 k ∧ c = .int .u64 cy ∧ cy ≤ 1 ∧ Own wr w2.heap.size 30 .u64 v ys ∧ ys.length = k ∧ Dg 65536 ys ∧ val 65536 ys + 65536 ^ k * cy = val 65536 (ext x k) + val 65536 (ext y k) ∧ Below w2.heap.size w2 wr)
    case atStart => exact ⟨0, 0, [], by omega, rfl, rfl, by omega, Own.nil _ _ _ _, rfl, Dg.nil _, rfl, Below.refl _ _⟩
    case round =>
      obtain ⟨k, cy, ys, hg, rfl, rfl, hcy, hown, rfl, hyd, hyv, hbel⟩ := hrel
      have HG := Lib.hid hg
      have HV := Lib.hid hyv
      clear hg hyv
      by_cases hlt : ys.length < n + 1
      · have cx := ref_at x A1 c1 ys.length _ wr (hr1'.below hbel (fun g hg => hg)) (by omega)
        have cz := ref_at y A2 c2 ys.length _ wr (hr2'.below hbel (fun g hg => hg)) (by omega)
        have hxd := HN1.out.1.getD (by omega) ys.length
        have hyd' := HN2.out.1.getD (by omega) ys.length
        obtain ⟨p, hp⟩ : ∃ p, x.getD ys.length 0 = p := ⟨_, rfl⟩
        obtain ⟨q, hq⟩ : ∃ q, y.getD ys.length 0 = q := ⟨_, rfl⟩
        rw [hp] at cx hxd
        rw [hq] at cz hyd'
        have HP := Lib.hid hp
        have HQ := Lib.hid hq
        clear hp hq
        have hml := HM.out
        go_wp2_with (first
          | (go_at_call 52; (first | (with_reducible refine cx.mono ?_) | (with_reducible refine cz.mono ?_)); rintro e w' ⟨rfl, rfl⟩)
          | (at_builtin; refine wpList_app rfl _ _ _ rfl w2.heap.size 30 .u64 8 Try.underlying38 info_u64 u7 ys rfl (hown.alloc _) wr.heap.size 1 1 [(p + q + cy) % 65536] rfl rfl (by unfold Row; rw [heap_alloc_new]; simp [cells]) (by omega) (by omega) (by omega) (by have := hbel.size; simp; omega) ?_; intro v1 w3 hown1 hgrow))
        have hb3 := below_app (hbel.alloc hbel.size _) hgrow (hown.alloc _) (by have := hbel.size; simp; omega) (Nat.le_refl _)
        go_roundg (gk - 1)
        case measure => have := HG.out; omega
        case rel =>
          have hv := add_step (x := p) (y := q) rfl HV.out
          refine ⟨ys.length + 1, (p + q + cy) / 65536, ys ++ [(p + q + cy) % 65536], by have := HG.out; omega, by go_num, by go_num, by omega, hown1, by simp, hyd.snoc (by omega), ?_, hb3⟩
          rw [hv, val_ext_succ, val_ext_succ, HP.out, HQ.out]
      · obtain ⟨A3, c3, rfl, hc3, _, hrd⟩ := hown.form
        have hs3 := hbel.size
        have hlen : ys.length ≤ 2147483648 := by have := HG.out; omega
        have hml := HM.out
        go_wp2_with (go_at_call 22; refine (ref_words ys A3 c3 _ wr hrd (fun g hg => hg.2) hlen hc3 hyd).mono ?_; rintro e w4 ⟨A4, zs, c4, rfl, hc4, hn4, hv4, hr4, hb4⟩)
        go_ret
        refine ⟨A4, zs, c4, rfl, hc4, hn4, ?_, hr4.imp (fun g hg => hg.2), (hb1.trans (hb2.mono hs1)).trans ((hbel.mono (by omega)).trans (hb4.mono (by omega)))⟩
        have hk : ys.length = n + 1 := by have := HG.out; omega
        have hv := HV.out
        rw [hk, val_ext (by omega), val_ext (by omega)] at hv
        have h0 := carry_zero (by omega) (val_lt_pow HN1.out.1 (by omega) hxn) (val_lt_pow HN2.out.1 (by omega) hyn) hv
        rw [hv4, ← HV1.out, ← HV2.out, ← hv, h0]
        simp
end Go.Proofs.Ytoidhoiadkafhaa
