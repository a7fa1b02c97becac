/- Bytes in figures: the document's own, there. -/
import Derived.Test.YtaiinglogpbfjaaDoorFgA
import Derived.Deep.AppendLies
namespace Go.Proofs.YtaiinglogpbfjaaDoor
open Go.RowKit

theorem fig_at (u : World) (n : Nat) (h : n < 16) : Calls Tryd.prog 18 #[.int .i64 (n : Int)] u fun e w' => e = .returned (.int .u8 ((fig n).toNat : Int)) ∧ w' = u := (ref7_figure n h u).mono fun _ _ hh => ⟨hh.1, hh.2.symm⟩
theorem half_hi (u : Nat) (h : u < 256) : IntKind.i64.wrap ((IntKind.i64.wrap (u : Int)).tdiv 16) = ((u / 16 : Nat) : Int) := by
  rw [IntWalk.i64_in (u : Int) (by omega), Int.tdiv_eq_ediv_of_nonneg (by omega), IntWalk.i64_in _ (by omega)]
  omega
theorem half_lo (u : Nat) (h : u < 256) : (IntKind.i64.wrap (u : Int)).tmod 16 = ((u % 16 : Nat) : Int) := by
  rw [IntWalk.i64_in (u : Int) (by omega), Int.tmod_eq_emod_of_nonneg (by omega)]
  omega
theorem own_by_rd {w : World} {base n : Nat} {v : Value} {b : By} (h : w.ownsRow base 5 1 v n (bcells b)) : ∃ p cap, v = .slice p n cap ∧ n = b.length ∧ RdV w w.heap.size p (bcells b) := by
  obtain ⟨p, cap, h1, h2, _, _, h3⟩ := RdV.ofOwn h
  exact ⟨p, cap, h1, by rw [h2, bcells_length], h3⟩

theorem hB2 {w wr w1 : World} {n : Nat} {v : Value} {xs : List Value} (hB : Below w.heap.size w wr) (ho : wr.ownsRow w.heap.size 5 1 v n xs) (a b : Value) {k : World} (hg : k.grownBy w1 v.ownBlock) (hk : k = (wr.alloc (.cells #[a, b] 5)).drew := by rfl) : Below w.heap.size w w1 := by
  subst hk
  have h1 : Below w.heap.size w (wr.alloc (.cells #[a, b] 5)).drew := (hB.alloc hB.size _).drew
  exact h1.grown hg (by have := hB.size; simp; omega) (fun k e => (ho.lt k e).1)
theorem hex_step {w : World} {base g cap i : Nat} {b : By} (hlt : i < b.length) (h : w.ownsRow base 5 1 (.slice (some ⟨g, 0, none⟩) (2 * i + 2) cap) (2 * i + 2) (bcells (hexOf (b.take i)) ++ [.int .u8 ((fig (b[i].toNat / 16)).toNat : Int), .int .u8 ((fig (b[i].toNat % 16)).toNat : Int)])) :
    w.ownsRow base 5 1 (.slice (some ⟨g, 0, none⟩) (2 * i + 2) cap) (2 * (i + 1)) (bcells (hexOf (b.take (i + 1)))) := by
  rw [List.take_succ_eq_append_getElem hlt, hexOf_snoc, bcells_append]
  exact h

set_option maxRecDepth 10000 in
set_option maxHeartbeats 1600000 in
theorem ref7_Hex (A : Option Addr) (c : Nat) (b : By) (w : World) (hr : RdV w w.heap.size A (bcells b)) (hm : b.length ≤ 35184372088832) :
    Calls Tryd.prog 14 #[.slice A b.length c] w fun e w' => e = .returned (.string (str (hexOf b))) ∧ Below w.heap.size w w' := by
  obtain ⟨i0, hi, hz0, hz1, hz2⟩ := info_parts info_by
  go_enter Tryd.func14, Tryd.ntmps14
  go_wp2_with fail
  go_loopg [3, 4] b.length (fun gh v t wr => ∃ i : Nat, t = .int .i64 (i : Int) ∧ gh + i = b.length ∧ wr.ownsRow w.heap.size 5 1 v (2 * i) (bcells (hexOf (b.take i))) ∧ Below w.heap.size w wr)
  case atStart => exact ⟨0, rfl, by omega, World.ownsRow_nil _ _ _ _, Below.refl _ _⟩
  case round =>
    obtain ⟨i, rfl, hg, hown, hB⟩ := hrel
    have hrr := hr.below hB
    by_cases hlt : i < b.length
    · obtain ⟨g, o, rfl, hgb, hcell⟩ := hrr.byte hlt
      have hu := (b[i]).toNat_lt
      obtain ⟨u, hu2⟩ : ∃ u, (b[i]).toNat = u := ⟨_, rfl⟩
      rw [hu2] at hcell hu
      obtain ⟨x, hx⟩ : ∃ x, (fig (u / 16)) = x := ⟨_, rfl⟩
      obtain ⟨y, hy⟩ : ∃ x, (fig (u % 16)) = x := ⟨_, rfl⟩
      have hf1 : ∀ W : World, Calls Tryd.prog 18 #[.int .i64 (IntKind.i64.wrap ((IntKind.i64.wrap (u : Int)).tdiv 16))] W fun e w' => e = .returned (.int .u8 (x.toNat : Int)) ∧ w' = W := fun W => by
        have h := fig_at W (u / 16) (by omega)
        rw [hx] at h
        rw [half_hi u (by omega)]
        exact h
      have hf2 : ∀ W : World, Calls Tryd.prog 18 #[.int .i64 ((IntKind.i64.wrap (u : Int)).tmod 16)] W fun e w' => e = .returned (.int .u8 (y.toNat : Int)) ∧ w' = W := fun W => by
        have h := fig_at W (u % 16) (by omega)
        rw [hy] at h
        rw [half_lo u (by omega)]
        exact h
      have HX := Lib.hid (And.intro hx hy)
      clear hx hy
      have hne : some g ≠ u3.ownBlock := fun e => by have := (hown.lt g e.symm).1; omega
      have hgl : g < wr.heap.size := Nat.lt_of_lt_of_le hgb hB.size
      have HO := Lib.hid hown
      have HB := Lib.hid hB
      have HU := Lib.hid hu2
      clear hown hB hrr hr hu2
      go_wp2_with fail
      go_region_held3 (fun w' => w'.cell? ⟨g, o + i, none⟩ = some (.int .u8 (u : Int)))
        (first | go_keep | (rw [hgrow.cell_far _ (by simp; omega) hne]; assumption))
        ((first
          | (go_at_call 18; with_reducible refine Calls.mono (hf1 _) ?_; rintro e w1 ⟨rfl, rfl⟩)
          | (go_at_call 18; with_reducible refine Calls.mono (hf2 _) ?_; rintro e w1 ⟨rfl, rfl⟩)
          | (refine step_append_lies _ (by rfl) _ _ _ (by rfl) w.heap.size 5 i0 (.int .u8 0) 1 1 Tryd.underlying34 hi hz0 hz1 hz2 rfl (by omega) u3 (2 * i) (bcells (hexOf (b.take i))) (by rfl) ((HO.out.alloc _).drew)
              ⟨wr.heap.size, 0, none⟩ 2 2 [.int .u8 (x.toNat : Int), .int .u8 (y.toNat : Int)] (by rfl) (by rfl) (World.news_of_block (cs := #[.int .u8 (x.toNat : Int), .int .u8 (y.toNat : Int)]) (t := 5) (fr := (0, 0)) (heap_alloc_new wr _)) (by simp [Value.oneCell'])
              (by omega) (by unfold maxLen; omega) (by omega) (by have := HB.out.size; simp; omega) (wr.heap.size + 1) (by simp) ?_; intro gg cap w1 hown1 hgrow _ hlt1)))
      have hB1 := hB2 HB.out (HO.out) (Value.int .u8 (x.toNat : Int)) (Value.int .u8 (y.toNat : Int)) hgrow
      have hown2 := hown1
      rw [← HX.out.1, ← HX.out.2, ← HU.out] at hown2
      have hown3 := hex_step hlt hown2
      go_wp2_with fail
      go_roundg (b.length - (i + 1))
      case measure => omega
      case rel => exact ⟨i + 1, by simp, by omega, hown3, hB1⟩
    · obtain rfl : i = b.length := by omega
      rw [List.take_length] at hown
      obtain ⟨q, cap, rfl, hn, hq⟩ := own_by_rd hown
      have hcv := conv_by hq cap
      rw [← hn] at hcv
      clear hown hrr hr
      obtain ⟨m, hm2⟩ : ∃ m, 2 * b.length = m := ⟨_, rfl⟩
      rw [hm2] at hcv ⊢
      clear hn hm2
      go_wp2_with fail
      go_ret
      exact ⟨rfl, hB⟩
end Go.Proofs.YtaiinglogpbfjaaDoor
