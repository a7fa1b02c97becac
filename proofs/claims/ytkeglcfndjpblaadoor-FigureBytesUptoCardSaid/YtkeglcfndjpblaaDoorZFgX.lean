/- Bytes in figures, there and back, as plain mathematics. No program is named here. -/
import Derived.Test.YtkeglcfndjpblaaDoorZLxV
import Derived.Laws.IdiomStrings
import Derived.Shelf.Bytes.SlSmallAll
import Derived.Test.YtkeglcfndjpblaaDoorChecked
import Derived.Lib.Hide
import Derived.WalkLawsBesides
import Derived.Deep.LoopGhost
import Derived.Deep.RegionHeld3
import Derived.Deep.RegionWith
import Derived.Laws.OwnMore
import Derived.Deep.AppendLies
import Derived.BigQuiet
namespace Go.Proofs.YtkeglcfndjpblaaDoor

/-- a half byte's figure -/
def fig (n : Nat) : UInt8 := if n < 10 then UInt8.ofNat (48 + n) else UInt8.ofNat (87 + n)
theorem fig_nat {n : Nat} (h : n < 16) : (fig n).toNat = if n < 10 then 48 + n else 87 + n := by
  unfold fig
  split <;> simp [UInt8.toNat_ofNat] <;> omega
theorem fig_inj {m n : Nat} (hm : m < 16) (hn : n < 16) (h : fig m = fig n) : m = n := by
  have e := congrArg UInt8.toNat h
  rw [fig_nat hm, fig_nat hn] at e
  split at e <;> split at e <;> omega
/-- bytes in figures -/
def hexOf (b : By) : By := b.flatMap fun u => [fig (u.toNat / 16), fig (u.toNat % 16)]
theorem hexOf_nil : hexOf [] = [] := rfl
theorem hexOf_snoc (b : By) (u : UInt8) : hexOf (b ++ [u]) = hexOf b ++ [fig (u.toNat / 16), fig (u.toNat % 16)] := by simp [hexOf]
theorem hexOf_cons (u : UInt8) (b : By) : hexOf (u :: b) = fig (u.toNat / 16) :: fig (u.toNat % 16) :: hexOf b := rfl
theorem hexOf_length (b : By) : (hexOf b).length = 2 * b.length := by
  induction b with
  | nil => rfl
  | cons u b ih => rw [hexOf_cons, List.length_cons, List.length_cons, List.length_cons, ih]; omega
theorem hexOf_inj : ∀ {a b : By}, hexOf a = hexOf b → a = b
  | [], [], _ => rfl
  | [], v :: b, h => by rw [hexOf_cons] at h; cases h
  | u :: a, [], h => by rw [hexOf_cons] at h; cases h
  | u :: a, v :: b, h => by
    rw [hexOf_cons, hexOf_cons] at h
    have h1 := (List.cons.inj h).1
    have h2 := (List.cons.inj (List.cons.inj h).2).1
    have h3 := hexOf_inj (List.cons.inj (List.cons.inj h).2).2
    have hu := u.toNat_lt
    have hv := v.toNat_lt
    have e1 := fig_inj (by omega) (by omega) h1
    have e2 := fig_inj (by omega) (by omega) h2
    have : u = v := UInt8.toNat_inj.1 (by omega)
    rw [this, h3]
/-- the byte of two figures -/
def byteOf (x y : UInt8) : Option UInt8 := ((List.range 256).find? fun n => fig (n / 16) == x && fig (n % 16) == y).map UInt8.ofNat
theorem byteOf_some {x y u : UInt8} (h : byteOf x y = some u) : fig (u.toNat / 16) = x ∧ fig (u.toNat % 16) = y := by
  unfold byteOf at h
  obtain ⟨n, hn, rfl⟩ := Option.map_eq_some_iff.1 h
  have h1 := List.find?_some hn
  have h2 := List.mem_range.1 (List.mem_of_find?_eq_some hn)
  simp only [Bool.and_eq_true, beq_iff_eq] at h1
  have e : (UInt8.ofNat n).toNat = n := by simp; omega
  rw [e]
  exact h1
theorem byteOf_fig (u : UInt8) : byteOf (fig (u.toNat / 16)) (fig (u.toNat % 16)) = some u := by
  cases h : byteOf (fig (u.toNat / 16)) (fig (u.toNat % 16)) with
  | some v =>
    obtain ⟨h1, h2⟩ := byteOf_some h
    have hu := u.toNat_lt
    have hv := v.toNat_lt
    have e1 := fig_inj (by omega) (by omega) h1
    have e2 := fig_inj (by omega) (by omega) h2
    have : v = u := UInt8.toNat_inj.1 (by omega)
    rw [this]
  | none =>
    unfold byteOf at h
    rw [Option.map_eq_none_iff, List.find?_eq_none] at h
    have := h u.toNat (List.mem_range.2 (by have := u.toNat_lt; omega))
    simp at this
theorem byteOf_none {x y : UInt8} (h : byteOf x y = none) {n : Nat} (hn : n < 256) : (fig (n / 16) == x && fig (n % 16) == y) = false := by
  unfold byteOf at h
  rw [Option.map_eq_none_iff, List.find?_eq_none] at h
  have := h n (List.mem_range.2 hn)
  simpa using this
/-- the bytes of figures -/
def unhexOf : By → Option By
  | [] => some []
  | [_] => none
  | x :: y :: r => match byteOf x y with
    | none => none
    | some u => (unhexOf r).map (u :: ·)
theorem unhexOf_hex : ∀ b : By, unhexOf (hexOf b) = some b
  | [] => rfl
  | u :: b => by
    rw [hexOf_cons]
    unfold unhexOf
    rw [byteOf_fig, unhexOf_hex b]
    rfl
theorem unhexOf_some : ∀ {s b : By}, unhexOf s = some b → hexOf b = s
  | [], b, h => by cases h; rfl
  | [_], b, h => by cases h
  | x :: y :: r, b, h => by
    unfold unhexOf at h
    cases hb : byteOf x y with
    | none => rw [hb] at h; cases h
    | some u =>
      rw [hb] at h
      obtain ⟨c, hc, rfl⟩ := Option.map_eq_some_iff.1 h
      obtain ⟨h1, h2⟩ := byteOf_some hb
      rw [hexOf_cons, h1, h2, unhexOf_some hc]
theorem unhexOf_odd : ∀ {s : By}, s.length % 2 = 1 → unhexOf s = none
  | [], h => by simp at h
  | [_], _ => rfl
  | x :: y :: r, h => by
    unfold unhexOf
    rw [unhexOf_odd (s := r) (by simp at h; omega)]
    cases byteOf x y <;> rfl
/-- pair by pair from the front: what has come, and what is left -/
theorem unhexOf_at : ∀ {s b r : By}, s = hexOf b ++ r → unhexOf s = (unhexOf r).map (b ++ ·)
  | s, [], r, h => by
    rw [h, hexOf_nil, List.nil_append]
    cases unhexOf r <;> simp
  | s, u :: b, r, h => by
    rw [h, hexOf_cons, List.cons_append, List.cons_append]
    conv => lhs; unfold unhexOf
    rw [byteOf_fig]
    dsimp only
    rw [unhexOf_at (s := hexOf b ++ r) (b := b) rfl]
    generalize unhexOf r = z
    cases z <;> simp
end Go.Proofs.YtkeglcfndjpblaaDoor
/- Bytes in memory as texts: what a conversion reads, what an append of bytes needs. -/

namespace Go.Proofs.YtkeglcfndjpblaaDoor
open Go.RowKit

theorem conv_by {w : World} {B : Nat} {p : Option Addr} {l : By} (h : RdV w B p (bcells l)) (c : Nat) : (convert 40 9 (.slice p l.length c)).run Tryd.prog w = .ok (.string (str l)) w := by
  by_cases hl : 0 < l.length
  · obtain ⟨b, o, rfl, _, hc⟩ := h (by rw [bcells_length]; exact hl)
    refine run_convert_bytes_back (P := Tryd.prog) w 40 9 5 ⟨b, o, none⟩ c l Tryd.underlying40 Tryd.underlying5 Tryd.underlying9 fun j hj => ?_
    rw [addr_add, hc j (by rw [bcells_length]; exact hj)]
    simp [bcells]
  · obtain rfl : l = [] := List.eq_nil_of_length_eq_zero (by omega)
    exact run_convert_bytes_zero w 40 5 Tryd.underlying40 Tryd.underlying5 p c 9 Tryd.underlying9
theorem info_by : (Tryd.prog.info? 5).map (fun i => (i.zero, i.size, i.bytes)) = some (some (.int .u8 0), 1, 1) := by kernel_rfl
end Go.Proofs.YtkeglcfndjpblaaDoor
/- Bytes in figures: the document's own. -/

namespace Go.Proofs.YtkeglcfndjpblaaDoor
open Go.RowKit

set_option maxRecDepth 10000 in
set_option maxHeartbeats 1600000 in
theorem ref7_figure (n : Nat) (h : n < 16) (w : World) : Calls Tryd.prog 28 #[.int .i64 (n : Int)] w fun e w' => e = .returned (.int .u8 ((fig n).toNat : Int)) ∧ w = w' := by
  have hf := fig_nat h
  by_cases h10 : n < 10
  · rw [if_pos h10] at hf
    have hw : IntKind.u8.wrap (48 + (n : Int)) = 48 + (n : Int) := by rw [IntKind.wrap_u8]; omega
    go_enter Tryd.func28, Tryd.ntmps28
    go_wp2_with fail
    go_ret
    exact ⟨by rw [hf]; simp, rfl⟩
  · rw [if_neg h10] at hf
    have hw : IntKind.u8.wrap (97 + (n : Int) - 10) = 87 + (n : Int) := by rw [IntKind.wrap_u8]; omega
    go_enter Tryd.func28, Tryd.ntmps28
    go_wp2_with fail
    go_ret
    refine ⟨?_, rfl⟩
    rw [hf]; simp
end Go.Proofs.YtkeglcfndjpblaaDoor
/- Bytes in figures: the document's own, there. -/

namespace Go.Proofs.YtkeglcfndjpblaaDoor
open Go.RowKit

theorem fig_at (u : World) (n : Nat) (h : n < 16) : Calls Tryd.prog 28 #[.int .i64 (n : Int)] u fun e w' => e = .returned (.int .u8 ((fig n).toNat : Int)) ∧ w' = u := (ref7_figure n h u).mono fun _ _ hh => ⟨hh.1, hh.2.symm⟩
theorem half_hi (u : Nat) (h : u < 256) : IntKind.i64.wrap ((IntKind.i64.wrap (u : Int)).tdiv 16) = ((u / 16 : Nat) : Int) := by
  rw [IntWalk.i64_in (u : Int) (by omega), Int.tdiv_eq_ediv_of_nonneg (by omega), IntWalk.i64_in _ (by omega)]
  omega
theorem half_lo (u : Nat) (h : u < 256) : (IntKind.i64.wrap (u : Int)).tmod 16 = ((u % 16 : Nat) : Int) := by
  rw [IntWalk.i64_in (u : Int) (by omega), Int.tmod_eq_emod_of_nonneg (by omega)]
  omega
theorem own_by_rd {w : World} {base n : Nat} {v : Value} {b : By} (h : w.ownsRow base 5 1 v n (bcells b)) : ∃ p cap, v = .slice p n cap ∧ n = b.length ∧ RdV w w.heap.size p (bcells b) := by
  obtain ⟨p, cap, h1, h2, _, _, h3⟩ := RdV.ofOwn h
  exact ⟨p, cap, h1, by rw [h2, bcells_length], h3⟩

theorem hB2 {w wr w1 : World} {n : Nat} {v : Value} {xs : List Value} (hB : Below w.heap.size w wr) (ho : wr.ownsRow w.heap.size 5 1 v n xs) (a b : Value) {k : World} (hg : k.grownBy w1 v.ownBlock) (hk : k = (wr.alloc (.cells #[a, b] 5)).drew := by rfl) : Below w.heap.size w w1 := by
  subst hk
  have h1 : Below w.heap.size w (wr.alloc (.cells #[a, b] 5)).drew := (hB.alloc hB.size _).drew
  exact h1.grown hg (by have := hB.size; simp; omega) (fun k e => (ho.lt k e).1)
theorem hex_step {w : World} {base g cap i : Nat} {b : By} (hlt : i < b.length) (h : w.ownsRow base 5 1 (.slice (some ⟨g, 0, none⟩) (2 * i + 2) cap) (2 * i + 2) (bcells (hexOf (b.take i)) ++ [.int .u8 ((fig (b[i].toNat / 16)).toNat : Int), .int .u8 ((fig (b[i].toNat % 16)).toNat : Int)])) :
    w.ownsRow base 5 1 (.slice (some ⟨g, 0, none⟩) (2 * i + 2) cap) (2 * (i + 1)) (bcells (hexOf (b.take (i + 1)))) := by
  rw [List.take_succ_eq_append_getElem hlt, hexOf_snoc, bcells_append]
  exact h

set_option maxRecDepth 10000 in
set_option maxHeartbeats 1600000 in
theorem ref7_Hex (A : Option Addr) (c : Nat) (b : By) (w : World) (hr : RdV w w.heap.size A (bcells b)) (hm : b.length ≤ 35184372088832) :
    Calls Tryd.prog 18 #[.slice A b.length c] w fun e w' => e = .returned (.string (str (hexOf b))) ∧ Below w.heap.size w w' := by
  obtain ⟨i0, hi, hz0, hz1, hz2⟩ := info_parts info_by
  go_enter Tryd.func18, Tryd.ntmps18
  go_wp2_with fail
  go_loopg [3, 4] b.length (fun gh v t wr => ∃ i : Nat, t = .int .i64 (i : Int) ∧ gh + i = b.length ∧ wr.ownsRow w.heap.size 5 1 v (2 * i) (bcells (hexOf (b.take i))) ∧ Below w.heap.size w wr)
  case atStart => exact ⟨0, rfl, by omega, World.ownsRow_nil _ _ _ _, Below.refl _ _⟩
  case round =>
    obtain ⟨i, rfl, hg, hown, hB⟩ := hrel
    have hrr := hr.below hB
    by_cases hlt : i < b.length
    · obtain ⟨g, o, rfl, hgb, hcell⟩ := hrr.byte hlt
      have hu := (b[i]).toNat_lt
      obtain ⟨u, hu2⟩ : ∃ u, (b[i]).toNat = u := ⟨_, rfl⟩
      rw [hu2] at hcell hu
      obtain ⟨x, hx⟩ : ∃ x, (fig (u / 16)) = x := ⟨_, rfl⟩
      obtain ⟨y, hy⟩ : ∃ x, (fig (u % 16)) = x := ⟨_, rfl⟩
      have hf1 : ∀ W : World, Calls Tryd.prog 28 #[.int .i64 (IntKind.i64.wrap ((IntKind.i64.wrap (u : Int)).tdiv 16))] W fun e w' => e = .returned (.int .u8 (x.toNat : Int)) ∧ w' = W := fun W => by
        have h := fig_at W (u / 16) (by omega)
        rw [hx] at h
        rw [half_hi u (by omega)]
        exact h
      have hf2 : ∀ W : World, Calls Tryd.prog 28 #[.int .i64 ((IntKind.i64.wrap (u : Int)).tmod 16)] W fun e w' => e = .returned (.int .u8 (y.toNat : Int)) ∧ w' = W := fun W => by
        have h := fig_at W (u % 16) (by omega)
        rw [hy] at h
        rw [half_lo u (by omega)]
        exact h
      have HX := Lib.hid (And.intro hx hy)
      clear hx hy
      have hne : some g ≠ u3.ownBlock := fun e => by have := (hown.lt g e.symm).1; omega
      have hgl : g < wr.heap.size := Nat.lt_of_lt_of_le hgb hB.size
      have HO := Lib.hid hown
      have HB := Lib.hid hB
      have HU := Lib.hid hu2
      clear hown hB hrr hr hu2
      go_wp2_with fail
      go_region_held3 (fun w' => w'.cell? ⟨g, o + i, none⟩ = some (.int .u8 (u : Int)))
        (first | go_keep | (rw [hgrow.cell_far _ (by simp; omega) hne]; assumption))
        ((first
          | (go_at_call 28; with_reducible refine Calls.mono (hf1 _) ?_; rintro e w1 ⟨rfl, rfl⟩)
          | (go_at_call 28; with_reducible refine Calls.mono (hf2 _) ?_; rintro e w1 ⟨rfl, rfl⟩)
          | (refine step_append_lies _ (by rfl) _ _ _ (by rfl) w.heap.size 5 i0 (.int .u8 0) 1 1 Tryd.underlying40 hi hz0 hz1 hz2 rfl (by omega) u3 (2 * i) (bcells (hexOf (b.take i))) (by rfl) ((HO.out.alloc _).drew)
              ⟨wr.heap.size, 0, none⟩ 2 2 [.int .u8 (x.toNat : Int), .int .u8 (y.toNat : Int)] (by rfl) (by rfl) (World.news_of_block (cs := #[.int .u8 (x.toNat : Int), .int .u8 (y.toNat : Int)]) (t := 5) (fr := (0, 0)) (heap_alloc_new wr _)) (by simp [Value.oneCell'])
              (by omega) (by unfold maxLen; omega) (by omega) (by have := HB.out.size; simp; omega) (wr.heap.size + 1) (by simp) ?_; intro gg cap w1 hown1 hgrow _ hlt1)))
      have hB1 := hB2 HB.out (HO.out) (Value.int .u8 (x.toNat : Int)) (Value.int .u8 (y.toNat : Int)) hgrow
      have hown2 := hown1
      rw [← HX.out.1, ← HX.out.2, ← HU.out] at hown2
      have hown3 := hex_step hlt hown2
      go_wp2_with fail
      go_roundg (b.length - (i + 1))
      case measure => omega
      case rel => exact ⟨i + 1, by simp, by omega, hown3, hB1⟩
    · obtain rfl : i = b.length := by omega
      rw [List.take_length] at hown
      obtain ⟨q, cap, rfl, hn, hq⟩ := own_by_rd hown
      have hcv := conv_by hq cap
      rw [← hn] at hcv
      clear hown hrr hr
      obtain ⟨m, hm2⟩ : ∃ m, 2 * b.length = m := ⟨_, rfl⟩
      rw [hm2] at hcv ⊢
      clear hn hm2
      go_wp2_with fail
      go_ret
      exact ⟨rfl, hB⟩
end Go.Proofs.YtkeglcfndjpblaaDoor
/- Bytes in figures: the document's own, back. -/

namespace Go.Proofs.YtkeglcfndjpblaaDoor
open Go.RowKit

theorem fig_hi (W : World) (m : Nat) (h : m < 256) : Calls Tryd.prog 28 #[.int .i64 ((m : Int) / 16)] W fun e w' => e = .returned (.int .u8 ((fig (m / 16)).toNat : Int)) ∧ W = w' := by
  have := fig_at W (m / 16) (by omega)
  rw [show ((m / 16 : Nat) : Int) = (m : Int) / 16 by omega] at this
  exact this.mono fun _ _ hh => ⟨hh.1, hh.2.symm⟩
theorem fig_lo (W : World) (m : Nat) : Calls Tryd.prog 28 #[.int .i64 ((m : Int) % 16)] W fun e w' => e = .returned (.int .u8 ((fig (m % 16)).toNat : Int)) ∧ W = w' := by
  have := fig_at W (m % 16) (by omega)
  rw [show ((m % 16 : Nat) : Int) = (m : Int) % 16 by omega] at this
  exact this.mono fun _ _ hh => ⟨hh.1, hh.2.symm⟩
theorem below_figN {B : Nat} {a w : World} (h : Below B a w) (q : Nat) : Below B a (w.drewN q) := ⟨h.os, h.tape, h.output, h.size, h.block⟩
theorem below_app {w W w3 : World} {n : Nat} {v : Value} {xs : List Value} (hB : Below w.heap.size w W) (ho : W.ownsRow w.heap.size 5 1 v n xs) (a : Value) (hg : (W.alloc (.cells #[a] 5)).grownBy w3 v.ownBlock) : Below w.heap.size w w3 := by
  have h1 : Below w.heap.size w (W.alloc (.cells #[a] 5)) := hB.alloc hB.size _
  exact h1.grown hg (by have := hB.size; simp; omega) (fun k e => (ho.lt k e).1)
theorem none_more {A : Prop} {B : UInt8 → Prop} {C : UInt8 → Prop} {D : UInt8 → Prop} {f : Prop} {m : Nat} {x y : UInt8} (h : (f ∧ A ∧ ∀ k, k < m → ¬ (fig (k / 16) = x ∧ fig (k % 16) = y)) ∨ (∃ u : UInt8, B u ∧ C u ∧ D u ∧ u.toNat < m)) (hn : ¬ (fig (m / 16) = x ∧ fig (m % 16) = y)) :
    (f ∧ A ∧ ∀ k, k < m + 1 → ¬ (fig (k / 16) = x ∧ fig (k % 16) = y)) ∨ (∃ u : UInt8, B u ∧ C u ∧ D u ∧ u.toNat < m + 1) := by
  rcases h with ⟨h1, h2, h3⟩ | ⟨u, h1, h2, h3, h4⟩
  · refine .inl ⟨h1, h2, fun k hk => ?_⟩
    by_cases e : k = m
    · subst e; exact hn
    · exact h3 k (by omega)
  · exact .inr ⟨u, h1, h2, h3, by omega⟩
theorem byteOf_no {x y : UInt8} (h : ∀ k, k < 256 → ¬ (fig (k / 16) = x ∧ fig (k % 16) = y)) : byteOf x y = none := by
  unfold byteOf
  rw [Option.map_eq_none_iff, List.find?_eq_none]
  intro k hk
  have := h k (List.mem_range.1 hk)
  simpa using this
theorem unhex_fail {bs b : By} {i : Nat} {x y : UInt8} {r : By} (hs : bs = hexOf b ++ bs.drop i) (hp : bs.drop i = x :: y :: r) (hn : byteOf x y = none) : unhexOf bs = none := by
  rw [unhexOf_at hs, hp]
  unfold unhexOf
  rw [hn]
  rfl
theorem unhex_next {bs b : By} {i : Nat} {x y u : UInt8} (hs : bs = hexOf b ++ bs.drop i) (hp : bs.drop i = x :: y :: bs.drop (i + 1 + 1)) (hn : byteOf x y = some u) (_hi : i = 2 * b.length) : bs = hexOf (b ++ [u]) ++ bs.drop (i + 2) := by
  obtain ⟨h1, h2⟩ := byteOf_some hn
  rw [hexOf_snoc, h1, h2, List.append_assoc]
  exact hs.trans (by rw [hp]; rfl)
theorem quiet_at {P : Program} {f : FuncId} {args : Array Value} {w : World} {n : Nat} {v : Value} (h : Calls P f args (w.drewN n) fun e w' => e = .returned v ∧ w.drewN n = w') :
    Calls P f args (w.drewN n) fun e w' => e = .returned v ∧ ∃ k, w' = w.drewN k := h.mono fun _ _ hh => ⟨hh.1, n, hh.2.symm⟩
theorem fig_same {a b : UInt8} : (a.toNat = b.toNat) ↔ a = b := ⟨fun h => UInt8.toNat_inj.1 h, fun h => by rw [h]⟩

set_option maxRecDepth 10000 in
set_option maxHeartbeats 1600000 in
theorem ref7_Unhex (t : ByteArray) (hsz : t.size ≤ 70368744177664) (w : World) :
    Calls Tryd.prog 16 #[.string t] w fun e w' => Below w.heap.size w w' ∧
      ((∃ (b : By) (p : Option Addr) (cap : Nat), unhexOf t.data.toList = some b ∧ e = .returned (.tuple #[.slice p b.length cap, .int .i64 0]) ∧ RdV w' w'.heap.size p (bcells b)) ∨
        (unhexOf t.data.toList = none ∧ e = .returned (.tuple #[.slice none 0 0, .int .i64 3]))) := by
  obtain ⟨bs, hbs⟩ : ∃ bs, t.data.toList = bs := ⟨_, rfl⟩
  have hlen : bs.length = t.size := by rw [← hbs]; exact str_len t
  have hget : ∀ j (h : j < t.size), ∃ h' : j < bs.length, bs[j]'h' = t[j] := fun j h => ⟨by rw [hlen]; exact h, by subst hbs; exact str_get t j h⟩
  rw [hbs]
  clear hbs
  obtain ⟨i0, hi, hz0, hz1, hz2⟩ := info_parts info_by
  by_cases hodd : t.size % 2 = 1
  · have HU := Lib.hid (unhexOf_odd (s := bs) (by rw [hlen]; exact hodd))
    have hz : (t.size : Int).tmod 2 = 1 := by rw [Int.tmod_eq_emod_of_nonneg (by omega)]; omega
    clear hget hlen
    go_enter Tryd.func16, Tryd.ntmps16
    go_wp2_with fail
    go_ret2
    exact ⟨Below.refl _ _, .inr ⟨HU.out, rfl⟩⟩
  · have hz : (t.size : Int).tmod 2 = 0 := by rw [Int.tmod_eq_emod_of_nonneg (by omega)]; omega
    have HGET := Lib.hid hget
    have HLEN := Lib.hid hlen
    clear hget hlen
    go_enter Tryd.func16, Tryd.ntmps16
    go_wp2_with fail
    go_loopg [4, 5] t.size (fun gh v it wr => ∃ (b : By) (i : Nat), it = .int .i64 (i : Int) ∧ i = 2 * b.length ∧ gh + i = t.size ∧ wr.ownsRow w.heap.size 5 1 v b.length (bcells b) ∧ bs = hexOf b ++ bs.drop i ∧ Below w.heap.size w wr)
    case atStart => exact ⟨[], 0, rfl, rfl, rfl, World.ownsRow_nil _ _ _ _, rfl, Below.refl _ _⟩
    case round =>
      obtain ⟨b, i, rfl, hib, hg, hown, hsplit, hB⟩ := hrel
      replace hib := Lib.hid hib
      by_cases hlt : i < t.size
      · have hlt2 : i + 1 < t.size := by have := hib.out; omega
        obtain ⟨hl1, hx⟩ := HGET.out i hlt
        obtain ⟨hl2, hy⟩ := HGET.out (i + 1) hlt2
        obtain ⟨x, hx'⟩ : ∃ x, bs[i] = x := ⟨_, rfl⟩
        obtain ⟨y, hy'⟩ : ∃ y, bs[i + 1] = y := ⟨_, rfl⟩
        rw [hx'] at hx
        rw [hy'] at hy
        have hxn : (t[i]'hlt).toNat = x.toNat := by rw [hx]
        have hyn : (t[i + 1]'hlt2).toNat = y.toNat := by rw [hy]
        have hpair : bs.drop i = x :: y :: bs.drop (i + 1 + 1) := by
          rw [List.drop_eq_getElem_cons hl1, List.drop_eq_getElem_cons hl2, hx', hy']
        obtain ⟨xn, hxx⟩ : ∃ n, x.toNat = n := ⟨_, rfl⟩
        obtain ⟨yn, hyy⟩ : ∃ n, y.toNat = n := ⟨_, rfl⟩
        rw [hxx] at hxn
        rw [hyy] at hyn
        have HS := Lib.hid hsplit
        have HP := Lib.hid hpair
        have HXY := Lib.hid (And.intro hxx hyy)
        have HB := Lib.hid hB
        clear hx hy hx' hy' hpair hsplit hxx hyy hB
        go_wp2_with fail
        go_loopg [4, 6, 7] 256 (fun gm v' f n ws => ∃ m : Nat, n = .int .i64 (m : Int) ∧ gm + m = 256 ∧ Below w.heap.size w ws ∧
          ((f = .bool false ∧ ws.ownsRow w.heap.size 5 1 v' b.length (bcells b) ∧ ∀ k, k < m → ¬ (fig (k / 16) = x ∧ fig (k % 16) = y)) ∨
            (∃ u : UInt8, f = .bool true ∧ ws.ownsRow w.heap.size 5 1 v' (b.length + 1) (bcells (b ++ [u])) ∧ byteOf x y = some u ∧ u.toNat < m)))
        case atStart => exact ⟨0, rfl, rfl, HB.out, .inl ⟨rfl, hown, fun k h => absurd h (by omega)⟩⟩
        case round =>
          obtain ⟨m, rfl, hgm, hBm, hcase⟩ := hrel
          have HC := Lib.hid hcase
          have HBm := Lib.hid hBm
          clear hcase hBm
          by_cases hm : m < 256
          · have f1 := fun W => fig_hi W m hm
            have f2 := fun W => fig_lo W m
            have hw1 : IntKind.i64.wrap ((m : Int) / 16) = (m : Int) / 16 := IntWalk.i64_in _ (by omega)
            have hw2 : IntKind.i64.wrap ((i : Int) + 1) = (i : Int) + 1 := IntWalk.i64_in _ (by omega)
            have hw3 : (m : Int).tmod 16 = (m : Int) % 16 := Int.tmod_eq_emod_of_nonneg (by omega)
            have hw4 : (m : Int).tdiv 16 = (m : Int) / 16 := Int.tdiv_eq_ediv_of_nonneg (by omega)
            by_cases h1 : fig (m / 16) = x
            · rw [h1, HXY.out.1] at f1
              by_cases h2 : fig (m % 16) = y
              · rw [h2, HXY.out.2] at f2
                obtain ⟨ho, hno, rfl⟩ : wr.ownsRow w.heap.size 5 1 u4 b.length (bcells b) ∧ (∀ k, k < m → ¬ (fig (k / 16) = x ∧ fig (k % 16) = y)) ∧ u6 = .bool false := by
                  rcases HC.out with ⟨h, ho, hno⟩ | ⟨u, h, ho, hbu, hum⟩
                  · exact ⟨ho, hno, h⟩
                  · exfalso
                    obtain ⟨e1, e2⟩ := byteOf_some hbu
                    have hu := u.toNat_lt
                    have g1 := fig_inj (by omega) (by omega) (e1.trans h1.symm)
                    have g2 := fig_inj (by omega) (by omega) (e2.trans h2.symm)
                    omega
                have hw5 : IntKind.u8.wrap (m : Int) = (m : Int) := IntWalk.u8_in _ (by omega)
                have hnew : byteOf x y = some (UInt8.ofNat m) := by
                  have hm8 : (UInt8.ofNat m).toNat = m := by simp; omega
                  have := byteOf_fig (UInt8.ofNat m)
                  rw [hm8, h1, h2] at this
                  exact this
                have HN := Lib.hid hnew
                have HO := Lib.hid ho
                have hbl : b.length ≤ 35184372088832 := by have := hib.out; omega
                clear hnew ho hno h1 h2 HC
                go_wp2_with fail
                go_quiet ((go_at_call 28; (try rw [hw1]); first | (with_reducible exact quiet_at (f1 _)) | (with_reducible exact quiet_at (f2 _))))
                have HO2 := Lib.hid (show (wr.drewN nq).ownsRow w.heap.size 5 1 u4 b.length (bcells b) from HO.out)
                have HB2 := Lib.hid (below_figN HBm.out nq)
                generalize wr.drewN nq = W at *
                clear f1 f2
                go_wp2_with (at_builtin; refine wpList_append_own _ rfl _ _ 40 rfl w.heap.size 5 i0 (.int .u8 0) 1 1 Tryd.underlying40 hi hz0 hz1 hz2 rfl (by decide) _ _ _ rfl (HO2.out.alloc _) ⟨W.heap.size, 0, none⟩ 1 1 [.int .u8 (m : Int)] rfl rfl (cell_one_new _ _ _) (by simp [Value.oneCell']) (by simp [maxLen]; omega) (by omega) (by have h1 := HB2.out.size; simp; omega) ?_; intro v' w3 hown' hgrow _; replace hown' := Lib.hid hown'; replace hgrow := Lib.hid hgrow)
                have hstep : w3.ownsRow w.heap.size 5 1 v' (b.length + 1) (bcells (b ++ [UInt8.ofNat m])) := by
                  rw [bcells_append]
                  have : bcells [UInt8.ofNat m] = [.int .u8 (m : Int)] := by simp [bcells]; omega
                  rw [this]
                  exact hown'.out
                have hBs := below_app HB2.out HO2.out (.int .u8 (m : Int)) hgrow.out
                go_roundg (256 - (m + 1))
                case measure => omega
                case rel => exact ⟨m + 1, by simp, by omega, hBs, .inr ⟨UInt8.ofNat m, rfl, hstep, HN.out, by simp; omega⟩⟩
              · have HNO := Lib.hid (none_more HC.out fun e => h2 e.2)
                obtain ⟨z, hz⟩ : ∃ z, (fig (m % 16)).toNat = z := ⟨_, rfl⟩
                have hzy : ¬ (z : Int) = (yn : Int) := fun e => h2 (UInt8.toNat_inj.1 (by rw [HXY.out.2]; omega))
                rw [hz] at f2
                clear h1 h2 hz
                go_wp2_with fail
                go_quiet ((go_at_call 28; (try rw [hw1]); first | (with_reducible exact quiet_at (f1 _)) | (with_reducible exact quiet_at (f2 _))))
                have HB2 := Lib.hid (below_figN HBm.out nq)
                have HC2 : Hid ((u6 = .bool false ∧ (wr.drewN nq).ownsRow w.heap.size 5 1 u4 b.length (bcells b) ∧ ∀ k, k < m + 1 → ¬ (fig (k / 16) = x ∧ fig (k % 16) = y)) ∨
                  (∃ u : UInt8, u6 = .bool true ∧ (wr.drewN nq).ownsRow w.heap.size 5 1 u4 (b.length + 1) (bcells (b ++ [u])) ∧ byteOf x y = some u ∧ u.toNat < m + 1)) := Lib.hid HNO.out
                generalize wr.drewN nq = W at *
                clear f1 f2 HNO HC
                go_wp2_with fail
                go_roundg (256 - (m + 1))
                case measure => omega
                case rel => exact ⟨m + 1, by simp, by omega, HB2.out, HC2.out⟩
            · have HNO := Lib.hid (none_more HC.out fun e => h1 e.1)
              obtain ⟨z, hz⟩ : ∃ z, (fig (m / 16)).toNat = z := ⟨_, rfl⟩
              have hzy : ¬ (z : Int) = (xn : Int) := fun e => h1 (UInt8.toNat_inj.1 (by rw [HXY.out.1]; omega))
              rw [hz] at f1
              clear h1 hz f2
              go_wp2_with fail
              go_quiet ((go_at_call 28; (try rw [hw1]); first | (with_reducible exact quiet_at (f1 _))))
              have HB2 := Lib.hid (below_figN HBm.out nq)
              have HC2 : Hid ((u6 = .bool false ∧ (wr.drewN nq).ownsRow w.heap.size 5 1 u4 b.length (bcells b) ∧ ∀ k, k < m + 1 → ¬ (fig (k / 16) = x ∧ fig (k % 16) = y)) ∨
                (∃ u : UInt8, u6 = .bool true ∧ (wr.drewN nq).ownsRow w.heap.size 5 1 u4 (b.length + 1) (bcells (b ++ [u])) ∧ byteOf x y = some u ∧ u.toNat < m + 1)) := Lib.hid HNO.out
              generalize wr.drewN nq = W at *
              clear f1 HNO HC
              go_wp2_with fail
              go_roundg (256 - (m + 1))
              case measure => omega
              case rel => exact ⟨m + 1, by simp, by omega, HB2.out, HC2.out⟩
          · obtain rfl : m = 256 := by omega
            rcases HC.out with ⟨rfl, ho, hno⟩ | ⟨u, rfl, ho, hbu, _⟩
            · have hfail : unhexOf bs = none := unhex_fail HS.out HP.out (byteOf_no hno)
              have HF := Lib.hid (And.intro hfail HBm.out)
              clear ho hno HC hown hfail
              go_wp2_with fail
              go_ret2
              exact ⟨HF.out.2, .inr ⟨HF.out.1, rfl⟩⟩
            · have hnx := unhex_next HS.out HP.out hbu hib.out
              have HO := Lib.hid ho
              have HX := Lib.hid hnx
              clear ho hbu HC hown hnx
              go_wp2_with fail
              go_roundg (t.size - (i + 2))
              case measure => omega
              case rel => exact ⟨b ++ [u], i + 2, by simp, by have := hib.out; simp; omega, by omega, by simpa using HO.out, HX.out, HBm.out⟩
      · have hlast : unhexOf bs = some b := by
          have : bs.drop i = [] := List.drop_eq_nil_of_le (by have := HLEN.out; omega)
          rw [this, List.append_nil] at hsplit
          rw [hsplit]; exact unhexOf_hex b
        obtain ⟨q, cap, rfl, _, hq⟩ := own_by_rd hown
        have HL := Lib.hid (And.intro hlast (And.intro hq hB))
        clear hlast hq hB hown hsplit
        go_wp2_with fail
        go_ret2
        exact ⟨HL.out.2.2, .inl ⟨b, HL.out.1, q, ⟨cap, rfl⟩, HL.out.2.1⟩⟩
end Go.Proofs.YtkeglcfndjpblaaDoor
