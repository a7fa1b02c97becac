/- Colours: the program's own May. Written by gen/genco8.py. -/
import Derived.Test.YtaiinglogpbfjaaCoQ
import Derived.Deep.RegionHeld3
namespace Go.Proofs.Ytaiinglogpbfjaa
open Go.RowKit

/-- the lesser of two parts -/
def minU (a b : UInt8) : UInt8 := if b.toNat < a.toNat then b else a
theorem minU_gt {a b : UInt8} (h : b.toNat < a.toNat) : minU a b = b := if_pos h
theorem minU_le {a b : UInt8} (h : ¬ b.toNat < a.toNat) : minU a b = a := if_neg h
theorem minU_self (a : UInt8) : minU a a = a := minU_le (by omega)
def minC (c : Col) : Col := ⟨minU c.r c.a, minU c.g c.a, minU c.b c.a, minU c.a c.a⟩
theorem may_min (c : Col) : mayC c = true ↔ minC c = c := by
  have e : ∀ a b : UInt8, minU a b = a ↔ a.toNat ≤ b.toNat := fun a b => by
    constructor
    · intro h
      by_cases hl : b.toNat < a.toNat
      · rw [minU_gt hl] at h; rw [h] at hl; omega
      · omega
    · intro h; exact minU_le (by omega)
  rw [may_iff, Col.same]
  show _ ↔ minU c.r c.a = c.r ∧ minU c.g c.a = c.g ∧ minU c.b c.a = c.b ∧ minU c.a c.a = c.a
  rw [e, e, e, e]
  constructor
  · rintro ⟨h1, h2, h3⟩; exact ⟨h1, h2, h3, Nat.le_refl _⟩
  · rintro ⟨h1, h2, h3, -⟩; exact ⟨h1, h2, h3⟩
theorem eight_on {g : Nat} {c X : Col} {w v w' : World} (h : ((v.cell? ⟨g, 0, none⟩ = some (.int .u8 (X.r.toNat : Int)) ∧ v.cell? ⟨g, 1, none⟩ = some (.int .u8 (X.g.toNat : Int)) ∧ v.cell? ⟨g, 2, none⟩ = some (.int .u8 (X.b.toNat : Int)) ∧ v.cell? ⟨g, 3, none⟩ = some (.int .u8 (X.a.toNat : Int))) ∧ (v.cell? ⟨w.heap.size, 0, none⟩ = some (.int .u8 (c.r.toNat : Int)) ∧ v.cell? ⟨w.heap.size, 1, none⟩ = some (.int .u8 (c.g.toNat : Int)) ∧ v.cell? ⟨w.heap.size, 2, none⟩ = some (.int .u8 (c.b.toNat : Int)) ∧ v.cell? ⟨w.heap.size, 3, none⟩ = some (.int .u8 (c.a.toNat : Int)))) ∧ (g < v.heap.size ∧ w.heap.size < v.heap.size) ∧ Below w.heap.size w v) (hb : Below v.heap.size v w') : ((w'.cell? ⟨g, 0, none⟩ = some (.int .u8 (X.r.toNat : Int)) ∧ w'.cell? ⟨g, 1, none⟩ = some (.int .u8 (X.g.toNat : Int)) ∧ w'.cell? ⟨g, 2, none⟩ = some (.int .u8 (X.b.toNat : Int)) ∧ w'.cell? ⟨g, 3, none⟩ = some (.int .u8 (X.a.toNat : Int))) ∧ (w'.cell? ⟨w.heap.size, 0, none⟩ = some (.int .u8 (c.r.toNat : Int)) ∧ w'.cell? ⟨w.heap.size, 1, none⟩ = some (.int .u8 (c.g.toNat : Int)) ∧ w'.cell? ⟨w.heap.size, 2, none⟩ = some (.int .u8 (c.b.toNat : Int)) ∧ w'.cell? ⟨w.heap.size, 3, none⟩ = some (.int .u8 (c.a.toNat : Int)))) ∧ (g < w'.heap.size ∧ w.heap.size < w'.heap.size) ∧ Below w.heap.size w w' := by
  obtain ⟨⟨⟨h0, h1, h2, h3⟩, k0, k1, k2, k3⟩, ⟨hl, hl2⟩, hv⟩ := h
  have e : ∀ (i j : Nat), i < v.heap.size → w'.cell? ⟨i, j, none⟩ = v.cell? ⟨i, j, none⟩ := fun i j hi => hb.cell (p := ⟨i, j, none⟩) hi
  refine ⟨⟨⟨?_, ?_, ?_, ?_⟩, ?_, ?_, ?_, ?_⟩, ⟨Nat.lt_of_lt_of_le hl hb.size, Nat.lt_of_lt_of_le hl2 hb.size⟩, hv.trans (hb.mono hv.size)⟩
  all_goals exact (e _ _ (by omega)).trans (by assumption)
theorem eight_drew {g : Nat} {c X : Col} {w v : World} (h : ((v.cell? ⟨g, 0, none⟩ = some (.int .u8 (X.r.toNat : Int)) ∧ v.cell? ⟨g, 1, none⟩ = some (.int .u8 (X.g.toNat : Int)) ∧ v.cell? ⟨g, 2, none⟩ = some (.int .u8 (X.b.toNat : Int)) ∧ v.cell? ⟨g, 3, none⟩ = some (.int .u8 (X.a.toNat : Int))) ∧ (v.cell? ⟨w.heap.size, 0, none⟩ = some (.int .u8 (c.r.toNat : Int)) ∧ v.cell? ⟨w.heap.size, 1, none⟩ = some (.int .u8 (c.g.toNat : Int)) ∧ v.cell? ⟨w.heap.size, 2, none⟩ = some (.int .u8 (c.b.toNat : Int)) ∧ v.cell? ⟨w.heap.size, 3, none⟩ = some (.int .u8 (c.a.toNat : Int)))) ∧ (g < v.heap.size ∧ w.heap.size < v.heap.size) ∧ Below w.heap.size w v) : ((v.drew.cell? ⟨g, 0, none⟩ = some (.int .u8 (X.r.toNat : Int)) ∧ v.drew.cell? ⟨g, 1, none⟩ = some (.int .u8 (X.g.toNat : Int)) ∧ v.drew.cell? ⟨g, 2, none⟩ = some (.int .u8 (X.b.toNat : Int)) ∧ v.drew.cell? ⟨g, 3, none⟩ = some (.int .u8 (X.a.toNat : Int))) ∧ (v.drew.cell? ⟨w.heap.size, 0, none⟩ = some (.int .u8 (c.r.toNat : Int)) ∧ v.drew.cell? ⟨w.heap.size, 1, none⟩ = some (.int .u8 (c.g.toNat : Int)) ∧ v.drew.cell? ⟨w.heap.size, 2, none⟩ = some (.int .u8 (c.b.toNat : Int)) ∧ v.drew.cell? ⟨w.heap.size, 3, none⟩ = some (.int .u8 (c.a.toNat : Int)))) ∧ (g < v.drew.heap.size ∧ w.heap.size < v.drew.heap.size) ∧ Below w.heap.size w v.drew := ⟨h.1, h.2.1, h.2.2.drew⟩

set_option maxRecDepth 10000 in
set_option maxHeartbeats 3200000 in
theorem col_May (c : Col) (w : World) :
    Calls Try.prog 12 #[colV c] w fun e w' => e = .returned (.bool (mayC c)) ∧ Below w.heap.size w w' := by
  have kW : ∃ W, w.alloc (.cells (colCells c).toArray 23) = W ∧ Box W w.heap.size 23 (colCells c) ∧ Below w.heap.size w W ∧ W.heap.size = w.heap.size + 1 :=
    ⟨_, rfl, Box.new _ _ _, (Below.refl _ _).alloc (Nat.le_refl _) _, by simp⟩
  obtain ⟨W, hW, k1, B0, hsz⟩ := kW
  have cp := fun V => col_partsOf c V
  have cc := fun V => col_colour (minC c) V
  have hq := may_min c
  obtain ⟨q, hq2⟩ : ∃ q : Bool, mayC c = q := ⟨_, rfl⟩
  rw [hq2] at hq ⊢
  have HQ := Lib.hid hq
  clear hq hq2
  unfold colV colCells at *
  have C := Lib.hid (And.intro cp cc)
  clear cp cc
  have HW := Lib.hid hW
  have HK := Lib.hid (And.intro k1 (And.intro B0 hsz))
  clear hW k1 B0 hsz
  go_enter Try.func12, Try.ntmps12
  go_wp2_with (rw [HW.out]; go_at_call 21; (with_reducible refine Calls.mono (C.out.1 W) ?_); rintro e w1 ⟨rfl, hB1⟩)
  obtain ⟨kW, bW, hsW⟩ := HK.out
  obtain ⟨g, hg⟩ : ∃ g, w1.heap.size = g := ⟨_, rfl⟩
  have hgW : w.heap.size + 1 ≤ g := by have := hB1.size; omega
  have kG := Lib.hid (Box.new w1 36 [.int .u8 (c.r.toNat : Int), .int .u8 (c.g.toNat : Int), .int .u8 (c.b.toNat : Int), .int .u8 (c.a.toNat : Int)])
  have kR := Lib.hid ((kW.below hB1 (by omega)).alloc (.cells #[.int .u8 (c.r.toNat : Int), .int .u8 (c.g.toNat : Int), .int .u8 (c.b.toNat : Int), .int .u8 (c.a.toNat : Int)] 36))
  have kB := Lib.hid ((bW.trans (hB1.mono (by omega))).alloc (by omega) (.cells #[.int .u8 (c.r.toNat : Int), .int .u8 (c.g.toNat : Int), .int .u8 (c.b.toNat : Int), .int .u8 (c.a.toNat : Int)] 36))
  rw [hg] at *
  clear hB1 kW bW hsW
  go_loopg [4, 5, 9] 4 (fun gh _ _ it wr => ∃ k : Nat, it = .int .i64 (k : Int) ∧ gh + k = 4 ∧ Box wr g 36 (half4 (minC c) c k) ∧ Box wr w.heap.size 23 (colCells c) ∧ Below w.heap.size w wr)
  case atStart => exact ⟨0, rfl, rfl, hg ▸ kG.out, kR.out, kB.out⟩
  case round =>
    obtain ⟨k, rfl, hgk, hbox, hcol, hB⟩ := hrel
    have hB := Lib.hid hB
    have hk5 : k = 0 ∨ k = 1 ∨ k = 2 ∨ k = 3 ∨ k = 4 := by omega
    clear kG kR kB HW HK
    rcases hk5 with rfl | rfl | rfl | rfl | rfl
    · have ix : ∀ W, (Instr.index 36 (.agg #[.int .u8 (c.r.toNat : Int), .int .u8 (c.g.toNat : Int), .int .u8 (c.b.toNat : Int), .int .u8 (c.a.toNat : Int)]) (.int .i64 0)).run Try.prog W = .ok (.int .u8 (c.r.toNat : Int)) W := fun W => parts_index (.int .u8 (c.r.toNat : Int)) (.int .u8 (c.g.toNat : Int)) (.int .u8 (c.b.toNat : Int)) (.int .u8 (c.a.toNat : Int)) 0 _ rfl W
      have hcell := hbox.cell 0 rfl
      have hfro := hbox.frozen 0
      have hcov := hcol.cell 3 rfl
      have hbox := Lib.hid hbox
      have hcol := Lib.hid hcol
      by_cases hlt : (c.a.toNat : Int) < (c.r.toNat : Int)
      · have kn := Lib.hid (half4_step (minC c) c (by omega) wr g 36 hbox.out (.int .u8 (c.a.toNat : Int)) (by rw [show c.a = (minC c).r from (minU_gt (by omega)).symm]; rfl))
        go_wp2_with fail
        go_roundg 3
        case measure => omega
        case rel => exact ⟨1, rfl, by omega, kn.out, hcol.out.far (by simp; omega) _, hB.out.setCell (by simp; omega) _⟩
      · have kn := Lib.hid (half4_step (minC c) c (by omega) wr g 36 hbox.out (.int .u8 (c.r.toNat : Int)) (by rw [show c.r = (minC c).r from (minU_le (by omega)).symm]; rfl))
        go_wp2_with fail
        go_roundg 3
        case measure => omega
        case rel => exact ⟨1, rfl, by omega, kn.out, hcol.out.far (by simp; omega) _, hB.out.setCell (by simp; omega) _⟩
    · have ix : ∀ W, (Instr.index 36 (.agg #[.int .u8 (c.r.toNat : Int), .int .u8 (c.g.toNat : Int), .int .u8 (c.b.toNat : Int), .int .u8 (c.a.toNat : Int)]) (.int .i64 1)).run Try.prog W = .ok (.int .u8 (c.g.toNat : Int)) W := fun W => parts_index (.int .u8 (c.r.toNat : Int)) (.int .u8 (c.g.toNat : Int)) (.int .u8 (c.b.toNat : Int)) (.int .u8 (c.a.toNat : Int)) 1 _ rfl W
      have hcell := hbox.cell 1 rfl
      have hfro := hbox.frozen 1
      have hcov := hcol.cell 3 rfl
      have hbox := Lib.hid hbox
      have hcol := Lib.hid hcol
      by_cases hlt : (c.a.toNat : Int) < (c.g.toNat : Int)
      · have kn := Lib.hid (half4_step (minC c) c (by omega) wr g 36 hbox.out (.int .u8 (c.a.toNat : Int)) (by rw [show c.a = (minC c).g from (minU_gt (by omega)).symm]; rfl))
        go_wp2_with fail
        go_roundg 2
        case measure => omega
        case rel => exact ⟨2, rfl, by omega, kn.out, hcol.out.far (by simp; omega) _, hB.out.setCell (by simp; omega) _⟩
      · have kn := Lib.hid (half4_step (minC c) c (by omega) wr g 36 hbox.out (.int .u8 (c.g.toNat : Int)) (by rw [show c.g = (minC c).g from (minU_le (by omega)).symm]; rfl))
        go_wp2_with fail
        go_roundg 2
        case measure => omega
        case rel => exact ⟨2, rfl, by omega, kn.out, hcol.out.far (by simp; omega) _, hB.out.setCell (by simp; omega) _⟩
    · have ix : ∀ W, (Instr.index 36 (.agg #[.int .u8 (c.r.toNat : Int), .int .u8 (c.g.toNat : Int), .int .u8 (c.b.toNat : Int), .int .u8 (c.a.toNat : Int)]) (.int .i64 2)).run Try.prog W = .ok (.int .u8 (c.b.toNat : Int)) W := fun W => parts_index (.int .u8 (c.r.toNat : Int)) (.int .u8 (c.g.toNat : Int)) (.int .u8 (c.b.toNat : Int)) (.int .u8 (c.a.toNat : Int)) 2 _ rfl W
      have hcell := hbox.cell 2 rfl
      have hfro := hbox.frozen 2
      have hcov := hcol.cell 3 rfl
      have hbox := Lib.hid hbox
      have hcol := Lib.hid hcol
      by_cases hlt : (c.a.toNat : Int) < (c.b.toNat : Int)
      · have kn := Lib.hid (half4_step (minC c) c (by omega) wr g 36 hbox.out (.int .u8 (c.a.toNat : Int)) (by rw [show c.a = (minC c).b from (minU_gt (by omega)).symm]; rfl))
        go_wp2_with fail
        go_roundg 1
        case measure => omega
        case rel => exact ⟨3, rfl, by omega, kn.out, hcol.out.far (by simp; omega) _, hB.out.setCell (by simp; omega) _⟩
      · have kn := Lib.hid (half4_step (minC c) c (by omega) wr g 36 hbox.out (.int .u8 (c.b.toNat : Int)) (by rw [show c.b = (minC c).b from (minU_le (by omega)).symm]; rfl))
        go_wp2_with fail
        go_roundg 1
        case measure => omega
        case rel => exact ⟨3, rfl, by omega, kn.out, hcol.out.far (by simp; omega) _, hB.out.setCell (by simp; omega) _⟩
    · have ix : ∀ W, (Instr.index 36 (.agg #[.int .u8 (c.r.toNat : Int), .int .u8 (c.g.toNat : Int), .int .u8 (c.b.toNat : Int), .int .u8 (c.a.toNat : Int)]) (.int .i64 3)).run Try.prog W = .ok (.int .u8 (c.a.toNat : Int)) W := fun W => parts_index (.int .u8 (c.r.toNat : Int)) (.int .u8 (c.g.toNat : Int)) (.int .u8 (c.b.toNat : Int)) (.int .u8 (c.a.toNat : Int)) 3 _ rfl W
      have hcell := hbox.cell 3 rfl
      have hfro := hbox.frozen 3
      have hcov := hcol.cell 3 rfl
      have kn := Lib.hid (half4_step (minC c) c (by omega) wr g 36 hbox (.int .u8 (c.a.toNat : Int)) (by rw [show c.a = (minC c).a from (minU_self c.a).symm]; rfl))
      have hcol := Lib.hid hcol
      clear hbox
      have hlt : ¬ (c.a.toNat : Int) < (c.a.toNat : Int) := by omega
      go_wp2_with fail
      go_roundg 0
      case measure => omega
      case rel => exact ⟨4, rfl, by omega, kn.out, hcol.out.far (by simp; omega) _, hB.out.setCell (by simp; omega) _⟩
    · rw [half4_4] at hbox
      obtain ⟨X, hX⟩ : ∃ X, minC c = X := ⟨_, rfl⟩
      rw [hX] at hbox C
      have h8 : ((wr.cell? ⟨g, 0, none⟩ = some (.int .u8 (X.r.toNat : Int)) ∧ wr.cell? ⟨g, 1, none⟩ = some (.int .u8 (X.g.toNat : Int)) ∧ wr.cell? ⟨g, 2, none⟩ = some (.int .u8 (X.b.toNat : Int)) ∧ wr.cell? ⟨g, 3, none⟩ = some (.int .u8 (X.a.toNat : Int))) ∧ (wr.cell? ⟨w.heap.size, 0, none⟩ = some (.int .u8 (c.r.toNat : Int)) ∧ wr.cell? ⟨w.heap.size, 1, none⟩ = some (.int .u8 (c.g.toNat : Int)) ∧ wr.cell? ⟨w.heap.size, 2, none⟩ = some (.int .u8 (c.b.toNat : Int)) ∧ wr.cell? ⟨w.heap.size, 3, none⟩ = some (.int .u8 (c.a.toNat : Int)))) ∧ (g < wr.heap.size ∧ w.heap.size < wr.heap.size) ∧ Below w.heap.size w wr := ⟨⟨(Box.four hbox).1, (Box.four hcol).1⟩, ⟨hbox.lt, hcol.lt⟩, hB.out⟩
      have H8 := Lib.hid h8
      have H9 := Lib.hid (eight_drew h8)
      have HX := Lib.hid hX
      have hs := h8
      obtain ⟨⟨⟨u0, u1, u2, u3⟩, v0, v1, v2, v3⟩, -⟩ := hs
      have C2 := Lib.hid C.out.2
      have hq3 : q = true ↔ ((X.r.toNat : Int) = (c.r.toNat : Int) ∧ (X.g.toNat : Int) = (c.g.toNat : Int) ∧ (X.b.toNat : Int) = (c.b.toNat : Int)) := by
        have h4 : X.a = c.a := by rw [← hX]; exact minU_self c.a
        rw [HQ.out, hX, Col.same]
        constructor
        · rintro ⟨h1, h2, h3, -⟩; exact ⟨by rw [h1], by rw [h2], by rw [h3]⟩
        · rintro ⟨h1, h2, h3⟩; exact ⟨UInt8.toNat_inj.1 (by omega), UInt8.toNat_inj.1 (by omega), UInt8.toNat_inj.1 (by omega), h4⟩
      have h4 : (c.a.toNat : Int) = (X.a.toNat : Int) := by rw [← hX]; show _ = ((minU c.a c.a).toNat : Int); rw [minU_self]
      have K8 := Lib.hid (fun (v w' : World) (h : ((v.cell? ⟨g, 0, none⟩ = some (.int .u8 (X.r.toNat : Int)) ∧ v.cell? ⟨g, 1, none⟩ = some (.int .u8 (X.g.toNat : Int)) ∧ v.cell? ⟨g, 2, none⟩ = some (.int .u8 (X.b.toNat : Int)) ∧ v.cell? ⟨g, 3, none⟩ = some (.int .u8 (X.a.toNat : Int))) ∧ (v.cell? ⟨w.heap.size, 0, none⟩ = some (.int .u8 (c.r.toNat : Int)) ∧ v.cell? ⟨w.heap.size, 1, none⟩ = some (.int .u8 (c.g.toNat : Int)) ∧ v.cell? ⟨w.heap.size, 2, none⟩ = some (.int .u8 (c.b.toNat : Int)) ∧ v.cell? ⟨w.heap.size, 3, none⟩ = some (.int .u8 (c.a.toNat : Int)))) ∧ (g < v.heap.size ∧ w.heap.size < v.heap.size) ∧ Below w.heap.size w v) (hb : Below v.heap.size v w') => eight_on h hb)
      have K9 := Lib.hid (fun (v : World) (h : ((v.cell? ⟨g, 0, none⟩ = some (.int .u8 (X.r.toNat : Int)) ∧ v.cell? ⟨g, 1, none⟩ = some (.int .u8 (X.g.toNat : Int)) ∧ v.cell? ⟨g, 2, none⟩ = some (.int .u8 (X.b.toNat : Int)) ∧ v.cell? ⟨g, 3, none⟩ = some (.int .u8 (X.a.toNat : Int))) ∧ (v.cell? ⟨w.heap.size, 0, none⟩ = some (.int .u8 (c.r.toNat : Int)) ∧ v.cell? ⟨w.heap.size, 1, none⟩ = some (.int .u8 (c.g.toNat : Int)) ∧ v.cell? ⟨w.heap.size, 2, none⟩ = some (.int .u8 (c.b.toNat : Int)) ∧ v.cell? ⟨w.heap.size, 3, none⟩ = some (.int .u8 (c.a.toNat : Int)))) ∧ (g < v.heap.size ∧ w.heap.size < v.heap.size) ∧ Below w.heap.size w v) => eight_drew h)
      clear hbox hcol h8 hX HX HQ C hB
      generalize (X.r.toNat : Int) = x0 at *
      generalize (X.g.toNat : Int) = x1 at *
      generalize (X.b.toNat : Int) = x2 at *
      generalize (X.a.toNat : Int) = x3 at *
      generalize (c.r.toNat : Int) = y0 at *
      generalize (c.g.toNat : Int) = y1 at *
      generalize (c.b.toNat : Int) = y2 at *
      generalize (c.a.toNat : Int) = y3 at *
      subst h4
      by_cases e0 : x0 = y0
      · subst e0
        by_cases e1 : x1 = y1
        · subst e1
          by_cases e2 : x2 = y2
          · subst e2
            have HQ := Lib.hid (show q = true from hq3.2 ⟨rfl, rfl, rfl⟩)
            clear hq3
            go_wp2_with fail
            go_region_held3 (fun w' => ((w'.cell? ⟨g, 0, none⟩ = some (.int .u8 x0) ∧ w'.cell? ⟨g, 1, none⟩ = some (.int .u8 x1) ∧ w'.cell? ⟨g, 2, none⟩ = some (.int .u8 x2) ∧ w'.cell? ⟨g, 3, none⟩ = some (.int .u8 y3)) ∧ (w'.cell? ⟨w.heap.size, 0, none⟩ = some (.int .u8 x0) ∧ w'.cell? ⟨w.heap.size, 1, none⟩ = some (.int .u8 x1) ∧ w'.cell? ⟨w.heap.size, 2, none⟩ = some (.int .u8 x2) ∧ w'.cell? ⟨w.heap.size, 3, none⟩ = some (.int .u8 y3))) ∧ (g < w'.heap.size ∧ w.heap.size < w'.heap.size) ∧ Below w.heap.size w w')
              (first | (with_reducible exact H8.out) | (with_reducible exact H9.out) | (with_reducible exact K8.out _ _ (by assumption) b3) | (with_reducible exact K9.out _ (by assumption)) | go_keep)
              ((first
                | (go_at_call 22; (with_reducible refine Calls.mono (C2.out _) ?_); rintro e w3 ⟨rfl, b3⟩)))
            all_goals
              rename_i hHeld
              obtain ⟨-, -, hB5⟩ := hHeld
              go_wp2_with fail
              go_ret
              exact ⟨by rw [HQ.out]; first | rfl | simp, hB5⟩
          · have HQ := Lib.hid (show q = false from Bool.eq_false_iff.2 fun hb => e2 (hq3.1 hb).2.2)
            clear hq3
            go_wp2_with fail
            go_region_held3 (fun w' => ((w'.cell? ⟨g, 0, none⟩ = some (.int .u8 x0) ∧ w'.cell? ⟨g, 1, none⟩ = some (.int .u8 x1) ∧ w'.cell? ⟨g, 2, none⟩ = some (.int .u8 x2) ∧ w'.cell? ⟨g, 3, none⟩ = some (.int .u8 y3)) ∧ (w'.cell? ⟨w.heap.size, 0, none⟩ = some (.int .u8 x0) ∧ w'.cell? ⟨w.heap.size, 1, none⟩ = some (.int .u8 x1) ∧ w'.cell? ⟨w.heap.size, 2, none⟩ = some (.int .u8 y2) ∧ w'.cell? ⟨w.heap.size, 3, none⟩ = some (.int .u8 y3))) ∧ (g < w'.heap.size ∧ w.heap.size < w'.heap.size) ∧ Below w.heap.size w w')
              (first | (with_reducible exact H8.out) | (with_reducible exact H9.out) | (with_reducible exact K8.out _ _ (by assumption) b3) | (with_reducible exact K9.out _ (by assumption)) | go_keep)
              ((first
                | (go_at_call 22; (with_reducible refine Calls.mono (C2.out _) ?_); rintro e w3 ⟨rfl, b3⟩)))
            all_goals
              rename_i hHeld
              obtain ⟨-, -, hB5⟩ := hHeld
              go_wp2_with fail
              go_ret
              exact ⟨by rw [HQ.out]; first | rfl | simp, hB5⟩
        · have HQ := Lib.hid (show q = false from Bool.eq_false_iff.2 fun hb => e1 (hq3.1 hb).2.1)
          clear hq3
          go_wp2_with fail
          go_region_held3 (fun w' => ((w'.cell? ⟨g, 0, none⟩ = some (.int .u8 x0) ∧ w'.cell? ⟨g, 1, none⟩ = some (.int .u8 x1) ∧ w'.cell? ⟨g, 2, none⟩ = some (.int .u8 x2) ∧ w'.cell? ⟨g, 3, none⟩ = some (.int .u8 y3)) ∧ (w'.cell? ⟨w.heap.size, 0, none⟩ = some (.int .u8 x0) ∧ w'.cell? ⟨w.heap.size, 1, none⟩ = some (.int .u8 y1) ∧ w'.cell? ⟨w.heap.size, 2, none⟩ = some (.int .u8 y2) ∧ w'.cell? ⟨w.heap.size, 3, none⟩ = some (.int .u8 y3))) ∧ (g < w'.heap.size ∧ w.heap.size < w'.heap.size) ∧ Below w.heap.size w w')
            (first | (with_reducible exact H8.out) | (with_reducible exact H9.out) | (with_reducible exact K8.out _ _ (by assumption) b3) | (with_reducible exact K9.out _ (by assumption)) | go_keep)
            ((first
              | (go_at_call 22; (with_reducible refine Calls.mono (C2.out _) ?_); rintro e w3 ⟨rfl, b3⟩)))
          all_goals
            rename_i hHeld
            obtain ⟨-, -, hB5⟩ := hHeld
            go_wp2_with fail
            go_ret
            exact ⟨by rw [HQ.out]; first | rfl | simp, hB5⟩
      · have HQ := Lib.hid (show q = false from Bool.eq_false_iff.2 fun hb => e0 (hq3.1 hb).1)
        clear hq3
        go_wp2_with fail
        go_region_held3 (fun w' => ((w'.cell? ⟨g, 0, none⟩ = some (.int .u8 x0) ∧ w'.cell? ⟨g, 1, none⟩ = some (.int .u8 x1) ∧ w'.cell? ⟨g, 2, none⟩ = some (.int .u8 x2) ∧ w'.cell? ⟨g, 3, none⟩ = some (.int .u8 y3)) ∧ (w'.cell? ⟨w.heap.size, 0, none⟩ = some (.int .u8 y0) ∧ w'.cell? ⟨w.heap.size, 1, none⟩ = some (.int .u8 y1) ∧ w'.cell? ⟨w.heap.size, 2, none⟩ = some (.int .u8 y2) ∧ w'.cell? ⟨w.heap.size, 3, none⟩ = some (.int .u8 y3))) ∧ (g < w'.heap.size ∧ w.heap.size < w'.heap.size) ∧ Below w.heap.size w w')
          (first | (with_reducible exact H8.out) | (with_reducible exact H9.out) | (with_reducible exact K8.out _ _ (by assumption) b3) | (with_reducible exact K9.out _ (by assumption)) | go_keep)
          ((first
            | (go_at_call 22; (with_reducible refine Calls.mono (C2.out _) ?_); rintro e w3 ⟨rfl, b3⟩)))
        all_goals
          rename_i hHeld
          obtain ⟨-, -, hB5⟩ := hHeld
          go_wp2_with fail
          go_ret
          exact ⟨by rw [HQ.out]; first | rfl | simp, hB5⟩
end Go.Proofs.Ytaiinglogpbfjaa
