/- The table of figures, and the half that a letter stands for: the program's own. -/
import Derived.Test.YtaiinglogpbfjaaDoorFhM
import Derived.Test.YtaiinglogpbfjaaDoorFgC
import Derived.Lib.LaidTab
import Derived.Lib.AppendIntMem
namespace Go.Proofs.YtaiinglogpbfjaaDoor
open Go.RowKit

/-- the table of figures, as the program's text lays it -/
def figTab : List Int := [48, 49, 50, 51, 52, 53, 54, 55, 56, 57, 97, 98, 99, 100, 101, 102]
def figCells : Array Value := (figTab.map fun z => Value.int .u8 z).toArray
def Figs (w : World) : Prop := Lib.TabIs Tryd.prog w "frisket/figure.figures" .u8 figTab
theorem figs_named : Tryd.prog.globalNamed "frisket/figure.figures" = some 0 := by kernel_rfl
theorem figs_row {w : World} (h : Figs w) : ∃ t fr, w.heap[0]? = some (.cells figCells t fr) := by
  unfold Figs Lib.TabIs World.var? at h
  rw [figs_named] at h
  simp only [Option.bind_some] at h
  split at h
  · rename_i cs t fr hc
    exact ⟨t, fr, by rw [hc, Option.some.inj h]; rfl⟩
  · cases h
theorem figs_lt {w : World} (h : Figs w) : 0 < w.heap.size := by
  obtain ⟨t, fr, h⟩ := figs_row h
  exact (Array.getElem?_eq_some_iff.1 h).1
theorem Figs.on {w w' : World} (h : Figs w) (hb : Below w.heap.size w w') : Figs w' := Lib.tabBelow_of_tabIs h w' hb
theorem figs_size : figCells.size = 16 := rfl
theorem figCells_at : ∀ i, i < 16 → figCells[i]? = some (.int .u8 ((fig i).toNat : Int)) := fun i hi => by
  have h : i = 0 ∨ i = 1 ∨ i = 2 ∨ i = 3 ∨ i = 4 ∨ i = 5 ∨ i = 6 ∨ i = 7 ∨ i = 8 ∨ i = 9 ∨ i = 10 ∨ i = 11 ∨ i = 12 ∨ i = 13 ∨ i = 14 ∨ i = 15 := by omega
  rcases h with rfl | rfl | rfl | rfl | rfl | rfl | rfl | rfl | rfl | rfl | rfl | rfl | rfl | rfl | rfl | rfl <;> rfl
theorem figs_cell {w : World} (h : Figs w) {i : Nat} (hi : i < 16) : w.cell? ⟨0, i, none⟩ = some (.int .u8 ((fig i).toNat : Int)) := by
  obtain ⟨t, fr, h⟩ := figs_row h
  rw [cell_of_row w _ i _ t fr h]
  exact figCells_at i hi
theorem size_byF : (Tryd.prog.info? 5).map (·.size) = some 1 := by kernel_rfl
theorem figs_index (k : Nat) (hk : k < 16) (W : World) : (Instr.index 48 (.agg figCells) (.int .i64 (k : Int))).run Tryd.prog W = .ok (.int .u8 ((fig k).toNat : Int)) W := by
  have h := figCells_at k hk
  have hs := size_byF
  cases hq : Tryd.prog.info? 5 with
  | none => simp [hq] at hs
  | some i =>
    have hs1 : i.size = 1 := by simpa [hq] using hs
    simp [Instr.index, run_underlying Tryd.underlying48, asIntOf, go_sem, sizeOf, typeInfo, hq, hs1, h]
    exact fun h9 => by omega
theorem fig_lt (n : Nat) (h : n < 16) : (fig n).toNat < 128 := by
  rw [fig_nat h]
  split <;> omega

set_option maxRecDepth 10000 in
set_option maxHeartbeats 3200000 in
theorem fig_worth (c : Int) (w : World) (hF : Figs w) :
    Calls Tryd.prog 17 #[.int .i32 c] w fun e w' => w = w' ∧ ((∃ n : Nat, n < 16 ∧ ((fig n).toNat : Int) = c ∧ e = .returned (.tuple #[.int .u8 (n : Int), .bool true])) ∨ ((∀ n : Nat, n < 16 → ¬ ((fig n).toNat : Int) = c) ∧ e = .returned (.tuple #[.int .u8 0, .bool false]))) := by
  obtain ⟨T, fr, hg⟩ := figs_row hF
  go_enter Tryd.func17, Tryd.ntmps17
  go_wp2_with (with_reducible refine wpList_load_row rfl 48 _ rfl 0 rfl T figCells fr _ hg Tryd.underlying48 rfl (by kernel_rfl) ?_)
  go_loopg [4, 5, 7] 16 (fun gh _ _ it wr => ∃ k : Nat, it = .int .i64 (k : Int) ∧ gh + k = 16 ∧ (∀ n : Nat, n < k → ¬ ((fig n).toNat : Int) = c) ∧ wr = w)
  case atStart => exact ⟨0, rfl, rfl, fun n h => absurd h (by omega), rfl⟩
  case round =>
    obtain ⟨k, rfl, hgk, hno, rfl⟩ := hrel
    have HN := Lib.hid hno
    clear hno
    by_cases hk : k < 16
    · have hx := figCells_at k hk
      have hfb := fig_lt k hk
      have hix := fun W => figs_index k hk W
      obtain ⟨x, hxx⟩ : ∃ x, (fig k).toNat = x := ⟨_, rfl⟩
      rw [hxx] at hx hfb
      simp only [hxx] at hix
      have HX := Lib.hid hxx
      clear hxx
      by_cases hc : (x : Int) = c
      · have hw8 : IntKind.u8.wrap (k : Int) = (k : Int) := IntWalk.u8_in _ (by omega)
        go_wp2_with fail
        go_ret2
        exact ⟨rfl, .inl ⟨k, hk, by rw [HX.out]; exact hc, by simp⟩⟩
      · go_wp2_with fail
        go_roundg (16 - (k + 1))
        case measure => omega
        case rel =>
          refine ⟨k + 1, by simp, by omega, fun n hn => ?_, rfl⟩
          by_cases e : n = k
          · rw [e, HX.out]; exact hc
          · exact HN.out n (by omega)
    · obtain rfl : k = 16 := by omega
      go_wp2_with fail
      go_ret2
      exact ⟨rfl, .inr ⟨HN.out, rfl⟩⟩
end Go.Proofs.YtaiinglogpbfjaaDoor
