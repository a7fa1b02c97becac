/- Lines that are the same: the document's own Same finds them so. -/
import Derived.Test.YtmbafdnickeikaaLxM
import Derived.Test.YtmbafdnickeikaaLxA
namespace Go.Proofs.Ytmbafdnickeikaa
open Go.RowKit

theorem drewN_drewN (w : World) (a b : Nat) : (w.drewN a).drewN b = w.drewN (a + b) := by
  unfold World.drewN
  simp [Nat.add_assoc]
theorem drew_drewN (w : World) (a : Nat) : (w.drewN a).drew = w.drewN (a + 1) := rfl

set_option maxRecDepth 10000 in
set_option maxHeartbeats 4000000 in
theorem ref6_Same (B C : Nat) (p q : Option Addr) (c d : Nat) (Ls Ms : List Rw) (w : World) (hL : RdL w B p Ls) (hM : RdL w C q Ms) (hn : Ls.length ≤ 4611686018427387904) (hr : ∀ r ∈ Ls, r.ws.length ≤ 4611686018427387904) (he : Rw.all Ls = Rw.all Ms) :
    Calls Try.prog 7 #[.slice p Ls.length c, .slice q Ms.length d] w fun e w' => e = .returned (.bool true) ∧ ∃ k, w' = w.drewN k := by
  have hlen : Ms.length = Ls.length := by rw [← Rw.all_length, ← Rw.all_length, he]
  rw [hlen]
  by_cases h0 : Ls.length = 0
  · obtain rfl : Ls = [] := List.eq_nil_of_length_eq_zero h0
    clear hL hM hr he
    go_enter Try.func7, Try.ntmps7
    go_wp2_with fail
    go_loopg [5] 0 (fun gh t wr => t = .int .i64 0 ∧ wr = w ∧ gh = 0)
    case atStart => exact ⟨rfl, rfl, rfl⟩
    case round =>
      obtain ⟨rfl, rfl, rfl⟩ := hrel
      go_wp2_with fail
      go_ret
      exact ⟨rfl, 0, rfl⟩
  · obtain ⟨b1, o1, rfl, _, _, _⟩ := hL.row (i := 0) (by omega)
    obtain ⟨b2, o2, rfl, _, _, _⟩ := hM.row (i := 0) (by omega)
    have hLc : ∀ i (h : i < Ls.length), w.cell? ⟨b1, o1 + i, none⟩ = some (.slice Ls[i].A Ls[i].ws.length Ls[i].c) ∧ RdV w B Ls[i].A (scells Ls[i].ws) := fun i h => by
      obtain ⟨b, o, e, _, h1, h2⟩ := hL.row h
      cases e
      exact ⟨h1, h2⟩
    have hMc : ∀ i (h : i < Ls.length), w.cell? ⟨b2, o2 + i, none⟩ = some (.slice (Ms[i]'(by omega)).A Ls[i].ws.length (Ms[i]'(by omega)).c) ∧ RdV w C (Ms[i]'(by omega)).A (scells Ls[i].ws) := fun i h => by
      obtain ⟨b, o, e, _, h1, h2⟩ := hM.row (i := i) (by omega)
      cases e
      have hw : (Ms[i]'(by omega)).ws = Ls[i].ws := by
        have h3 : (Rw.all Ls)[i]? = (Rw.all Ms)[i]? := by rw [he]
        simp only [Rw.all, List.getElem?_map, List.getElem?_eq_getElem h, List.getElem?_eq_getElem (show i < Ms.length by omega), Option.map_some, Option.some.injEq] at h3
        exact h3.symm
      rw [hw] at h1 h2
      exact ⟨h1, h2⟩
    have HL := Lib.hid hLc
    have HM := Lib.hid hMc
    have HR := Lib.hid hr
    clear hLc hMc hL hM hr he
    go_enter Try.func7, Try.ntmps7
    go_wp2_with fail
    go_loopg [5] Ls.length (fun gh t wr => ∃ i k : Nat, t = .int .i64 i ∧ gh + i = Ls.length ∧ wr = w.drewN k)
    case atStart => exact ⟨0, 0, rfl, rfl, rfl⟩
    case round =>
      obtain ⟨i, k, rfl, hg, rfl⟩ := hrel
      by_cases hi : i < Ls.length
      · obtain ⟨h1, h2⟩ := HL.out i hi
        obtain ⟨h3, h4⟩ := HM.out i hi
        have hrl := HR.out _ (List.getElem_mem hi)
        obtain ⟨r, hrr⟩ : ∃ r, Ls[i] = r := ⟨_, rfl⟩
        obtain ⟨s, hss⟩ : ∃ s, Ms[i] = s := ⟨_, rfl⟩
        rw [hrr] at h1 h2 h3 h4 hrl
        rw [hss] at h3 h4
        clear hrr hss
        obtain ⟨rA, rc, ws⟩ := r
        obtain ⟨sA, sc, ws'⟩ := s
        dsimp only at h1 h2 h3 h4 hrl
        clear ws'
        have h1' : ∀ n, (w.drewN n).cell? ⟨b1, o1 + i, none⟩ = some (.slice rA ws.length rc) := fun _ => h1
        have h3' : ∀ n, (w.drewN n).cell? ⟨b2, o2 + i, none⟩ = some (.slice sA ws.length sc) := fun _ => h3
        have H2 := Lib.hid h2
        have H4 := Lib.hid h4
        clear h1 h3 h2 h4
        go_wp2_with fail
        go_region
        go_wp2_with fail
        go_loopg [6] ws.length (fun gh t wr => ∃ j n : Nat, t = .int .i64 j ∧ gh + j = ws.length ∧ wr = w.drewN n)
        case atStart => exact ⟨0, _, rfl, rfl, rfl⟩
        case round =>
          obtain ⟨j, n, rfl, hgj, rfl⟩ := hrel
          by_cases hj : j < ws.length
          · obtain ⟨b3, o3, rfl, _, h5⟩ := H2.out.word hj
            obtain ⟨b4, o4, rfl, _, h6⟩ := H4.out.word hj
            obtain ⟨x, hx⟩ : ∃ x, str ws[j] = x := ⟨_, rfl⟩
            rw [hx] at h5 h6
            have h5' : ∀ n, (w.drewN n).cell? ⟨b3, o3 + j, none⟩ = some (.string x) := fun _ => h5
            have h6' : ∀ n, (w.drewN n).cell? ⟨b4, o4 + j, none⟩ = some (.string x) := fun _ => h6
            clear h5 h6
            go_wp2_with fail
            go_region
            go_wp2_with fail
            go_roundg (ws.length - (j + 1))
            case measure => omega
            case rel => exact ⟨j + 1, _, by simp, by omega, rfl⟩
          · obtain rfl : j = ws.length := by omega
            go_wp2_with fail
            go_roundg (Ls.length - (i + 1))
            case measure => omega
            case rel => exact ⟨i + 1, _, by simp, by omega, rfl⟩
      · obtain rfl : i = Ls.length := by omega
        go_wp2_with fail
        go_ret
        exact ⟨rfl, _, rfl⟩
end Go.Proofs.Ytmbafdnickeikaa
