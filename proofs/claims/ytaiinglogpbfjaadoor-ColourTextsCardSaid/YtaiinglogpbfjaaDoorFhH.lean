/- Bytes in figures: the walk of the program's own Unhex. -/
import Derived.Test.YtaiinglogpbfjaaDoorFhG
namespace Go.Proofs.YtaiinglogpbfjaaDoor
open Go.RowKit

set_option maxRecDepth 10000 in
set_option maxHeartbeats 3200000 in
theorem fig_Unhex (t : ByteArray) (hsz : t.size ≤ 140737488355328) (w : World) (hF : Figs w) :
    Calls Tryd.prog 9 #[.string t] w fun e w' => Below w.heap.size w w' ∧
      ((∃ (b : By) (p : Option Addr) (cap : Nat), unhexOf t.data.toList = some b ∧ e = .returned (.tuple #[.slice p b.length cap, .int .i64 0]) ∧ RdV w' w'.heap.size p (bcells b)) ∨
        (unhexOf t.data.toList = none ∧ e = .returned (.tuple #[.slice none 0 0, .int .i64 3]))) := by
  obtain ⟨bs, hbs⟩ : ∃ bs, t.data.toList = bs := ⟨_, rfl⟩
  have hlen : bs.length = t.size := by rw [← hbs]; exact str_len t
  have hget : ∀ j (h : j < t.size), ∃ h' : j < bs.length, bs[j]'h' = t[j] := fun j h => ⟨by rw [hlen]; exact h, by subst hbs; exact str_get t j h⟩
  rw [hbs]
  clear hbs
  by_cases hodd : t.size % 2 = 1
  · have HU := Lib.hid (unhexOf_odd (s := bs) (by rw [hlen]; exact hodd))
    have hz : (t.size : Int).tmod 2 = 1 := by rw [Int.tmod_eq_emod_of_nonneg (by omega)]; omega
    clear hget hlen
    go_enter Tryd.func9, Tryd.ntmps9
    go_wp2_with fail
    go_ret2
    exact ⟨Below.refl _ _, .inr ⟨HU.out, rfl⟩⟩
  · obtain ⟨n, hn⟩ : ∃ n, t.size = 2 * n := ⟨t.size / 2, by omega⟩
    have hz : (t.size : Int).tmod 2 = 0 := by rw [Int.tmod_eq_emod_of_nonneg (by omega)]; omega
    have hz2 : (t.size : Int).tdiv 2 = (n : Int) := by rw [Int.tdiv_eq_ediv_of_nonneg (by omega)]; omega
    have hz3 : (t.size : Int) / 2 = (n : Int) := by omega
    have hmk := fun u => run_make_one (P := Tryd.prog) 34 5 (.int .u8 0) 1 rfl Tryd.underlying34 info_by n (by omega) (by omega) u
    have hArr := Lib.hid ((Arr.new w 5 (List.replicate n (.int .u8 0))))
    have hBel := Lib.hid ((Below.refl w.heap.size w).alloc (Nat.le_refl _) (.cells (List.replicate n (.int .u8 0)).toArray 5))
    have HGET := Lib.hid hget
    have HLEN := Lib.hid (hlen.trans hn)
    have HSZ := Lib.hid hn
    have HF := Lib.hid hF
    clear hget hlen hF hn
    go_enter Tryd.func9, Tryd.ntmps9
    go_wp2_with fail
    go_loopg [5, 6, 7, 8] t.size (fun gh _ _ _ _ wr => ∃ (pos : Nat) (vs : List Value), gh + pos = t.size ∧ wr.heap[w.heap.size + 1]? = some (.stringIter t pos) ∧ Arr wr w.heap.size 5 vs ∧ Halves bs n pos vs ∧ Below w.heap.size w wr)
    case atStart =>
      refine ⟨0, _, rfl, ?_, hArr.out.alloc _, halves_start bs n, hBel.out.alloc (by simp) _⟩
      have := World.iter_heap (w.alloc (.cells (List.replicate n (.int .u8 0)).toArray 5)) t 0
      simpa using this
    case round =>
      obtain ⟨pos, vs, hg, hit, harr, hh, hB⟩ := hrel
      have HH := Lib.hid hh
      have HG := Lib.hid hg
      clear hh hg
      by_cases hp : pos < t.size
      · obtain ⟨hl1, hx⟩ := HGET.out pos hp
        obtain ⟨d, hd⟩ : ∃ d, Utf8.decode t pos = d := ⟨_, rfl⟩
        obtain ⟨d1, hd1⟩ : ∃ k, d.1 = k := ⟨_, rfl⟩
        have hnx : ∀ ty, (Instr.next (.pointer (some ⟨w.heap.size + 1, 0, none⟩)) true ty).run Tryd.prog wr = .ok (.tuple #[.bool true, .int .i64 pos, .int .i32 (d1 : Int)]) (wr.iterAt (w.heap.size + 1) t (pos + d.2)) := fun ty => by
          rw [← hd1, ← hd]; exact Lib.run_next_any_at wr (w.heap.size + 1) t pos ty hit hp
        have hit2 := Lib.iterAt_heap wr (w.heap.size + 1) t pos (pos + d.2) hit
        have hB2 := Lib.below_iterAt hB (k := w.heap.size + 1) (by omega) t (pos + d.2)
        have harr2 := harr.iterAt (k := w.heap.size + 1) (by omega) t (pos + d.2)
        clear hit hB harr
        generalize wr.iterAt (w.heap.size + 1) t (pos + d.2) = W1 at *
        have HW := Lib.hid (fig_worth (d1 : Int) W1 (HF.out.on hB2))
        by_cases hfig : ∃ k, k < 16 ∧ ((fig k).toNat : Int) = ((Utf8.decode t pos).1 : Int)
        · obtain ⟨k, hk, hke⟩ := hfig
          obtain ⟨hr1, hr2⟩ := rune_fig hp hk hke
          rw [hd] at hke hr2
          rw [hd1] at hke
          rw [hr2] at hit2
          obtain ⟨m, v, hm, hmn, hvm, hv16, hvl, hst⟩ := halves_step HH.out HLEN.out hl1 hk (by rw [hx, hr1])
          have CW := Lib.hid (show Calls Tryd.prog 17 #[.int .i32 (d1 : Int)] W1 (fun e w' => e = .returned (.tuple #[.int .u8 (k : Int), .bool true]) ∧ W1 = w') from
            HW.out.mono fun e w' ⟨h0, h1⟩ => ⟨by
              rcases h1 with ⟨k', hk', he', h1⟩ | ⟨hno, _⟩
              · rw [fig_inj hk hk' (UInt8.toNat_inj.1 (by omega)), h1]
              · exact absurd hke (hno k hk), h0⟩)
          have hc0 := harr2.cell m hvm
          have hf := harr2.frozen m
          have hset := Lib.hid (harr2.set m (.int .u8 ((16 * v + k : Nat) : Int)))
          have hBs := Lib.hid (hB2.setCell (p := ⟨w.heap.size, m, none⟩) (Nat.le_refl _) (.int .u8 ((16 * v + k : Nat) : Int)))
          have hit3 := Lib.hid (show (W1.setCell ⟨w.heap.size, m, none⟩ (.int .u8 ((16 * v + k : Nat) : Int))).heap[w.heap.size + 1]? = some (.stringIter t (pos + 1)) from by rw [Below.heap_setCell _ _ _ _ (by simp)]; exact hit2)
          have hor := or_halves v hv16 k hk
          obtain ⟨z, hz4⟩ : ∃ z, 16 * v + k = z := ⟨_, rfl⟩
          rw [hz4] at hset hBs hit3 hor hst
          have HST := Lib.hid hst
          have htd : (pos : Int).tdiv 2 = (m : Int) := by rw [Int.tdiv_eq_ediv_of_nonneg (by omega)]; omega
          have hed : (pos : Int) / 2 = (m : Int) := by omega
          have hsh : IntKind.u8.wrap ((v : Int) * 16) = (v : Int) * 16 := IntWalk.u8_in _ (by omega)
          clear hst hit2 hB2 harr2 hd hd1 hx hr1 hr2 hke hvm HW hm hz4
          go_wp2_with (go_at_call 17; with_reducible refine Calls.mono CW.out ?_; rintro e w1 ⟨rfl, rfl⟩)
          have hg2 := HG.out
          go_roundg (t.size - (pos + 1))
          case measure => omega
          case rel => exact ⟨pos + 1, _, by omega, hit3.out, hset.out, HST.out, hBs.out⟩
        · have hno := rune_no hp hfig
          have HU := Lib.hid (halves_bad HH.out HLEN.out hl1 (fun k hk => by rw [hx]; exact hno k hk))
          have CW := Lib.hid (show Calls Tryd.prog 17 #[.int .i32 (d1 : Int)] W1 (fun e w' => e = .returned (.tuple #[.int .u8 0, .bool false]) ∧ W1 = w') from
            HW.out.mono fun e w' ⟨h0, h1⟩ => ⟨by
              rcases h1 with ⟨k', hk', he', h1⟩ | ⟨_, h1⟩
              · exact absurd ⟨k', hk', by rw [hd, hd1]; exact he'⟩ hfig
              · exact h1, h0⟩)
          clear hit2 harr2 hd hd1 hx HW hno hfig
          go_wp2_with (go_at_call 17; with_reducible refine Calls.mono CW.out ?_; rintro e w1 ⟨rfl, rfl⟩)
          go_ret2
          exact ⟨hB2, .inr ⟨HU.out, rfl⟩⟩
      · obtain rfl : pos = t.size := by have := HG.out; omega
        have hnx : ∀ ty, (Instr.next (.pointer (some ⟨w.heap.size + 1, 0, none⟩)) true ty).run Tryd.prog wr = .ok (.tuple #[.bool false]) wr := fun ty => Lib.run_next_end_at wr (w.heap.size + 1) t t.size ty hit hp
        have he : t.size = bs.length := by rw [HLEN.out, HSZ.out]
        have HH2 := HH.out
        rw [he] at HH2
        obtain ⟨b, hb1, hb2, hb3⟩ := halves_end HH2 HLEN.out
        have hrd := harr.rd
        rw [hb3] at hrd
        have HQ := Lib.hid (And.intro hB (And.intro hb1 (And.intro hb2 hrd)))
        clear hB hb1 hb2 hb3 hrd HH2 he harr
        go_wp2_with fail
        go_ret2
        exact ⟨HQ.out.1, .inl ⟨b, some ⟨w.heap.size, 0, none⟩, n, HQ.out.2.1, by rw [HQ.out.2.2.1]; rfl, HQ.out.2.2.2⟩⟩
end Go.Proofs.YtaiinglogpbfjaaDoor
