/- A line's words: the program's read. -/
import Derived.Laws.MakeOwn
import Derived.Test.YtmbafdnickeikaaLxC
namespace Go.Proofs.Ytmbafdnickeikaa
open Go.RowKit Go.Shelf
attribute [local go_sem] Oper.semAt_some

theorem info_str : (Try.prog.info? 9).map (fun i => (i.zero, i.size, i.bytes)) = some (some (.string ⟨#[]⟩), 1, 16) := by kernel_rfl
theorem make_words (k : Nat) (hk : k ≤ 4294967296) (u : World) : (Instr.makeSlice 37 (.int .i64 0) (.int .i64 ((k : Int) + 1))).run Try.prog u = .ok (.slice (some ⟨u.heap.size, 0, none⟩) 0 (k + 1)) (u.alloc (.cells (madeCells #[.string ⟨#[]⟩] (k + 1)) 9)) := by
  obtain ⟨i, hi, hz0, hz1, hz2⟩ := info_parts info_str
  have h := run_make (P := Try.prog) (w := u) 37 9 i _ Try.underlying37 hi hz0 .i64 .i64 0 ((k + 1 : Nat) : Int) (by omega) (by omega) (by rw [hz2]; omega) (by omega)
  simp only [Int.toNat_zero, Int.toNat_natCast, hz1, Nat.mul_one] at h
  exact h

set_option maxHeartbeats 1000000 in
theorem pieces_in (n : Nat) (A : Option Addr) (k c : Nat) (w : World) :
    CallsIn Fence.wide n Try.prog 18 #[.slice A k c] w fun e w' => e = .returned (.func (.func 24) #[] #[.pointer (some ⟨w.heap.size, 0, none⟩)]) ∧ w' = w.alloc (.cells #[.slice A k c] 22) := by
  refine callsIn_of_wp Try.func18 rfl trivial ?_ rfl
  simp only [Try.ntmps18, List.size_toArray, List.length_cons, List.length_nil, Nat.reduceAdd, Nat.reduceSub, Array.replicate_succ, Array.replicate_zero, List.push_toArray, List.append_toArray, List.nil_append, List.cons_append]
  gi_wp2
  go_ret
  exact ⟨rfl, rfl⟩

theorem pieces_stops (n : Nat) (hn : 2 ≤ n) (Bn n₀ : Nat) (w0 : World) (A : Option Addr) (c m : Nat) (L : By) (hm : L.length ≤ m) (hm2 : m ≤ 4611686018427387904) (hL : RdV w0 n₀ A (bcells L)) (hc : L.length ≤ c) (hA : A = none → c = 0)
    (w : World) (hw : Below n₀ w0 w) (hBn : Bn < w.heap.size) (hn₀ : n₀ ≤ w.heap.size) (hcell : w.cell? ⟨Bn, 0, none⟩ = some (.slice A L.length c)) :
    SeqStopsK Fence.wide n Try.prog 24 #[.pointer (some ⟨Bn, 0, none⟩)] (fun x : Pc w0 n₀ m => #[.slice x.1.1 x.1.2.length x.1.2.length]) (Below n₀) (fun ys => ys.map Pc.bs = pcs 32 L) (fun pre => pre.map Pc.bs <+: pcs 32 L) (pcs 32 L).length w := fun l J Jx W hW hJ _ hY h0 =>
  pieces1_in cut_none cut_some n hn l Bn n₀ w0 A c m L hm hm2 hL hc hA J Jx W (hw.trans (hW.mono hn₀)) (Nat.le_trans hn₀ hW.size) hJ hY ((hW.cell (p := ⟨Bn, 0, none⟩) hBn).trans hcell) h0

theorem conv_rd {w : World} {B : Nat} {p : Option Addr} {l : By} (h : RdV w B p (bcells l)) (c : Nat) : (convert 22 9 (.slice p l.length c)).run Try.prog w = .ok (.string (str l)) w := by
  by_cases hl : 0 < l.length
  · obtain ⟨b, o, rfl, _, hc⟩ := h (by rw [bcells_length]; exact hl)
    refine run_convert_bytes_back (P := Try.prog) w 22 9 5 ⟨b, o, none⟩ c l Try.underlying22 Try.underlying5 Try.underlying9 fun j hj => ?_
    rw [addr_add, hc j (by rw [bcells_length]; exact hj)]
    simp [bcells]
  · obtain rfl : l = [] := List.eq_nil_of_length_eq_zero (by omega)
    exact run_convert_bytes_zero w 22 5 Try.underlying22 Try.underlying5 p c 9 Try.underlying9

set_option maxRecDepth 100000 in
set_option maxHeartbeats 4000000 in
theorem lex_read (A : Option Addr) (c : Nat) (L : By) (w : World) (hL : RdV w w.heap.size A (bcells L)) (hc : L.length ≤ c) (hA : A = none → c = 0) (hm : L.length ≤ 1073741824) :
    Calls Try.prog 11 #[.slice A L.length c] w fun e w' => Below w.heap.size w w' ∧
      ((wordsOk L = true ∧ ∃ v, e = .returned (.tuple #[v, .int .i64 0]) ∧ w'.ownsRow w.heap.size 9 1 v (pcs 32 L).length (scells (pcs 32 L))) ∨
       (wordsOk L = false ∧ e = .returned (.tuple #[.slice none 0 0, .int .i64 3]))) := by
  refine (callsIn_wide (n := 5)).1 ?_
  refine callsIn_of_wp_marks Try.func11 rfl trivial ?_ rfl
  simp only [Try.ntmps11, List.size_toArray, List.length_cons, List.length_nil, Nat.reduceAdd, Nat.reduceSub, Array.replicate_succ, Array.replicate_zero, List.push_toArray, List.append_toArray, List.nil_append, List.cons_append]
  obtain ⟨i0, hi, hz0, hz1, hz2⟩ := info_parts info_str
  have hcnt : L.count 32 ≤ L.length := List.count_le_length
  have hcp := count_pcs 32 L
  obtain ⟨k, hk⟩ : ∃ k, L.count 32 = k := ⟨_, rfl⟩
  rw [hk] at hcnt hcp
  have hmk := make_words k (by omega)
  have hcell : ∀ (u : World) (s : Nat), u.heap.size = s → (u.alloc (.cells #[.int .u8 32] 5)).cell? ⟨s, 0, none⟩ = some (.int .u8 ((32 : UInt8).toNat : Int)) := fun u s e => by subst e; exact (Boxed.new u 5 (.int .u8 32)).cell
  gi_wp2_with first
    | (refine ⟨trivial, ?_⟩; gi_at_call 17; with_reducible refine (callsIn_wide.2 (count_call _ A c L _ 1 32 _ (hL.below ((((Below.refl _ w).alloc (Nat.le_refl _) _).alloc (by simp) _).alloc (by simp; omega) _)) hc hA (hcell _ _ (by simp)))).mono ?_; rw [hk]; rintro e w' ⟨rfl, rfl⟩)
    | (refine ⟨trivial, ?_⟩; gi_at_call 18; with_reducible refine (pieces_in _ _ _ _ _).mono ?_; rintro e w' ⟨rfl, rfl⟩)
  obtain ⟨W0, hW0⟩ : ∃ W0, W0 = ((((((w.alloc (Obj.cells #[Value.slice none 0 0] 37)).alloc (Obj.cells #[Value.int IntKind.i64 0] 24)).alloc
                  (Obj.cells #[Value.int IntKind.u8 32] 5)).alloc
              (Obj.cells (madeCells #[Value.string { data := #[] }] (k + 1)) 9)).alloc
          (Obj.cells #[Value.slice (some { block := w.heap.size + 1 + 1 + 1, off := 0 }) 0 (k + 1)] 37)).alloc
      (Obj.cells #[Value.slice A (List.length L) c] 22)) := ⟨_, rfl⟩
  rw [← hW0]
  have hs0 : W0.heap.size = w.heap.size + 6 := by rw [hW0]; simp
  have bR : Boxed W0 w.heap.size 37 (.slice none 0 0) := by
    rw [hW0]; exact (((((Boxed.new w _ _).alloc _).alloc _).alloc _).alloc _).alloc _
  have bE : Boxed W0 (w.heap.size + 1) 24 (.int .i64 0) := by
    rw [hW0]
    have h := Boxed.new (w.alloc (Obj.cells #[Value.slice none 0 0] 37)) 24 (.int .i64 0)
    rw [World.size_alloc] at h
    exact (((h.alloc _).alloc _).alloc _).alloc _
  obtain ⟨W3, hW3⟩ : ∃ W3, W3 = (((w.alloc (Obj.cells #[Value.slice none 0 0] 37)).alloc (Obj.cells #[Value.int IntKind.i64 0] 24)).alloc (Obj.cells #[Value.int IntKind.u8 32] 5)) := ⟨_, rfl⟩
  rw [← hW3] at hW0
  have hs3 : W3.heap.size = w.heap.size + 1 + 1 + 1 := by rw [hW3]; simp
  have hB3 : Below w.heap.size w W3 := by rw [hW3]; exact (((Below.refl _ w).alloc (Nat.le_refl _) _).alloc (by simp) _).alloc (by simp; omega) _
  have hB0 : Below w.heap.size w W0 := by rw [hW0]; exact ((hB3.alloc (by omega) _).alloc (by simp; omega) _).alloc (by simp; omega) _
  have hrow0 : W0.ownsRow w.heap.size 9 1 (.slice (some ⟨w.heap.size + 1 + 1 + 1, 0, none⟩) 0 (k + 1)) 0 [] := by
    rw [hW0, ← hs3]
    exact ((World.ownsRow_made W3 _ (k + 1) (by omega) (by simp [maxLen]; omega) (by rw [size_madeCells]; omega)).alloc _).alloc _
  have bV : Boxed W0 (w.heap.size + 1 + 1 + 1 + 1) 37 (.slice (some ⟨w.heap.size + 1 + 1 + 1, 0, none⟩) 0 (k + 1)) := by
    rw [hW0]
    have h := Boxed.new (W3.alloc (Obj.cells (madeCells #[Value.string { data := #[] }] (k + 1)) 9)) 37 (Value.slice (some ⟨w.heap.size + 1 + 1 + 1, 0, none⟩) 0 (k + 1))
    rw [World.size_alloc, hs3] at h
    exact h.alloc _
  have bN : W0.cell? ⟨w.heap.size + 5, 0, none⟩ = some (.slice A L.length c) := by
    rw [hW0]
    have h := Boxed.new ((W3.alloc (Obj.cells (madeCells #[Value.string { data := #[] }] (k + 1)) 9)).alloc (Obj.cells #[Value.slice (some ⟨w.heap.size + 1 + 1 + 1, 0, none⟩) 0 (k + 1)] 37)) 22 (Value.slice A L.length c)
    rw [World.size_alloc, World.size_alloc, hs3] at h
    exact h.cell
  clear hW0 hW3 hs3 hB3 hmk hcell
  refine wpIn_rangeFunc_ownG rfl (by omega) (gf := 24) (lb := #[.pointer (some ⟨w.heap.size + 5, 0, none⟩)]) rfl trivial (enters_of Try.func24 (by kernel_rfl) rfl)
    (pieces_stops _ (by omega) (w.heap.size + 5) w.heap.size w A c L.length L (Nat.le_refl _) (by omega) hL hc hA W0 hB0 (by omega) (by omega) bN) belowK_t (belowK_b (by omega)) (Below.refl _ _) (fun _ => rfl)
    (fun pre W => ((∃ v, Boxed W (w.heap.size + 1 + 1 + 1 + 1) 37 v ∧ W.ownsRow w.heap.size 9 1 v pre.length (scells (pre.map Pc.bs)) ∧ True) ∧ Boxed W w.heap.size 37 (.slice none 0 0) ∧ Boxed W (w.heap.size + 1) 24 (.int .i64 0)) ∧ (∀ x ∈ pre, isW (Pc.bs x) = true) ∧ Below w.heap.size w W)
    (fun d pre W => (Boxed W w.heap.size 37 (.slice none 0 0) ∧ Boxed W (w.heap.size + 1) 24 (.int .i64 3)) ∧ (d = .ret ∧ ∃ x ∈ pre, isW (Pc.bs x) = false) ∧ Below w.heap.size w W)
    (OwnFrom.and (OwnFrom.and (Own.from (holdsRow_own w.heap.size (w.heap.size + 1 + 1 + 1 + 1) 37 9 1 (fun (pre : List (Pc w w.heap.size L.length)) => pre.length) (fun pre => scells (pre.map Pc.bs)) (fun _ _ => True)) _) (OwnFrom.and (Own.from (boxed_own _ _ _) _) (Own.from (boxed_own _ _ _) _))) (OwnFrom.and (ownFrom_pure _ _) (ownFrom_below (Nat.le_refl _) (by omega))))
    (fun d => OwnFrom.and (OwnFrom.and (Own.from (boxed_own _ _ _) _) (Own.from (boxed_own _ _ _) _)) (OwnFrom.and (ownFrom_pure _ _) (ownFrom_below (Nat.le_refl _) (by omega))))
    ⟨⟨⟨_, bV, hrow0, trivial⟩, bR, bE⟩, by simp, hB0⟩
    (fun x => { tmps := #[.slice A L.length c, undef, .pointer (some ⟨w.heap.size, 0, none⟩), .pointer (some ⟨w.heap.size + 1, 0, none⟩), .pointer (some ⟨w.heap.size + 1 + 1 + 1 + 1, 0, none⟩), .slice x.1.1 x.1.2.length x.1.2.length, undef,
      .slice A L.length c, .slice (some ⟨w.heap.size + 1 + 1, 0, none⟩) 1 1, .int .i64 k, .int .i64 (k + 1), .slice (some ⟨w.heap.size + 1 + 1 + 1, 0, none⟩) 0 (k + 1), .slice A L.length c, .func (.func 24) #[] #[.pointer (some ⟨w.heap.size + 5, 0, none⟩)],
      .slice x.1.1 x.1.2.length x.1.2.length, undef, undef, undef, undef, undef, undef, undef, undef, undef, undef], defers := [] }) ?assign ?body ?done ?stop
  case assign =>
    intro l x W K hK
    gi_wp2
    exact hK
  case body =>
    rintro l pre ⟨⟨px, bx⟩, hx, hxl⟩ W ⟨⟨⟨v, hv, hrow, _⟩, hbr, hbe⟩, hall, hB⟩ hlt
    dsimp only
    have hcv := conv_rd (hx.below hB) bx.length
    have hxl' : bx.length ≤ L.length := hxl
    have hsz : (str bx).size ≤ 4611686018427387904 := by rw [str_size]; omega
    have hpl : pre.length ≤ k := by omega
    have hc := hv.cell
    have hcr := hbr.cell
    have hce := hbe.cell
    have hfr := hbr.frozen
    have hfe := hbe.frozen
    cases hw : isW bx with
    | true =>
      have hcall : ∀ W, Calls Try.prog 13 #[.string (str bx)] W fun e w' => e = .returned (.bool true) ∧ W = w' := fun W => (lex_Word (str bx) hsz W).mono fun e w' ⟨he, hww⟩ => ⟨by rw [he, str_toList, hw], hww.symm⟩
      have HA := Lib.hid hall
      have HC := Lib.hid hcall
      have HW := Lib.hid hw
      clear hall hcall hw
      gi_wp2_with first
        | (refine ⟨trivial, ?_⟩; gi_at_call 13; with_reducible refine (CallsIn.inRound l (callsIn_wide.2 (HC.out _))).mono ?_; rintro e w' ⟨rfl, rfl⟩)
        | (gi_at_builtin; refine wpListIn_append_own _ rfl _ _ 37 rfl w.heap.size 9 i0 (.string ⟨#[]⟩) 1 16 Try.underlying37 hi hz0 hz1 hz2 rfl (by decide) _ _ _ rfl (hrow.alloc _) ⟨W.heap.size, 0, none⟩ 1 1 [.string (str bx)] rfl rfl (cell_one_new _ _ _) (by simp [Value.oneCell']) (by simp [maxLen]; omega) (by omega) (by have := hB.size; simp; omega) ?_; intro v' w1 hown' hgrow _; obtain ⟨g', cap', rfl⟩ := ownsRow_succ hown'; obtain ⟨hv1, hv2, hr2, hk2, hb2⟩ := hv.appended (by decide) hrow hB.size (by omega) hown' hgrow; have hbr1 := (hbr.alloc (.cells #[.string (str bx)] 9)).kept hgrow (hbr.not_row (by decide) hrow); have hbe1 := (hbe.alloc (.cells #[.string (str bx)] 9)).kept hgrow (hbe.not_row (by decide) hrow); have hc1 := hv1.cell; have hf1 := hv1.frozen)
      refine ⟨hk2.from _, hb2, ⟨⟨_, hv2, ?_, trivial⟩, hbr1.other (by omega) _, hbe1.other (by omega) _⟩, ?_, hB.trans hb2⟩
      · rw [List.map_append, List.length_append]
        simpa [scells, Pc.bs] using hr2
      · intro x hx
        rcases List.mem_append.1 hx with h | h
        · exact HA.out x h
        · simp at h; subst h; exact HW.out
    | false =>
      have hcall : ∀ W, Calls Try.prog 13 #[.string (str bx)] W fun e w' => e = .returned (.bool false) ∧ W = w' := fun W => (lex_Word (str bx) hsz W).mono fun e w' ⟨he, hww⟩ => ⟨by rw [he, str_toList, hw], hww.symm⟩
      have HA := Lib.hid hall
      have HC := Lib.hid hcall
      have HW := Lib.hid hw
      clear hall hcall hw
      gi_wp2_with (refine ⟨trivial, ?_⟩; gi_at_call 13; with_reducible refine (CallsIn.inRound l (callsIn_wide.2 (HC.out _))).mono ?_; rintro e w' ⟨rfl, rfl⟩)
      refine ⟨((KeepsOthers.setCell _ _ _).trans (KeepsOthers.setCell _ _ _)).from _, ⟨?_, ?_⟩, ⟨rfl, ⟨(px, bx), hx, hxl⟩, by simp, HW.out⟩, (hB.setCell (p := ⟨w.heap.size, 0, none⟩) (Nat.le_refl _) _).setCell (p := ⟨w.heap.size + 1, 0, none⟩) (by simp) _⟩
      · exact (hbr.set _).other (by omega) _
      · exact (hbe.other (by omega) _).set _
  case done =>
    rintro D ys W hD hys ⟨⟨⟨v, hv, hrow, _⟩, hbr, hbe⟩, hall, hB⟩ hK
    obtain ⟨q, cq, rfl, -, -, -, -⟩ := RdV.ofOwn hrow
    have hc := hv.cell
    have hfr := hbr.frozen
    have hfe := hbe.frozen
    have hcr := hbr.cell
    have hce := hbe.cell
    have HA := Lib.hid hall
    have HY := Lib.hid hys
    clear hall hys
    gi_wp2
    have hK' := ((KeepsOthers.setCell W ⟨w.heap.size, 0, none⟩ (.slice q ys.length cq)).trans (KeepsOthers.setCell _ ⟨w.heap.size + 1, 0, none⟩ (.int .i64 0))).same D _ hK rfl
    refine ⟨by simp, .inl ⟨_, _, rfl, run_takeDeferred hK', ?_⟩⟩
    have br := (hbr.set (.slice q ys.length cq)).other (B' := w.heap.size + 1) (by omega) (.int .i64 0)
    have be := (hbe.other (B' := w.heap.size) (by omega) (.slice q ys.length cq)).set (.int .i64 0)
    have hc5 := cell_kept br.cell (grownBy_putObj' _ D (.deferred none)) (fun r e => by cases e; exact ⟨_, hK', rfl⟩)
    have hc6 := cell_kept be.cell (grownBy_putObj' _ D (.deferred none)) (fun r e => by cases e; exact ⟨_, hK', rfl⟩)
    have hl : ys.length = (pcs 32 L).length := by rw [← HY.out, List.length_map]
    refine ⟨.tuple #[.slice q ys.length cq, .int .i64 0], ?_, ?_, .inl ⟨?_, _, rfl, ?_⟩⟩
    · simp [results, Try.f11, go_sem, hc5, hc6]
    · exact ((hB.setCell (p := ⟨w.heap.size, 0, none⟩) (Nat.le_refl _) _).setCell (p := ⟨w.heap.size + 1, 0, none⟩) (by simp) _).trans (belowK_b (w := w) (Nat.le_refl _) _ D _ _ (by omega) hK' rfl rfl)
    · unfold wordsOk
      rw [← HY.out, List.all_eq_true]
      intro p hp
      obtain ⟨x, hx, rfl⟩ := List.mem_map.1 hp
      exact HA.out x hx
    · rw [← HY.out, List.length_map]
      refine ownsRow_putObj ((hrow.kept (grownBy_setCell' W w.heap.size _) (.inr (hbr.not_row (by decide) hrow).symm)).kept (grownBy_setCell' _ (w.heap.size + 1) _) (.inr (hbe.not_row (by decide) hrow).symm)) _ hK' rfl
  case stop =>
    rintro D d pre W hD hpre ⟨⟨hbr, hbe⟩, ⟨rfl, x, hx, hbad⟩, hB⟩ hK
    gi_wp2
    refine ⟨by simp, .inl ⟨_, _, rfl, run_takeDeferred hK, ?_⟩⟩
    have hc5 := cell_kept hbr.cell (grownBy_putObj' _ D (.deferred none)) (fun r e => by cases e; exact ⟨_, hK, rfl⟩)
    have hc6 := cell_kept hbe.cell (grownBy_putObj' _ D (.deferred none)) (fun r e => by cases e; exact ⟨_, hK, rfl⟩)
    refine ⟨.tuple #[.slice none 0 0, .int .i64 3], ?_, ?_, .inr ⟨?_, rfl⟩⟩
    · simp [results, Try.f11, go_sem, hc5, hc6]
    · exact hB.trans (belowK_b (w := w) (Nat.le_refl _) _ D _ _ (by omega) hK rfl rfl)
    · unfold wordsOk
      rw [List.all_eq_false]
      exact ⟨Pc.bs x, hpre.subset (List.mem_map.2 ⟨x, hx, rfl⟩), by simp [hbad]⟩
end Go.Proofs.Ytmbafdnickeikaa
