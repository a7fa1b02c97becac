/- The law WholeTexts: a number's text, and the number of a text, are the document's own. -/
import Derived.Test.YtkmgmppmhgoadaaDoorWrG
import Derived.Deep.RegionWith
namespace Go.Proofs.YtkmgmppmhgoadaaDoor
open Go.RowKit Num

theorem wparse_back {N M : Int} {er : Nat} (h : IsWParse (wtext N) M er) (hs : (wtext N).length ≤ 2000) : M = N ∧ er = 0 := by
  have key : ∀ {K m e0 : Nat}, IsParse (Lib.decDigits K) m e0 → (Lib.decDigits K).length ≤ 2000 → m = K ∧ e0 = 0 := fun {K m e0} hp hl => by
    rcases hp with ⟨h1, _⟩ | ⟨_, h1, _⟩ | ⟨_, _, h1, h2⟩
    · omega
    · exact absurd (dec_isDec K) h1
    · exact ⟨by rw [h1, decVal_dec], h2⟩
  have head : ∀ K : Nat, (Lib.decDigits K).head? ≠ some 45 := fun K hh => by
    have hall := dec_all K
    cases hd : Lib.decDigits K with
    | nil => rw [hd] at hh; cases hh
    | cons c r =>
      rw [hd] at hh hall
      have hc : c = 45 := by simpa using hh
      have := hall c (by simp)
      rw [hc] at this
      exact absurd this.1 (by decide)
  obtain ⟨neg, ds, m, e0, h1, h2, h3⟩ := h
  by_cases hN : N < 0
  · have e : wtext N = 45 :: Lib.decDigits N.natAbs := by unfold wtext; rw [if_pos hN]
    rw [e] at h1 hs
    rcases h1 with ⟨rfl, h1⟩ | ⟨rfl, _, h1⟩
    · injection h1 with _ h1
      subst h1
      obtain ⟨rfl, rfl⟩ := key h2 (by simp at hs; omega)
      rcases h3 with ⟨h0, _⟩ | ⟨_, ⟨_, h0⟩, _⟩ | ⟨_, _, h4, h5⟩
      · exact absurd rfl h0
      · omega
      · exact ⟨by rw [h5, if_pos rfl]; omega, h4⟩
    · simp at h1
  · have e : wtext N = Lib.decDigits N.natAbs := by unfold wtext; rw [if_neg hN]
    rw [e] at h1 hs
    rcases h1 with ⟨rfl, h1⟩ | ⟨rfl, h1, _⟩
    · exact absurd (by rw [h1]; rfl) (head N.natAbs)
    · subst h1
      obtain ⟨rfl, rfl⟩ := key h2 hs
      rcases h3 with ⟨h0, _⟩ | ⟨_, ⟨h0, _⟩, _⟩ | ⟨_, _, h4, h5⟩
      · exact absurd rfl h0
      · cases h0
      · exact ⟨by rw [h5, if_neg (by simp)]; omega, h4⟩

theorem wparse_len {bs : List UInt8} {M : Int} {er : Nat} {xs : List Nat} (h : IsWParse bs M er) (hn : Norm 4294967296 xs) (hv : val 4294967296 xs = M.natAbs) : xs.length ≤ 2000 := by
  obtain ⟨neg, ds, m, e0, h1, h2, h3⟩ := h
  obtain ⟨k, hk⟩ : ∃ k, 2000 = k := ⟨_, rfl⟩
  have hm : m < 4294967296 ^ k := by
    rcases h2 with ⟨_, h0, _⟩ | ⟨_, _, h0, _⟩ | ⟨hb, hd, h0, _⟩
    · rw [h0]; exact Nat.pow_pos (by omega)
    · rw [h0]; exact Nat.pow_pos (by omega)
    · rw [h0]
      rw [hk] at hb
      exact Nat.lt_of_lt_of_le (decVal_lt hd.2.2) (Nat.le_trans (Nat.pow_le_pow_right (by omega) hb) (Nat.pow_le_pow_left (by omega) k))
  rw [hk]
  refine hn.2.length_le (b := 4294967296) (by omega) ?_
  rw [hv]
  rcases h3 with ⟨_, _, h4⟩ | ⟨_, _, _, h4⟩ | ⟨_, _, _, h4⟩
  · rw [h4]; exact Nat.pow_pos (by omega)
  · rw [h4]; exact Nat.pow_pos (by omega)
  · rw [h4]
    have : (if neg = true then -(m : Int) else (m : Int)).natAbs = m := by split <;> simp
    rw [this]; exact hm
theorem alloc_at (w : World) (x y : Value) (t : TypeId) : ∃ U, w.alloc (.cells #[x, y] t) = U ∧ U.heap[w.heap.size]? = some (.cells #[x, y] t (0, 0)) ∧ w.heap.size < U.heap.size ∧ Below w.heap.size w U :=
  ⟨_, rfl, heap_alloc_new w _, by simp, below_new _ _⟩
theorem eight_at {w : World} {g0 g5 g7 g10 : Nat} {x0 y0 x5 y5 x7 y7 x10 y10 : Value} {t : TypeId} (h0 : w.heap[g0]? = some (.cells #[x0, y0] t (0, 0))) (h5 : w.heap[g5]? = some (.cells #[x5, y5] t (0, 0))) (h7 : w.heap[g7]? = some (.cells #[x7, y7] t (0, 0))) (h10 : w.heap[g10]? = some (.cells #[x10, y10] t (0, 0))) :
    w.cell? ⟨g0, 0, none⟩ = some x0 ∧ w.cell? ⟨g0, 1, none⟩ = some y0 ∧ w.cell? ⟨g5, 0, none⟩ = some x5 ∧ w.cell? ⟨g5, 1, none⟩ = some y5 ∧ w.cell? ⟨g7, 0, none⟩ = some x7 ∧ w.cell? ⟨g7, 1, none⟩ = some y7 ∧ w.cell? ⟨g10, 0, none⟩ = some x10 ∧ w.cell? ⟨g10, 1, none⟩ = some y10 :=
  ⟨(cells_of h0).1, (cells_of h0).2.1, (cells_of h5).1, (cells_of h5).2.1, (cells_of h7).1, (cells_of h7).2.1, (cells_of h10).1, (cells_of h10).2.1⟩
theorem keep8 {V w1 : World} {B g0 g5 g7 g10 : Nat} {x0 y0 x5 y5 x7 y7 x10 y10 : Value} {t : TypeId} (h0 : V.heap[g0]? = some (.cells #[x0, y0] t (0, 0))) (h5 : V.heap[g5]? = some (.cells #[x5, y5] t (0, 0))) (h7 : V.heap[g7]? = some (.cells #[x7, y7] t (0, 0))) (h10 : V.heap[g10]? = some (.cells #[x10, y10] t (0, 0)))
    (s0 : g0 < B) (s5 : g5 < B) (s7 : g7 < B) (s10 : g10 < B) (hb : Below B V w1) :
    w1.cell? ⟨g0, 0, none⟩ = some x0 ∧ w1.cell? ⟨g0, 1, none⟩ = some y0 ∧ w1.cell? ⟨g5, 0, none⟩ = some x5 ∧ w1.cell? ⟨g5, 1, none⟩ = some y5 ∧ w1.cell? ⟨g7, 0, none⟩ = some x7 ∧ w1.cell? ⟨g7, 1, none⟩ = some y7 ∧ w1.cell? ⟨g10, 0, none⟩ = some x10 ∧ w1.cell? ⟨g10, 1, none⟩ = some y10 :=
  eight_at ((hb.block _ s0).trans h0) ((hb.block _ s5).trans h5) ((hb.block _ s7).trans h7) ((hb.block _ s10).trans h10)

set_option maxRecDepth 100000 in
set_option maxHeartbeats 12800000 in
theorem walk_WholeTexts (n1 : Bool) (a : List Nat) (A : Option Addr) (ca : Nat) (t : ByteArray) (w : World) (h : Rd w (fun g => g < w.heap.size) .u32 A a) (hl : a.length ≤ 1048576) (hc : a.length ≤ ca) (ha : Dg 4294967296 a) (hsz : t.size ≤ 1048576) (htab : Tab w) :
    Calls Tryd.prog 6 #[.agg #[.bool n1, .slice A a.length ca], .string t] w fun e w' => e = .returned (.bool true) ∧ Below w.heap.size w w' := by
  obtain ⟨m, hm1, hm2⟩ : ∃ m, 2097152 ≤ m ∧ m ≤ 2097152 := ⟨2097152, Nat.le_refl _, Nat.le_refl _⟩
  have c1 := fun (V : World) => whole_Parse t (by omega) V
  have c2 := fun (V : World) => ref2_Parse t hsz V
  have c3 := fun (V : World) (hV : Below w.heap.size w V) => whole_Text n1 a A ca V (h.on hV) (by omega) hc ha (htab.on hV)
  have c4 := fun (V : World) (hV : Below w.heap.size w V) => ref2_Text n1 a A ca V (h.on hV) (by omega) ha
  have hlm : (wv n1 a).natAbs < 4294967296 ^ m := lim_one ha (by omega) (by rw [wv_abs]; exact Nat.le_refl _)
  have c6 := fun (V : World) (hV : Below w.heap.size w V) => (ref2_Make n1 a A ca _ V (h.on hV) (by omega) ha rfl).mono (fun e w' hg => lim (m := m) hlm hg)
  have c7 := fun (V : World) (hV : Below w.heap.size w V) => law2_lives V (htab.on hV)
  have hlen := dec_len_words (val_lt ha)
  have hwl : (wtext (wv n1 a)).length ≤ 10485762 := by
    unfold wtext
    split <;> simp [wv_abs] <;> omega
  obtain ⟨N, hN⟩ : ∃ N, wv n1 a = N := ⟨_, rfl⟩
  rw [hN] at c3 c4 c6 hwl hlm
  obtain ⟨tx, htx⟩ : ∃ tx : ByteArray, (⟨(wtext N).toArray⟩ : ByteArray) = tx := ⟨_, rfl⟩
  rw [htx] at c3 c4
  have htd : tx.data.toList = wtext N := by rw [← htx]
  have hts : tx.size ≤ 10485762 := by rw [← data_size, htd]; exact hwl
  have c5 := fun (V : World) => whole_Parse tx (by omega) V
  rw [htd] at c5
  have HTL := Lib.hid (show (wtext N).length = tx.size by rw [← data_size, htd])
  have C1 := Lib.hid c1
  have C2 := Lib.hid c2
  have C3 := Lib.hid c3
  have C4 := Lib.hid c4
  have C5 := Lib.hid c5
  have C6 := Lib.hid c6
  have C7 := Lib.hid c7
  clear c1 c2 c3 c4 c5 c6 c7 hN htx htd hwl hlen hlm
  obtain ⟨W, hW, H0, s0, B0⟩ := alloc_at w (.bool n1) (.slice A a.length ca) 24
  go_enter Tryd.func6, Tryd.ntmps6
  go_wp2_with fail
  try rw [hW]
  clear hW
  refine (C1.out W).mono ?_
  rintro e v1 ⟨P1, x1, d1, er, M, rfl, hc1, hn1, hv1, hp1, r1, b1⟩
  obtain ⟨dM, hdM⟩ : ∃ d, decide (M < 0) = d := ⟨_, rfl⟩
  rw [hdM]
  have HDM := Lib.hid hdM
  have HN1 := Lib.hid hn1
  have HV1 := Lib.hid hv1
  have HP1 := Lib.hid hp1
  have B1 := B0.trans (b1.mono B0.size)
  have H0 := (b1.block _ s0).trans H0
  obtain ⟨k1, k2, -, -⟩ := cells_of H0
  have s0 : w.heap.size < v1.heap.size := Nat.lt_of_lt_of_le s0 b1.size
  clear hdM hn1 hv1 hp1 b1
  obtain ⟨U1, hU1, H5, s5, b5⟩ := alloc_at v1 (.bool dM) (.slice P1 x1.length d1) 24
  have B1 := B1.trans (b5.mono B1.size)
  have H0 := (b5.block _ s0).trans H0
  have r1 := r1.on b5
  clear k1 k2
  obtain ⟨k1, k2, -, -⟩ := cells_of H0
  have s0 : w.heap.size < U1.heap.size := Nat.lt_of_lt_of_le s0 b5.size
  clear b5
  go_wp2_with fail
  try rw [hU1]
  clear hU1
  refine (C2.out U1).mono ?_
  rintro e v2 ⟨P2, x2, d2, er2, M2, rfl, hc2, hn2, hv2, hp2, r2, b2⟩
  obtain ⟨rfl, rfl⟩ := HP1.out.unique hp2
  obtain rfl : x1 = x2 := Norm.ext (b := 4294967296) (by omega) HN1.out hn2 (HV1.out.trans hv2.symm)
  rw [HDM.out]
  have r1 := r1.on b2
  have B2 := B1.trans (b2.mono B1.size)
  have H0 := (b2.block _ s0).trans H0
  have H5 := (b2.block _ s5).trans H5
  have s0 : w.heap.size < v2.heap.size := Nat.lt_of_lt_of_le s0 b2.size
  have s5 : v1.heap.size < v2.heap.size := Nat.lt_of_lt_of_le s5 b2.size
  clear k1 k2 hn2 hv2 hp2 b2
  obtain ⟨U2, hU2, H7, s7, b7⟩ := alloc_at v2 (.bool dM) (.slice P2 x1.length d2) 24
  have B2 := B2.trans (b7.mono B2.size)
  have H0 := (b7.block _ s0).trans H0
  have H5 := (b7.block _ s5).trans H5
  have r1 := r1.on b7
  have r2 := r2.on b7
  have s0 : w.heap.size < U2.heap.size := Nat.lt_of_lt_of_le s0 b7.size
  have s5 : v1.heap.size < U2.heap.size := Nat.lt_of_lt_of_le s5 b7.size
  obtain ⟨k1, k2, -, -⟩ := cells_of H0
  clear b7
  go_wp2_with fail
  try rw [hU2]
  clear hU2
  refine (C3.out U2 B2).mono ?_
  rintro e v3 ⟨rfl, b3⟩
  have B3 := B2.trans (b3.mono B2.size)
  have H0 := (b3.block _ s0).trans H0
  have H5 := (b3.block _ s5).trans H5
  have H7 := (b3.block _ s7).trans H7
  have r1 := r1.on b3
  have r2 := r2.on b3
  have s0 : w.heap.size < v3.heap.size := Nat.lt_of_lt_of_le s0 b3.size
  have s5 : v1.heap.size < v3.heap.size := Nat.lt_of_lt_of_le s5 b3.size
  have s7 : v2.heap.size < v3.heap.size := Nat.lt_of_lt_of_le s7 b3.size
  clear k1 k2 b3
  go_wp2_with fail
  refine (C5.out v3).mono ?_
  rintro e v4 ⟨P4, x4, d4, er4, M4, rfl, hc4, hn4, hv4, hp4, r4, b4⟩
  obtain ⟨d4', hd4⟩ : ∃ d, decide (M4 < 0) = d := ⟨_, rfl⟩
  rw [hd4]
  have HD4 := Lib.hid hd4
  have HN4 := Lib.hid hn4
  have HV4 := Lib.hid hv4
  have HP4 := Lib.hid hp4
  have B4 := B3.trans (b4.mono B3.size)
  have H0 := (b4.block _ s0).trans H0
  have H5 := (b4.block _ s5).trans H5
  have H7 := (b4.block _ s7).trans H7
  have r1 := r1.on b4
  have r2 := r2.on b4
  have s0 : w.heap.size < v4.heap.size := Nat.lt_of_lt_of_le s0 b4.size
  have s5 : v1.heap.size < v4.heap.size := Nat.lt_of_lt_of_le s5 b4.size
  have s7 : v2.heap.size < v4.heap.size := Nat.lt_of_lt_of_le s7 b4.size
  clear hd4 hn4 hv4 hp4 b4
  obtain ⟨V, hV, H10, s10, b10⟩ := alloc_at v4 (.bool d4') (.slice P4 x4.length d4) 24
  have BV := B4.trans (b10.mono B4.size)
  have H0 := (b10.block _ s0).trans H0
  have H5 := (b10.block _ s5).trans H5
  have H7 := (b10.block _ s7).trans H7
  have r1 := r1.on b10
  have r2 := r2.on b10
  have r4 := r4.on b10
  have s0 : w.heap.size < V.heap.size := Nat.lt_of_lt_of_le s0 b10.size
  have s5 : v1.heap.size < V.heap.size := Nat.lt_of_lt_of_le s5 b10.size
  have s7 : v2.heap.size < V.heap.size := Nat.lt_of_lt_of_le s7 b10.size
  obtain ⟨k1, k2, k3, k4, k5, k6, k7, k8⟩ := eight_at H0 H5 H7 H10
  have HD := Lib.hid (fun (U : World) (hU : Below V.heap.size V U) => (BV.trans (hU.mono BV.size) : Below w.heap.size w U))
  have K0 : Below V.heap.size V V.drew := below_drewN (Below.refl _ _) 1
  have lx1 : x1.length ≤ 4611686018427387904 := Nat.le_trans (wparse_len HP1.out HN1.out HV1.out) (by omega)
  clear b10
  go_wp2_with fail
  try rw [hV]
  clear hV
  by_cases hbig : 2000 < tx.size
  · have e1 : decide (2000 < tx.size) = true := decide_eq_true hbig
    have e2 : decide ((2000 : Int) < (tx.size : Int)) = true := decide_eq_true (by omega)
    clear hbig
    refine wp_region_held_drew (S := fun w' => w'.cell? ⟨w.heap.size, 0, none⟩ = some (.bool n1) ∧ w'.cell? ⟨w.heap.size, 1, none⟩ = some (.slice A a.length ca) ∧ w'.cell? ⟨v1.heap.size, 0, none⟩ = some (.bool dM) ∧ w'.cell? ⟨v1.heap.size, 1, none⟩ = some (.slice P1 x1.length d1) ∧ w'.cell? ⟨v2.heap.size, 0, none⟩ = some (.bool dM) ∧ w'.cell? ⟨v2.heap.size, 1, none⟩ = some (.slice P2 x1.length d2) ∧ w'.cell? ⟨v4.heap.size, 0, none⟩ = some (.bool d4') ∧ w'.cell? ⟨v4.heap.size, 1, none⟩ = some (.slice P4 x4.length d4)) (by kernel_rfl) (keep8 H0 H5 H7 H10 s0 s5 s7 s10 K0) (fun hH0 => ?_)
    refine wpAnyH_take (i := 0) (oi := _) (v := ?_) rfl (by kernel_rfl) (by kernel_rfl) (by kernel_rfl) (fun _ _ _ h => h) (Or.inl ⟨by rfl, ?_⟩) (by assumption) ?_
    rotate_left
    · intro w' hSw
      obtain ⟨l1, l2, l3, l4, l5, l6, l7, l8⟩ := hSw
      go_simp
      try with_reducible rfl
    try simp only [Act.put, List.getElem_toArray, List.getElem_cons_zero, List.setIfInBounds_toArray, List.set_cons_zero, List.set_cons_succ]
    refine wpAnyH_take (i := 1) (oi := _) (v := ?_) rfl (by kernel_rfl) (by kernel_rfl) (by kernel_rfl) (fun _ _ _ h => h) (Or.inl ⟨by rfl, ?_⟩) (by assumption) ?_
    rotate_left
    · intro w' hSw
      obtain ⟨l1, l2, l3, l4, l5, l6, l7, l8⟩ := hSw
      go_simp
      try with_reducible rfl
    try simp only [Act.put, List.getElem_toArray, List.getElem_cons_zero, List.getElem_cons_succ, List.setIfInBounds_toArray, List.set_cons_zero, List.set_cons_succ]
    refine wpAnyH_ready (rs := [2]) (by kernel_rfl) (by simp) ?_
    refine AllReadyH.cons (o := _) rfl (fun K' hK => ?_) AllReadyH.nil
    go_simp
    (go_at_call 33; (with_reducible refine Calls.mono (C4.out _ (HD.out _ K0)) ?_); rintro e w1 ⟨rfl, b1⟩; have K1 := next K0 (Nat.le_refl _) b1)
    try go_wp2_with fail
    refine hK.out _ _ (keep8 H0 H5 H7 H10 s0 s5 s7 s10 K1) (fun hH1 => ?_)
    clear hK
    try simp only [Act.put, List.getElem_toArray, List.getElem_cons_zero, List.getElem_cons_succ, List.setIfInBounds_toArray, List.set_cons_zero, List.set_cons_succ]
    refine wpAnyH_take (i := 3) (oi := _) (v := ?_) rfl (by kernel_rfl) (by kernel_rfl) (by kernel_rfl) (fun _ _ _ h => h) (Or.inl ⟨by rfl, ?_⟩) (by assumption) ?_
    rotate_left
    · intro w' hSw
      obtain ⟨l1, l2, l3, l4, l5, l6, l7, l8⟩ := hSw
      go_simp
      try with_reducible rfl
    try simp only [Act.put, List.getElem_toArray, List.getElem_cons_zero, List.getElem_cons_succ, List.setIfInBounds_toArray, List.set_cons_zero, List.set_cons_succ]
    refine wpAnyH_take (i := 4) (oi := _) (v := ?_) rfl (by kernel_rfl) (by kernel_rfl) (by kernel_rfl) (fun _ _ _ h => h) (Or.inl ⟨by rfl, ?_⟩) (by assumption) ?_
    rotate_left
    · intro w' hSw
      obtain ⟨l1, l2, l3, l4, l5, l6, l7, l8⟩ := hSw
      go_simp
      try with_reducible rfl
    try simp only [Act.put, List.getElem_toArray, List.getElem_cons_zero, List.getElem_cons_succ, List.setIfInBounds_toArray, List.set_cons_zero, List.set_cons_succ]
    refine wpAnyH_take (i := 5) (oi := _) (v := ?_) rfl (by kernel_rfl) (by kernel_rfl) (by kernel_rfl) (fun _ _ _ h => h) (Or.inl ⟨by rfl, ?_⟩) (by assumption) ?_
    rotate_left
    · intro w' hSw
      obtain ⟨l1, l2, l3, l4, l5, l6, l7, l8⟩ := hSw
      go_simp
      try with_reducible rfl
    try simp only [Act.put, List.getElem_toArray, List.getElem_cons_zero, List.getElem_cons_succ, List.setIfInBounds_toArray, List.set_cons_zero, List.set_cons_succ]
    refine wpAnyH_take (i := 6) (oi := _) (v := ?_) rfl (by kernel_rfl) (by kernel_rfl) (by kernel_rfl) (fun _ _ _ h => h) (Or.inl ⟨by rfl, ?_⟩) (by assumption) ?_
    rotate_left
    · intro w' hSw
      obtain ⟨l1, l2, l3, l4, l5, l6, l7, l8⟩ := hSw
      go_simp
      try with_reducible rfl
    try simp only [Act.put, List.getElem_toArray, List.getElem_cons_zero, List.getElem_cons_succ, List.setIfInBounds_toArray, List.set_cons_zero, List.set_cons_succ]
    refine wpAnyH_ready (rs := [7]) (by kernel_rfl) (by simp) ?_
    refine AllReadyH.cons (o := _) rfl (fun K' hK => ?_) AllReadyH.nil
    go_simp
    (go_at_call_of 8 x1; (with_reducible refine Calls.mono (ref2_Same dM x1 P1 P2 d1 d2 _ (r1.on K1) (r2.on K1) lx1) ?_); rintro e w2 ⟨rfl, b2⟩; have K2 := next K1 (Nat.le_refl _) b2)
    try go_wp2_with fail
    refine hK.out _ _ (keep8 H0 H5 H7 H10 s0 s5 s7 s10 K2) (fun hH2 => ?_)
    clear hK
    try simp only [Act.put, List.getElem_toArray, List.getElem_cons_zero, List.getElem_cons_succ, List.setIfInBounds_toArray, List.set_cons_zero, List.set_cons_succ]
    refine wpAnyH_take (i := 8) (oi := _) (v := ?_) rfl (by kernel_rfl) (by kernel_rfl) (by kernel_rfl) (fun _ _ _ h => h) (Or.inl ⟨by rfl, ?_⟩) (by assumption) ?_
    rotate_left
    · intro w' hSw
      obtain ⟨l1, l2, l3, l4, l5, l6, l7, l8⟩ := hSw
      go_simp
      try with_reducible rfl
    try simp only [Act.put, List.getElem_toArray, List.getElem_cons_zero, List.getElem_cons_succ, List.setIfInBounds_toArray, List.set_cons_zero, List.set_cons_succ]
    refine wpAnyH_take (i := 9) (oi := _) (v := ?_) rfl (by kernel_rfl) (by kernel_rfl) (by kernel_rfl) (fun _ _ _ h => h) (Or.inl ⟨by rfl, ?_⟩) (by assumption) ?_
    rotate_left
    · intro w' hSw
      obtain ⟨l1, l2, l3, l4, l5, l6, l7, l8⟩ := hSw
      go_simp
      try with_reducible rfl
    try simp only [Act.put, List.getElem_toArray, List.getElem_cons_zero, List.getElem_cons_succ, List.setIfInBounds_toArray, List.set_cons_zero, List.set_cons_succ]
    refine wpAnyH_take (i := 10) (oi := _) (v := ?_) rfl (by kernel_rfl) (by kernel_rfl) (by kernel_rfl) (fun _ _ _ h => h) (Or.inl ⟨by rfl, ?_⟩) (by assumption) ?_
    rotate_left
    · intro w' hSw
      obtain ⟨l1, l2, l3, l4, l5, l6, l7, l8⟩ := hSw
      go_simp
      try with_reducible rfl
    try simp only [Act.put, List.getElem_toArray, List.getElem_cons_zero, List.getElem_cons_succ, List.setIfInBounds_toArray, List.set_cons_zero, List.set_cons_succ]
    refine wpAnyH_take (i := 11) (oi := _) (v := ?_) rfl (by kernel_rfl) (by kernel_rfl) (by kernel_rfl) (fun _ _ _ h => h) (Or.inl ⟨by rfl, ?_⟩) (by assumption) ?_
    rotate_left
    · intro w' hSw
      obtain ⟨l1, l2, l3, l4, l5, l6, l7, l8⟩ := hSw
      go_simp
      try with_reducible rfl
    try simp only [Act.put, List.getElem_toArray, List.getElem_cons_zero, List.getElem_cons_succ, List.setIfInBounds_toArray, List.set_cons_zero, List.set_cons_succ]
    refine wpAnyH_take (i := 12) (oi := _) (v := ?_) rfl (by kernel_rfl) (by kernel_rfl) (by kernel_rfl) (fun _ _ _ h => h) (Or.inl ⟨by rfl, ?_⟩) (by assumption) ?_
    rotate_left
    · intro w' hSw
      obtain ⟨l1, l2, l3, l4, l5, l6, l7, l8⟩ := hSw
      go_simp
      try with_reducible rfl
    try simp only [Act.put, List.getElem_toArray, List.getElem_cons_zero, List.getElem_cons_succ, List.setIfInBounds_toArray, List.set_cons_zero, List.set_cons_succ]
    refine wpAnyH_take (i := 13) (oi := _) (v := ?_) rfl (by kernel_rfl) (by kernel_rfl) (by kernel_rfl) (fun _ _ _ h => h) (Or.inl ⟨by rfl, ?_⟩) (by assumption) ?_
    rotate_left
    · intro w' hSw
      obtain ⟨l1, l2, l3, l4, l5, l6, l7, l8⟩ := hSw
      go_simp
      try with_reducible rfl
    try simp only [Act.put, List.getElem_toArray, List.getElem_cons_zero, List.getElem_cons_succ, List.setIfInBounds_toArray, List.set_cons_zero, List.set_cons_succ]
    refine wpAnyH_take (i := 14) (oi := _) (v := ?_) rfl (by kernel_rfl) (by kernel_rfl) (by kernel_rfl) (fun _ _ _ h => h) (Or.inl ⟨by rfl, ?_⟩) (by assumption) ?_
    rotate_left
    · intro w' hSw
      obtain ⟨l1, l2, l3, l4, l5, l6, l7, l8⟩ := hSw
      go_simp
      try with_reducible rfl
    try simp only [Act.put, List.getElem_toArray, List.getElem_cons_zero, List.getElem_cons_succ, List.setIfInBounds_toArray, List.set_cons_zero, List.set_cons_succ]
    refine wpAnyH_take (i := 15) (oi := _) (v := ?_) rfl (by kernel_rfl) (by kernel_rfl) (by kernel_rfl) (fun _ _ _ h => h) (Or.inl ⟨by rfl, ?_⟩) (by assumption) ?_
    rotate_left
    · intro w' hSw
      obtain ⟨l1, l2, l3, l4, l5, l6, l7, l8⟩ := hSw
      go_simp
      try with_reducible rfl
    try simp only [Act.put, List.getElem_toArray, List.getElem_cons_zero, List.getElem_cons_succ, List.setIfInBounds_toArray, List.set_cons_zero, List.set_cons_succ]
    refine wpAnyH_take (i := 16) (oi := _) (v := ?_) rfl (by kernel_rfl) (by kernel_rfl) (by kernel_rfl) (fun _ _ _ h => h) (Or.inl ⟨by rfl, ?_⟩) (by assumption) ?_
    rotate_left
    · intro w' hSw
      obtain ⟨l1, l2, l3, l4, l5, l6, l7, l8⟩ := hSw
      go_simp
      try with_reducible rfl
    try simp only [Act.put, List.getElem_toArray, List.getElem_cons_zero, List.getElem_cons_succ, List.setIfInBounds_toArray, List.set_cons_zero, List.set_cons_succ]
    refine wpAnyH_take (i := 17) (oi := _) (v := ?_) rfl (by kernel_rfl) (by kernel_rfl) (by kernel_rfl) (fun _ _ _ h => h) (Or.inl ⟨by rfl, ?_⟩) (by assumption) ?_
    rotate_left
    · intro w' hSw
      obtain ⟨l1, l2, l3, l4, l5, l6, l7, l8⟩ := hSw
      go_simp
      try with_reducible rfl
    try simp only [Act.put, List.getElem_toArray, List.getElem_cons_zero, List.getElem_cons_succ, List.setIfInBounds_toArray, List.set_cons_zero, List.set_cons_succ]
    refine wpAnyH_take (i := 18) (oi := _) (v := ?_) rfl (by kernel_rfl) (by kernel_rfl) (by kernel_rfl) (fun _ _ _ h => h) (Or.inl ⟨by rfl, ?_⟩) (by assumption) ?_
    rotate_left
    · intro w' hSw
      obtain ⟨l1, l2, l3, l4, l5, l6, l7, l8⟩ := hSw
      go_simp
      try with_reducible rfl
    try simp only [Act.put, List.getElem_toArray, List.getElem_cons_zero, List.getElem_cons_succ, List.setIfInBounds_toArray, List.set_cons_zero, List.set_cons_succ]
    refine wpAnyH_take (i := 19) (oi := _) (v := undef) rfl (by kernel_rfl) (by kernel_rfl) (by kernel_rfl) (fun _ _ _ h => h) (Or.inr ⟨by rfl, rfl⟩) (by assumption) ?_
    try simp only [Act.put, List.getElem_toArray, List.getElem_cons_zero, List.getElem_cons_succ, List.setIfInBounds_toArray, List.set_cons_zero, List.set_cons_succ]
    refine wpAnyH_take (i := 20) (oi := _) (v := undef) rfl (by kernel_rfl) (by kernel_rfl) (by kernel_rfl) (fun _ _ _ h => h) (Or.inr ⟨by rfl, rfl⟩) (by assumption) ?_
    try simp only [Act.put, List.getElem_toArray, List.getElem_cons_zero, List.getElem_cons_succ, List.setIfInBounds_toArray, List.set_cons_zero, List.set_cons_succ]
    refine wpAnyH_take (i := 21) (oi := _) (v := undef) rfl (by kernel_rfl) (by kernel_rfl) (by kernel_rfl) (fun _ _ _ h => h) (Or.inr ⟨by rfl, rfl⟩) (by assumption) ?_
    try simp only [Act.put, List.getElem_toArray, List.getElem_cons_zero, List.getElem_cons_succ, List.setIfInBounds_toArray, List.set_cons_zero, List.set_cons_succ]
    refine wpAnyH_take (i := 22) (oi := _) (v := undef) rfl (by kernel_rfl) (by kernel_rfl) (by kernel_rfl) (fun _ _ _ h => h) (Or.inr ⟨by rfl, rfl⟩) (by assumption) ?_
    try simp only [Act.put, List.getElem_toArray, List.getElem_cons_zero, List.getElem_cons_succ, List.setIfInBounds_toArray, List.set_cons_zero, List.set_cons_succ]
    refine wpAnyH_take (i := 23) (oi := _) (v := undef) rfl (by kernel_rfl) (by kernel_rfl) (by kernel_rfl) (fun _ _ _ h => h) (Or.inr ⟨by rfl, rfl⟩) (by assumption) ?_
    try simp only [Act.put, List.getElem_toArray, List.getElem_cons_zero, List.getElem_cons_succ, List.setIfInBounds_toArray, List.set_cons_zero, List.set_cons_succ]
    refine wpAnyH_take (i := 24) (oi := _) (v := undef) rfl (by kernel_rfl) (by kernel_rfl) (by kernel_rfl) (fun _ _ _ h => h) (Or.inr ⟨by rfl, rfl⟩) (by assumption) ?_
    try simp only [Act.put, List.getElem_toArray, List.getElem_cons_zero, List.getElem_cons_succ, List.setIfInBounds_toArray, List.set_cons_zero, List.set_cons_succ]
    refine wpAnyH_take (i := 25) (oi := _) (v := undef) rfl (by kernel_rfl) (by kernel_rfl) (by kernel_rfl) (fun _ _ _ h => h) (Or.inr ⟨by rfl, rfl⟩) (by assumption) ?_
    try simp only [Act.put, List.getElem_toArray, List.getElem_cons_zero, List.getElem_cons_succ, List.setIfInBounds_toArray, List.set_cons_zero, List.set_cons_succ]
    refine wpAnyH_take (i := 26) (oi := _) (v := undef) rfl (by kernel_rfl) (by kernel_rfl) (by kernel_rfl) (fun _ _ _ h => h) (Or.inr ⟨by rfl, rfl⟩) (by assumption) ?_
    try simp only [Act.put, List.getElem_toArray, List.getElem_cons_zero, List.getElem_cons_succ, List.setIfInBounds_toArray, List.set_cons_zero, List.set_cons_succ]
    refine wpAnyH_take (i := 27) (oi := _) (v := undef) rfl (by kernel_rfl) (by kernel_rfl) (by kernel_rfl) (fun _ _ _ h => h) (Or.inr ⟨by rfl, rfl⟩) (by assumption) ?_
    try simp only [Act.put, List.getElem_toArray, List.getElem_cons_zero, List.getElem_cons_succ, List.setIfInBounds_toArray, List.set_cons_zero, List.set_cons_succ]
    refine wpAnyH_take (i := 28) (oi := _) (v := undef) rfl (by kernel_rfl) (by kernel_rfl) (by kernel_rfl) (fun _ _ _ h => h) (Or.inr ⟨by rfl, rfl⟩) (by assumption) ?_
    try simp only [Act.put, List.getElem_toArray, List.getElem_cons_zero, List.getElem_cons_succ, List.setIfInBounds_toArray, List.set_cons_zero, List.set_cons_succ]
    refine wpAnyH_take (i := 29) (oi := _) (v := undef) rfl (by kernel_rfl) (by kernel_rfl) (by kernel_rfl) (fun _ _ _ h => h) (Or.inr ⟨by rfl, rfl⟩) (by assumption) ?_
    try simp only [Act.put, List.getElem_toArray, List.getElem_cons_zero, List.getElem_cons_succ, List.setIfInBounds_toArray, List.set_cons_zero, List.set_cons_succ]
    refine wpAnyH_take (i := 30) (oi := _) (v := ?_) rfl (by kernel_rfl) (by kernel_rfl) (by kernel_rfl) (fun _ _ _ h => h) (Or.inl ⟨by rfl, ?_⟩) (by assumption) ?_
    rotate_left
    · intro w' hSw
      obtain ⟨l1, l2, l3, l4, l5, l6, l7, l8⟩ := hSw
      go_simp
      try with_reducible rfl
    try simp only [Act.put, List.getElem_toArray, List.getElem_cons_zero, List.getElem_cons_succ, List.setIfInBounds_toArray, List.set_cons_zero, List.set_cons_succ]
    refine wpAnyH_take (i := 31) (oi := _) (v := ?_) rfl (by kernel_rfl) (by kernel_rfl) (by kernel_rfl) (fun _ _ _ h => h) (Or.inl ⟨by rfl, ?_⟩) (by assumption) ?_
    rotate_left
    · intro w' hSw
      obtain ⟨l1, l2, l3, l4, l5, l6, l7, l8⟩ := hSw
      go_simp
      try with_reducible rfl
    try simp only [Act.put, List.getElem_toArray, List.getElem_cons_zero, List.getElem_cons_succ, List.setIfInBounds_toArray, List.set_cons_zero, List.set_cons_succ]
    refine wpAnyH_take (i := 32) (oi := _) (v := ?_) rfl (by kernel_rfl) (by kernel_rfl) (by kernel_rfl) (fun _ _ _ h => h) (Or.inl ⟨by rfl, ?_⟩) (by assumption) ?_
    rotate_left
    · intro w' hSw
      obtain ⟨l1, l2, l3, l4, l5, l6, l7, l8⟩ := hSw
      go_simp
      try with_reducible rfl
    try simp only [Act.put, List.getElem_toArray, List.getElem_cons_zero, List.getElem_cons_succ, List.setIfInBounds_toArray, List.set_cons_zero, List.set_cons_succ]
    refine wpAnyH_ready (rs := [33]) (by kernel_rfl) (by simp) ?_
    refine AllReadyH.cons (o := _) rfl (fun K' hK => ?_) AllReadyH.nil
    go_simp
    (go_at_call 21; (with_reducible refine Calls.mono (C7.out _ (HD.out _ K2)) ?_); rintro e w5 ⟨rfl, b5⟩; have K5 := next K2 (Nat.le_refl _) b5)
    try go_wp2_with fail
    refine hK.out _ _ (keep8 H0 H5 H7 H10 s0 s5 s7 s10 K5) (fun hH5 => ?_)
    clear hK
    try simp only [Act.put, List.getElem_toArray, List.getElem_cons_zero, List.getElem_cons_succ, List.setIfInBounds_toArray, List.set_cons_zero, List.set_cons_succ]
    refine wpAnyH_take (i := 34) (oi := _) (v := ?_) rfl (by kernel_rfl) (by kernel_rfl) (by kernel_rfl) (fun _ _ _ h => h) (Or.inl ⟨by rfl, ?_⟩) (by assumption) ?_
    rotate_left
    · intro w' hSw
      obtain ⟨l1, l2, l3, l4, l5, l6, l7, l8⟩ := hSw
      go_simp
      try with_reducible rfl
    try simp only [Act.put, List.getElem_toArray, List.getElem_cons_zero, List.getElem_cons_succ, List.setIfInBounds_toArray, List.set_cons_zero, List.set_cons_succ]
    refine wpAnyH_take (i := 35) (oi := _) (v := ?_) rfl (by kernel_rfl) (by kernel_rfl) (by kernel_rfl) (fun _ _ _ h => h) (Or.inl ⟨by rfl, ?_⟩) (by assumption) ?_
    rotate_left
    · intro w' hSw
      obtain ⟨l1, l2, l3, l4, l5, l6, l7, l8⟩ := hSw
      go_simp
      try with_reducible rfl
    try simp only [Act.put, List.getElem_toArray, List.getElem_cons_zero, List.getElem_cons_succ, List.setIfInBounds_toArray, List.set_cons_zero, List.set_cons_succ]
    refine wpAnyH_done (by kernel_rfl) ?_ _
    go_wp2_with fail
    go_ret
    exact ⟨rfl, HD.out _ K5⟩
  · have hsm : tx.size ≤ 2000 := by omega
    obtain ⟨rfl, rfl⟩ := wparse_back HP4.out (by rw [HTL.out]; exact hsm)
    obtain rfl : decide (M4 < 0) = d4' := HD4.out
    have e1 : decide (2000 < tx.size) = false := decide_eq_false hbig
    have e2 : decide ((2000 : Int) < (tx.size : Int)) = false := decide_eq_false (by omega)
    clear hbig hsm
    go_region_held3 (fun w' => w'.cell? ⟨w.heap.size, 0, none⟩ = some (.bool n1) ∧ w'.cell? ⟨w.heap.size, 1, none⟩ = some (.slice A a.length ca) ∧ w'.cell? ⟨v1.heap.size, 0, none⟩ = some (.bool dM) ∧ w'.cell? ⟨v1.heap.size, 1, none⟩ = some (.slice P1 x1.length d1) ∧ w'.cell? ⟨v2.heap.size, 0, none⟩ = some (.bool dM) ∧ w'.cell? ⟨v2.heap.size, 1, none⟩ = some (.slice P2 x1.length d2) ∧ w'.cell? ⟨v4.heap.size, 0, none⟩ = some (.bool (decide (M4 < 0))) ∧ w'.cell? ⟨v4.heap.size, 1, none⟩ = some (.slice P4 x4.length d4))
      (first | exact keep8 H0 H5 H7 H10 s0 s5 s7 s10 K5 | exact keep8 H0 H5 H7 H10 s0 s5 s7 s10 K4 | exact keep8 H0 H5 H7 H10 s0 s5 s7 s10 K3 | exact keep8 H0 H5 H7 H10 s0 s5 s7 s10 K2 | exact keep8 H0 H5 H7 H10 s0 s5 s7 s10 K1 | exact keep8 H0 H5 H7 H10 s0 s5 s7 s10 K0 | go_keep)
      ((first
        | (go_at_call 33; (with_reducible refine Calls.mono (C4.out _ (HD.out _ K0)) ?_); rintro e w1 ⟨rfl, b1⟩; have K1 := next K0 (Nat.le_refl _) b1)
        | (go_at_call_of 8 x1; (with_reducible refine Calls.mono (ref2_Same dM x1 P1 P2 d1 d2 _ (r1.on K1) (r2.on K1) lx1) ?_); rintro e w2 ⟨rfl, b2⟩; have K2 := next K1 (Nat.le_refl _) b2)
        | (go_at_call 29; (with_reducible refine Calls.mono (C6.out _ (HD.out _ K2)) ?_); rintro e w3 ⟨A3, x3, y3, rfl, hc3, hl3, hn3, hv3, r3, b3⟩; have K3 := next K2 (Nat.le_refl _) b3; obtain rfl : x4 = x3 := Norm.ext (b := 4294967296) (by omega) HN4.out hn3 (HV4.out.trans hv3.symm))
        | (go_at_call_of 8 x4; (with_reducible refine Calls.mono (ref2_Same _ x4 P4 A3 d4 y3 _ (r4.on K3) r3 (by omega)) ?_); rintro e w4 ⟨rfl, b4⟩; have K4 := next K3 (Nat.le_refl _) b4)
        | (go_at_call 21; (with_reducible refine Calls.mono (C7.out _ (HD.out _ K4)) ?_); rintro e w5 ⟨rfl, b5⟩; have K5 := next K4 (Nat.le_refl _) b5)))
    go_wp2_with fail
    go_ret
    exact ⟨rfl, HD.out _ K5⟩
end Go.Proofs.YtkmgmppmhgoadaaDoor
