/- Where ways meet, the document's own Cross. -/
import Derived.Test.YtdmoibphidipeaaGreatDoorZCtA
namespace Go.Proofs.YtdmoibphidipeaaGreatDoor
open Go.RowKit Num rows

theorem qAt_inj {a b : Pt} (h : qAt a = qAt b) : a = b := by
  unfold qAt at h
  injection h with h1 h2
  have e1 : a.x = b.x := by exact_mod_cast h1
  have e2 : a.y = b.y := by exact_mod_cast h2
  obtain ⟨x, y⟩ := a
  obtain ⟨u, v⟩ := b
  dsimp only at e1 e2
  rw [e1, e2]
theorem fit4_parts (a b c d : Pt) (R : List Qp) (hm : MeetR a b c d R) : (Fit4 a b c d ∧ PartsG a b c d ∧ PartsG c d a b) ↔ (Fit4 a b c d ∧ ThroughQ (qAt a) (qAt b) (qAt c) (qAt d) R) := by
  constructor
  · rintro ⟨hf, h1, h2⟩
    exact ⟨hf, (through_iff (hm.1 hf)).1 ⟨(parts_iff a b c d).1 h1, (parts_iff c d a b).1 h2⟩⟩
  · rintro ⟨hf, h⟩
    obtain ⟨h1, h2⟩ := (through_iff (hm.1 hf)).2 h
    exact ⟨hf, (parts_iff a b c d).2 h1, (parts_iff c d a b).2 h2⟩
def CrossTo (a b c d : Pt) (w : World) (e : Ending) (w' : World) : Prop := ∃ r : Bool, e = .returned (.bool r) ∧ (r = true ↔ Fit4 a b c d ∧ PartsG a b c d ∧ PartsG c d a b) ∧ Below w.heap.size w w'
theorem cross_Cross (a b c d : Pt) (w : World) : Calls Tryz.prog 12 #[segV a b, segV c d] w (CrossTo a b c d w) := by
  refine (cross_CrossK a b c d w).mono ?_
  rintro e w' ⟨k, rfl, hk, hb⟩
  refine ⟨_, rfl, ?_, hb⟩
  rw [beq_iff_eq]
  rcases hk with ⟨hn, rfl⟩ | ⟨hf, hp, rfl⟩ | ⟨hf, hn, ⟨-, rfl⟩ | ⟨-, rfl⟩⟩
  · exact ⟨fun h => (by omega), fun h => absurd h.1 hn⟩
  · exact ⟨fun _ => ⟨hf, hp⟩, fun _ => rfl⟩
  · exact ⟨fun h => (by omega), fun h => absurd h.2 hn⟩
  · exact ⟨fun h => (by omega), fun h => absurd h.2 hn⟩
theorem ne_split {a b : Pt} (h : ¬ a = b) : ¬ a.x = b.x ∨ (a.x = b.x ∧ ¬ a.y = b.y) := by
  by_cases hx : a.x = b.x
  · exact .inr ⟨hx, fun hy => h (by obtain ⟨x, y⟩ := a; obtain ⟨u, v⟩ := b; dsimp only at hx hy; rw [hx, hy])⟩
  · exact .inl hx

set_option maxRecDepth 10000 in
set_option maxHeartbeats 25600000 in
theorem ref17_Cross (a b c d : Pt) (w : World) : Calls Tryz.prog 13 #[segV a b, segV c d] w (CrossTo a b c d w) := by
  obtain ⟨W, hW, k1, k2, bW, sW⟩ := seg_boxes w a b c d
  have cM := fun V => ref17_Meet a b c d V
  have cAa := fun (h : FitP a) V => ref5_AtW a h V
  have cAb := fun (h : FitP b) V => ref5_AtW b h V
  have cAc := fun (h : FitP c) V => ref5_AtW c h V
  have cAd := fun (h : FitP d) V => ref5_AtW d h V
  unfold segCells at k1 k2
  have HK := Lib.hid (And.intro k1 (And.intro k2 bW))
  obtain ⟨p0, p1, p2, p3⟩ := Box.quad k1
  obtain ⟨q0, q1, q2, q3⟩ := Box.quad k2
  unfold segV ptV at *
  have CM := Lib.hid cM
  have KAa := Lib.hid cAa
  have KAb := Lib.hid cAb
  have KAc := Lib.hid cAc
  have KAd := Lib.hid cAd
  clear k1 k2 bW sW cM cAa cAb cAc cAd
  go_enter Tryz.func13, Tryz.ntmps13
  go_upto_region 2 with first
    | (rw [hW])
    | (go_at_call 11; (with_reducible refine Calls.mono (CM.out _) ?_); rintro e w1 ⟨pX, cap, xs, R, rfl, hc, hr, hw, hm, bz⟩; clear p0 p1 p2 p3 q0 q1 q2 q3)
  have HT := Lib.hid (fit4_parts a b c d R hm)
  have B0 := Lib.hid bz
  obtain ⟨p0, p1, p2, p3⟩ := Box.quad (HK.out.1.below bz HK.out.1.lt)
  obtain ⟨q0, q1, q2, q3⟩ := Box.quad (HK.out.2.1.below bz HK.out.2.1.lt)
  have hlen := hw.length
  clear bz hW CM
  by_cases h1 : R.length = 1
  · obtain ⟨x, rfl⟩ := List.length_eq_one_iff.1 h1
    obtain ⟨sX, rfl⟩ := List.length_eq_one_iff.1 (hlen.trans h1)
    have hf : Fit4 a b c d := Classical.byContradiction fun hn => by have := hm.2 hn; cases this
    have hx := hw.get 0 (by simp) (by simp)
    have HXX := Lib.hid (show sX.Red 16 ∧ sX.Ok w1 ∧ sw sX = x ∧ Fit4 a b c d from ⟨hx.1, hx.2.1, hx.2.2, hf⟩)
    obtain ⟨bX, oX, rfl, hbX, hcX⟩ := hr (by simp)
    have HCX := Lib.hid (And.intro hbX (show ∀ j u, sX.cells[j]? = some u → w1.cell? ⟨bX, oX + j, none⟩ = some u from fun j u hu => by have := hcX 0 (by simp) j u hu; simpa using this))
    have HTH := Lib.hid (show (Fit4 a b c d ∧ PartsG a b c d ∧ PartsG c d a b) ↔ (a ≠ b ∧ c ≠ d ∧ x ≠ qAt a ∧ x ≠ qAt b ∧ x ≠ qAt c ∧ x ≠ qAt d) from by
      rw [HT.out]
      constructor
      · rintro ⟨-, y, hy, m1, m2, m3⟩
        obtain rfl : x = y := by simpa using hy
        exact ⟨fun e => m1 (by rw [e]), fun e => m2 (by rw [e]), m3⟩
      · rintro ⟨m1, m2, m3⟩
        exact ⟨hf, x, rfl, fun e => m1 (qAt_inj e), fun e => m2 (qAt_inj e), m3⟩)
    have HAa := Lib.hid (KAa.out hf.1.1)
    have HAb := Lib.hid (KAb.out hf.1.2)
    have HAc := Lib.hid (KAc.out hf.2.1)
    have HAd := Lib.hid (KAd.out hf.2.2)
    clear h1 hlen hm hw hr hc hf hx hbX hcX KAa KAb KAc KAd HT
    by_cases hab : a = b
    · subst hab
      have HRES := Lib.hid (show (false = true ↔ Fit4 a a c d ∧ PartsG a a c d ∧ PartsG c d a a) from by rw [HTH.out]; exact ⟨fun h => (by cases h), fun h => absurd rfl h.1⟩)
      go_wp2_with fail
      go_ret
      exact ⟨_, rfl, HRES.out, HK.out.2.2.trans (B0.out.mono HK.out.2.2.size)⟩
    have hab2 := ne_split hab
    by_cases hcd : c = d
    · subst hcd
      have HRES := Lib.hid (show (false = true ↔ Fit4 a b c c ∧ PartsG a b c c ∧ PartsG c c a b) from by rw [HTH.out]; exact ⟨fun h => (by cases h), fun h => absurd rfl h.2.1⟩)
      clear hab
      rcases hab2 with hab2 | ⟨hab2, hab3⟩
      · go_wp2_with fail
        go_ret
        exact ⟨_, rfl, HRES.out, HK.out.2.2.trans (B0.out.mono HK.out.2.2.size)⟩
      · go_wp2_with fail
        go_ret
        exact ⟨_, rfl, HRES.out, HK.out.2.2.trans (B0.out.mono HK.out.2.2.size)⟩
    have hcd2 := ne_split hcd
    have HSV := Lib.hid (show ∀ w', Below w1.heap.size w1 w' → w'.cell? ⟨w.heap.size, 0, none⟩ = some (.int .i64 a.x) ∧ w'.cell? ⟨w.heap.size, 1, none⟩ = some (.int .i64 a.y) ∧ w'.cell? ⟨w.heap.size, 2, none⟩ = some (.int .i64 b.x) ∧ w'.cell? ⟨w.heap.size, 3, none⟩ = some (.int .i64 b.y) ∧ w'.cell? ⟨w.heap.size + 1, 0, none⟩ = some (.int .i64 c.x) ∧ w'.cell? ⟨w.heap.size + 1, 1, none⟩ = some (.int .i64 c.y) ∧ w'.cell? ⟨w.heap.size + 1, 2, none⟩ = some (.int .i64 d.x) ∧ w'.cell? ⟨w.heap.size + 1, 3, none⟩ = some (.int .i64 d.y) ∧ w'.cell? ⟨bX, oX, none⟩ = some (.bool sX.n1) ∧ w'.cell? ⟨bX, oX + 1, none⟩ = some (.slice sX.A1 sX.a1.length sX.c1) ∧ w'.cell? ⟨bX, oX + 2, none⟩ = some (.slice sX.D1 sX.d1.length sX.e1) ∧ w'.cell? ⟨bX, oX + 3, none⟩ = some (.bool sX.n2) ∧ w'.cell? ⟨bX, oX + 4, none⟩ = some (.slice sX.A2 sX.a2.length sX.c2) ∧ w'.cell? ⟨bX, oX + 5, none⟩ = some (.slice sX.D2 sX.d2.length sX.e2) from fun w' hb => by
      obtain ⟨k0, k1, k2, k3⟩ := Box.quad ((HK.out.1.below B0.out HK.out.1.lt).below hb (Nat.lt_of_lt_of_le HK.out.1.lt B0.out.size))
      obtain ⟨l0, l1, l2, l3⟩ := Box.quad ((HK.out.2.1.below B0.out HK.out.2.1.lt).below hb (Nat.lt_of_lt_of_le HK.out.2.1.lt B0.out.size))
      have g := fun j u hu => (hb.cell (p := ⟨bX, oX + j, none⟩) HCX.out.1).trans (HCX.out.2 j u hu)
      exact ⟨k0, k1, k2, k3, l0, l1, l2, l3, g 0 _ rfl, g 1 _ rfl, g 2 _ rfl, g 3 _ rfl, g 4 _ rfl, g 5 _ rfl⟩)
    have HNE := Lib.hid (And.intro hab hcd)
    clear hab hcd
    have B : Below w1.heap.size w1 w1.drew := (Below.refl _ _).drew
    have main : True := trivial
    go_cut [5, 25] from 9 (fun v5 v25 wc => v5 = .slice (some ⟨bX, oX, none⟩) 1 cap ∧ v25 = .bool false ∧ wc = w1)
    case first =>
      rcases hab2 with hab2 | ⟨hab2, hab3⟩
      · rcases hcd2 with hcd2 | ⟨hcd2, hcd3⟩
        · go_wp2_with fail
          go_meet
          exact ⟨rfl, rfl, rfl⟩
        · go_wp2_with fail
          go_meet
          exact ⟨rfl, rfl, rfl⟩
      · rcases hcd2 with hcd2 | ⟨hcd2, hcd3⟩
        · go_wp2_with fail
          go_meet
          exact ⟨rfl, rfl, rfl⟩
        · go_wp2_with fail
          go_meet
          exact ⟨rfl, rfl, rfl⟩
    case rest =>
      obtain ⟨rfl, rfl, rfl⟩ := hcut
      clear hab2 hcd2 p0 p1 p2 p3 q0 q1 q2 q3 main
      go_wp2_with fail
      refine wp_region_held_drew (S := fun w' => w'.cell? ⟨w.heap.size, 0, none⟩ = some (.int .i64 a.x) ∧ w'.cell? ⟨w.heap.size, 1, none⟩ = some (.int .i64 a.y) ∧ w'.cell? ⟨w.heap.size, 2, none⟩ = some (.int .i64 b.x) ∧ w'.cell? ⟨w.heap.size, 3, none⟩ = some (.int .i64 b.y) ∧ w'.cell? ⟨w.heap.size + 1, 0, none⟩ = some (.int .i64 c.x) ∧ w'.cell? ⟨w.heap.size + 1, 1, none⟩ = some (.int .i64 c.y) ∧ w'.cell? ⟨w.heap.size + 1, 2, none⟩ = some (.int .i64 d.x) ∧ w'.cell? ⟨w.heap.size + 1, 3, none⟩ = some (.int .i64 d.y) ∧ w'.cell? ⟨bX, oX, none⟩ = some (.bool sX.n1) ∧ w'.cell? ⟨bX, oX + 1, none⟩ = some (.slice sX.A1 sX.a1.length sX.c1) ∧ w'.cell? ⟨bX, oX + 2, none⟩ = some (.slice sX.D1 sX.d1.length sX.e1) ∧ w'.cell? ⟨bX, oX + 3, none⟩ = some (.bool sX.n2) ∧ w'.cell? ⟨bX, oX + 4, none⟩ = some (.slice sX.A2 sX.a2.length sX.c2) ∧ w'.cell? ⟨bX, oX + 5, none⟩ = some (.slice sX.D2 sX.d2.length sX.e2)) (by kernel_rfl) (HSV.out _ B) (fun hS => ?_)
      refine takeF (i := 0) (v := _) rfl (by kernel_rfl) (by kernel_rfl) (by kernel_rfl) (fun _ _ _ h => h) (Or.inl ⟨by kernel_rfl, fun w' _ => exec_move (.inl rfl) rfl⟩) hS ?_
      simp only [Act.put, List.setIfInBounds_toArray, List.set_cons_zero, List.set_cons_succ]
      refine takeF (i := 1) (v := ?vm1) rfl (by kernel_rfl) (by kernel_rfl) (by kernel_rfl) (fun _ _ _ h => h) (Or.inl ⟨by kernel_rfl, ?ym1⟩) hS ?_
      case ym1 =>
        intro w' hSw
        obtain ⟨h0, h1, h2, h3, h4, h5, h6, h7, h8, h9, h10, h11, h12, h13⟩ := hSw
        go_simp
        all_goals (with_reducible rfl)
      simp only [Act.put, List.setIfInBounds_toArray, List.set_cons_zero, List.set_cons_succ]
      refine takeF (i := 2) (v := ?vm2) rfl (by kernel_rfl) (by kernel_rfl) (by kernel_rfl) (fun _ _ _ h => h) (Or.inl ⟨by kernel_rfl, ?ym2⟩) hS ?_
      case ym2 =>
        intro w' hSw
        obtain ⟨h0, h1, h2, h3, h4, h5, h6, h7, h8, h9, h10, h11, h12, h13⟩ := hSw
        go_simp
        all_goals (with_reducible rfl)
      simp only [Act.put, List.setIfInBounds_toArray, List.set_cons_zero, List.set_cons_succ]
      refine takeF (i := 3) (v := ?vm3) rfl (by kernel_rfl) (by kernel_rfl) (by kernel_rfl) (fun _ _ _ h => h) (Or.inl ⟨by kernel_rfl, ?ym3⟩) hS ?_
      case ym3 =>
        intro w' hSw
        obtain ⟨h0, h1, h2, h3, h4, h5, h6, h7, h8, h9, h10, h11, h12, h13⟩ := hSw
        go_simp
        all_goals (with_reducible rfl)
      simp only [Act.put, List.setIfInBounds_toArray, List.set_cons_zero, List.set_cons_succ]
      refine takeF (i := 4) (v := ?vm4) rfl (by kernel_rfl) (by kernel_rfl) (by kernel_rfl) (fun _ _ _ h => h) (Or.inl ⟨by kernel_rfl, ?ym4⟩) hS ?_
      case ym4 =>
        intro w' hSw
        obtain ⟨h0, h1, h2, h3, h4, h5, h6, h7, h8, h9, h10, h11, h12, h13⟩ := hSw
        go_simp
        all_goals (with_reducible rfl)
      simp only [Act.put, List.setIfInBounds_toArray, List.set_cons_zero, List.set_cons_succ]
      refine oneUp (i := 5) (by kernel_rfl) (step_enterS 31 rfl (.inl rfl) rfl (exec_call1 rfl rfl (by go_simp) rfl) ((HAa.out _).mono ?_))
      rintro e um0 ⟨s0, rfl, r0, o0, e0, b0⟩
      replace B := B.trans (b0.mono B.size)
      refine ⟨_, rfl, HSV.out _ B, ?_⟩
      replace hS := HSV.out _ B
      simp only [Act.put, List.setIfInBounds_toArray, List.set_cons_zero, List.set_cons_succ]
      by_cases hq : x = qAt a
      · have HRES := Lib.hid (show (false = true ↔ Fit4 a b c d ∧ PartsG a b c d ∧ PartsG c d a b) from by rw [HTH.out]; exact ⟨fun h => (by cases h), fun h => absurd hq h.2.2.1⟩)
        have hz0 : cmpS sX s0 = 0 := (cmpS_worth sX s0).2.2 (HXX.out.2.2.1.trans (hq.trans e0.symm))
        clear hq
        have cm0 := ref5_CmpW (M := 16) (by omega) sX s0 HXX.out.1 (r0.wide (by omega)) 0 hz0 _ (HXX.out.2.1.on B) o0
        refine oneUp (i := 6) (by kernel_rfl) (step_enterS 32 rfl (.inl rfl) rfl (exec_call2 rfl rfl (by go_simp) rfl rfl) (cm0.mono ?_))
        rintro e vf0_0 ⟨rfl, b0'⟩
        replace B := B.trans (b0'.mono B.size)
        refine ⟨_, rfl, HSV.out _ B, ?_⟩
        replace hS := HSV.out _ B
        clear cm0 hz0 r0 o0 e0 b0 b0'
        simp only [Act.put, List.setIfInBounds_toArray, List.set_cons_zero, List.set_cons_succ]
        refine takeF (i := 7) (v := ?vf0_7) rfl (by kernel_rfl) (by kernel_rfl) (by kernel_rfl) (fun _ _ _ h => h) (Or.inl ⟨by kernel_rfl, ?yf0_7⟩) hS ?_
        case yf0_7 =>
          intro w' hSw
          obtain ⟨h0, h1, h2, h3, h4, h5, h6, h7, h8, h9, h10, h11, h12, h13⟩ := hSw
          go_simp
          all_goals (with_reducible rfl)
        simp only [Act.put, List.setIfInBounds_toArray, List.set_cons_zero, List.set_cons_succ]
        refine takeF (i := 8) (v := _) rfl (by kernel_rfl) (by kernel_rfl) (by kernel_rfl) (fun _ _ _ h => h) (Or.inl ⟨by kernel_rfl, fun w' _ => exec_move (.inl rfl) rfl⟩) hS ?_
        simp only [Act.put, List.setIfInBounds_toArray, List.set_cons_zero, List.set_cons_succ]
        refine takeF (i := 9) (v := undef) rfl (by kernel_rfl) (by kernel_rfl) (by kernel_rfl) (fun _ _ _ h => h) (Or.inr ⟨by kernel_rfl, rfl⟩) hS ?_
        simp only [Act.put, List.setIfInBounds_toArray, List.set_cons_zero, List.set_cons_succ]
        refine takeF (i := 10) (v := undef) rfl (by kernel_rfl) (by kernel_rfl) (by kernel_rfl) (fun _ _ _ h => h) (Or.inr ⟨by kernel_rfl, rfl⟩) hS ?_
        simp only [Act.put, List.setIfInBounds_toArray, List.set_cons_zero, List.set_cons_succ]
        refine takeF (i := 11) (v := undef) rfl (by kernel_rfl) (by kernel_rfl) (by kernel_rfl) (fun _ _ _ h => h) (Or.inr ⟨by kernel_rfl, rfl⟩) hS ?_
        simp only [Act.put, List.setIfInBounds_toArray, List.set_cons_zero, List.set_cons_succ]
        refine takeF (i := 12) (v := undef) rfl (by kernel_rfl) (by kernel_rfl) (by kernel_rfl) (fun _ _ _ h => h) (Or.inr ⟨by kernel_rfl, rfl⟩) hS ?_
        simp only [Act.put, List.setIfInBounds_toArray, List.set_cons_zero, List.set_cons_succ]
        refine takeF (i := 13) (v := undef) rfl (by kernel_rfl) (by kernel_rfl) (by kernel_rfl) (fun _ _ _ h => h) (Or.inr ⟨by kernel_rfl, rfl⟩) hS ?_
        simp only [Act.put, List.setIfInBounds_toArray, List.set_cons_zero, List.set_cons_succ]
        refine takeF (i := 14) (v := undef) rfl (by kernel_rfl) (by kernel_rfl) (by kernel_rfl) (fun _ _ _ h => h) (Or.inr ⟨by kernel_rfl, rfl⟩) hS ?_
        simp only [Act.put, List.setIfInBounds_toArray, List.set_cons_zero, List.set_cons_succ]
        refine takeF (i := 15) (v := undef) rfl (by kernel_rfl) (by kernel_rfl) (by kernel_rfl) (fun _ _ _ h => h) (Or.inr ⟨by kernel_rfl, rfl⟩) hS ?_
        simp only [Act.put, List.setIfInBounds_toArray, List.set_cons_zero, List.set_cons_succ]
        refine takeF (i := 16) (v := undef) rfl (by kernel_rfl) (by kernel_rfl) (by kernel_rfl) (fun _ _ _ h => h) (Or.inr ⟨by kernel_rfl, rfl⟩) hS ?_
        simp only [Act.put, List.setIfInBounds_toArray, List.set_cons_zero, List.set_cons_succ]
        refine takeF (i := 17) (v := ?vf0_17) rfl (by kernel_rfl) (by kernel_rfl) (by kernel_rfl) (fun _ _ _ h => h) (Or.inl ⟨by kernel_rfl, ?yf0_17⟩) hS ?_
        case yf0_17 =>
          intro w' hSw
          obtain ⟨h0, h1, h2, h3, h4, h5, h6, h7, h8, h9, h10, h11, h12, h13⟩ := hSw
          go_simp
          all_goals (with_reducible rfl)
        simp only [Act.put, List.setIfInBounds_toArray, List.set_cons_zero, List.set_cons_succ]
        refine takeF (i := 18) (v := _) rfl (by kernel_rfl) (by kernel_rfl) (by kernel_rfl) (fun _ _ _ h => h) (Or.inl ⟨by kernel_rfl, fun w' _ => exec_move (.inl rfl) rfl⟩) hS ?_
        simp only [Act.put, List.setIfInBounds_toArray, List.set_cons_zero, List.set_cons_succ]
        refine takeF (i := 19) (v := undef) rfl (by kernel_rfl) (by kernel_rfl) (by kernel_rfl) (fun _ _ _ h => h) (Or.inr ⟨by kernel_rfl, rfl⟩) hS ?_
        simp only [Act.put, List.setIfInBounds_toArray, List.set_cons_zero, List.set_cons_succ]
        refine takeF (i := 20) (v := undef) rfl (by kernel_rfl) (by kernel_rfl) (by kernel_rfl) (fun _ _ _ h => h) (Or.inr ⟨by kernel_rfl, rfl⟩) hS ?_
        simp only [Act.put, List.setIfInBounds_toArray, List.set_cons_zero, List.set_cons_succ]
        refine takeF (i := 21) (v := undef) rfl (by kernel_rfl) (by kernel_rfl) (by kernel_rfl) (fun _ _ _ h => h) (Or.inr ⟨by kernel_rfl, rfl⟩) hS ?_
        simp only [Act.put, List.setIfInBounds_toArray, List.set_cons_zero, List.set_cons_succ]
        refine takeF (i := 22) (v := undef) rfl (by kernel_rfl) (by kernel_rfl) (by kernel_rfl) (fun _ _ _ h => h) (Or.inr ⟨by kernel_rfl, rfl⟩) hS ?_
        simp only [Act.put, List.setIfInBounds_toArray, List.set_cons_zero, List.set_cons_succ]
        refine takeF (i := 23) (v := undef) rfl (by kernel_rfl) (by kernel_rfl) (by kernel_rfl) (fun _ _ _ h => h) (Or.inr ⟨by kernel_rfl, rfl⟩) hS ?_
        simp only [Act.put, List.setIfInBounds_toArray, List.set_cons_zero, List.set_cons_succ]
        refine takeF (i := 24) (v := undef) rfl (by kernel_rfl) (by kernel_rfl) (by kernel_rfl) (fun _ _ _ h => h) (Or.inr ⟨by kernel_rfl, rfl⟩) hS ?_
        simp only [Act.put, List.setIfInBounds_toArray, List.set_cons_zero, List.set_cons_succ]
        refine takeF (i := 25) (v := undef) rfl (by kernel_rfl) (by kernel_rfl) (by kernel_rfl) (fun _ _ _ h => h) (Or.inr ⟨by kernel_rfl, rfl⟩) hS ?_
        simp only [Act.put, List.setIfInBounds_toArray, List.set_cons_zero, List.set_cons_succ]
        refine takeF (i := 26) (v := undef) rfl (by kernel_rfl) (by kernel_rfl) (by kernel_rfl) (fun _ _ _ h => h) (Or.inr ⟨by kernel_rfl, rfl⟩) hS ?_
        simp only [Act.put, List.setIfInBounds_toArray, List.set_cons_zero, List.set_cons_succ]
        refine takeF (i := 27) (v := ?vf0_27) rfl (by kernel_rfl) (by kernel_rfl) (by kernel_rfl) (fun _ _ _ h => h) (Or.inl ⟨by kernel_rfl, ?yf0_27⟩) hS ?_
        case yf0_27 =>
          intro w' hSw
          obtain ⟨h0, h1, h2, h3, h4, h5, h6, h7, h8, h9, h10, h11, h12, h13⟩ := hSw
          go_simp
          all_goals (with_reducible rfl)
        simp only [Act.put, List.setIfInBounds_toArray, List.set_cons_zero, List.set_cons_succ]
        refine takeF (i := 28) (v := _) rfl (by kernel_rfl) (by kernel_rfl) (by kernel_rfl) (fun _ _ _ h => h) (Or.inl ⟨by kernel_rfl, fun w' _ => exec_move (.inl rfl) rfl⟩) hS ?_
        simp only [Act.put, List.setIfInBounds_toArray, List.set_cons_zero, List.set_cons_succ]
        refine takeF (i := 29) (v := undef) rfl (by kernel_rfl) (by kernel_rfl) (by kernel_rfl) (fun _ _ _ h => h) (Or.inr ⟨by kernel_rfl, rfl⟩) hS ?_
        simp only [Act.put, List.setIfInBounds_toArray, List.set_cons_zero, List.set_cons_succ]
        refine takeF (i := 30) (v := undef) rfl (by kernel_rfl) (by kernel_rfl) (by kernel_rfl) (fun _ _ _ h => h) (Or.inr ⟨by kernel_rfl, rfl⟩) hS ?_
        simp only [Act.put, List.setIfInBounds_toArray, List.set_cons_zero, List.set_cons_succ]
        refine takeF (i := 31) (v := undef) rfl (by kernel_rfl) (by kernel_rfl) (by kernel_rfl) (fun _ _ _ h => h) (Or.inr ⟨by kernel_rfl, rfl⟩) hS ?_
        simp only [Act.put, List.setIfInBounds_toArray, List.set_cons_zero, List.set_cons_succ]
        refine takeF (i := 32) (v := undef) rfl (by kernel_rfl) (by kernel_rfl) (by kernel_rfl) (fun _ _ _ h => h) (Or.inr ⟨by kernel_rfl, rfl⟩) hS ?_
        simp only [Act.put, List.setIfInBounds_toArray, List.set_cons_zero, List.set_cons_succ]
        refine takeF (i := 33) (v := undef) rfl (by kernel_rfl) (by kernel_rfl) (by kernel_rfl) (fun _ _ _ h => h) (Or.inr ⟨by kernel_rfl, rfl⟩) hS ?_
        simp only [Act.put, List.setIfInBounds_toArray, List.set_cons_zero, List.set_cons_succ]
        refine takeF (i := 34) (v := undef) rfl (by kernel_rfl) (by kernel_rfl) (by kernel_rfl) (fun _ _ _ h => h) (Or.inr ⟨by kernel_rfl, rfl⟩) hS ?_
        simp only [Act.put, List.setIfInBounds_toArray, List.set_cons_zero, List.set_cons_succ]
        refine takeF (i := 35) (v := undef) rfl (by kernel_rfl) (by kernel_rfl) (by kernel_rfl) (fun _ _ _ h => h) (Or.inr ⟨by kernel_rfl, rfl⟩) hS ?_
        simp only [Act.put, List.setIfInBounds_toArray, List.set_cons_zero, List.set_cons_succ]
        refine takeF (i := 36) (v := undef) rfl (by kernel_rfl) (by kernel_rfl) (by kernel_rfl) (fun _ _ _ h => h) (Or.inr ⟨by kernel_rfl, rfl⟩) hS ?_
        simp only [Act.put, List.setIfInBounds_toArray, List.set_cons_zero, List.set_cons_succ]
        refine takeF (i := 37) (v := ?vf0_37) rfl (by kernel_rfl) (by kernel_rfl) (by kernel_rfl) (fun _ _ _ h => h) (Or.inl ⟨by kernel_rfl, ?yf0_37⟩) hS ?_
        case yf0_37 =>
          intro w' hSw
          obtain ⟨h0, h1, h2, h3, h4, h5, h6, h7, h8, h9, h10, h11, h12, h13⟩ := hSw
          go_simp
          all_goals (with_reducible rfl)
        simp only [Act.put, List.setIfInBounds_toArray, List.set_cons_zero, List.set_cons_succ]
        refine takeF (i := 38) (v := _) rfl (by kernel_rfl) (by kernel_rfl) (by kernel_rfl) (fun _ _ _ h => h) (Or.inl ⟨by kernel_rfl, fun w' _ => exec_move (.inr rfl) rfl⟩) hS ?_
        simp only [Act.put, List.setIfInBounds_toArray, List.set_cons_zero, List.set_cons_succ]
        refine wpAnyH_done (by kernel_rfl) ?_ _
        go_wp2_with fail
        go_ret
        exact ⟨false, rfl, HRES.out, HK.out.2.2.trans ((B0.out.trans (B.mono B0.out.size)).mono HK.out.2.2.size)⟩
      have n0 := Lib.hid hq
      obtain ⟨z0, hz0⟩ : ∃ z, cmpS sX s0 = z := ⟨_, rfl⟩
      have hn0 : ¬ z0 = 0 := fun h => hq ((HXX.out.2.2.1.symm.trans ((cmpS_worth sX s0).2.1 (hz0.trans h))).trans e0)
      clear hq
      have cm0 := ref5_CmpW (M := 16) (by omega) sX s0 HXX.out.1 (r0.wide (by omega)) z0 hz0 _ (HXX.out.2.1.on B) o0
      refine oneUp (i := 6) (by kernel_rfl) (step_enterS 32 rfl (.inl rfl) rfl (exec_call2 rfl rfl (by go_simp) rfl rfl) (cm0.mono ?_))
      rintro e vm0 ⟨rfl, b0'⟩
      replace B := B.trans (b0'.mono B.size)
      refine ⟨_, rfl, HSV.out _ B, ?_⟩
      replace hS := HSV.out _ B
      clear cm0 hz0 r0 o0 e0 b0 b0'
      simp only [Act.put, List.setIfInBounds_toArray, List.set_cons_zero, List.set_cons_succ]
      have HZ0 := Lib.hid (show (z0 != 0) = true from by simp [hn0])
      have HE0 := Lib.hid (show (z0 == 0) = false from by simp [hn0])
      refine takeF (i := 7) (v := ?vm7) rfl (by kernel_rfl) (by kernel_rfl) (by kernel_rfl) (fun _ _ _ h => h) (Or.inl ⟨by kernel_rfl, ?ym7⟩) hS ?_
      case ym7 =>
        intro w' hSw
        obtain ⟨h0, h1, h2, h3, h4, h5, h6, h7, h8, h9, h10, h11, h12, h13⟩ := hSw
        go_simp
        all_goals (with_reducible rfl)
      simp only [Act.put, List.setIfInBounds_toArray, List.set_cons_zero, List.set_cons_succ]
      first | simp only [HZ0.out] | simp only [HE0.out, Bool.not_false]
      refine takeF (i := 8) (v := _) rfl (by kernel_rfl) (by kernel_rfl) (by kernel_rfl) (fun _ _ _ h => h) (Or.inl ⟨by kernel_rfl, fun w' _ => exec_move (.inl rfl) rfl⟩) hS ?_
      simp only [Act.put, List.setIfInBounds_toArray, List.set_cons_zero, List.set_cons_succ]
      refine takeF (i := 9) (v := _) rfl (by kernel_rfl) (by kernel_rfl) (by kernel_rfl) (fun _ _ _ h => h) (Or.inl ⟨by kernel_rfl, fun w' _ => exec_move (.inl rfl) rfl⟩) hS ?_
      simp only [Act.put, List.setIfInBounds_toArray, List.set_cons_zero, List.set_cons_succ]
      refine takeF (i := 10) (v := ?vm10) rfl (by kernel_rfl) (by kernel_rfl) (by kernel_rfl) (fun _ _ _ h => h) (Or.inl ⟨by kernel_rfl, ?ym10⟩) hS ?_
      case ym10 =>
        intro w' hSw
        obtain ⟨h0, h1, h2, h3, h4, h5, h6, h7, h8, h9, h10, h11, h12, h13⟩ := hSw
        go_simp
        all_goals (with_reducible rfl)
      simp only [Act.put, List.setIfInBounds_toArray, List.set_cons_zero, List.set_cons_succ]
      refine takeF (i := 11) (v := ?vm11) rfl (by kernel_rfl) (by kernel_rfl) (by kernel_rfl) (fun _ _ _ h => h) (Or.inl ⟨by kernel_rfl, ?ym11⟩) hS ?_
      case ym11 =>
        intro w' hSw
        obtain ⟨h0, h1, h2, h3, h4, h5, h6, h7, h8, h9, h10, h11, h12, h13⟩ := hSw
        go_simp
        all_goals (with_reducible rfl)
      simp only [Act.put, List.setIfInBounds_toArray, List.set_cons_zero, List.set_cons_succ]
      refine takeF (i := 12) (v := ?vm12) rfl (by kernel_rfl) (by kernel_rfl) (by kernel_rfl) (fun _ _ _ h => h) (Or.inl ⟨by kernel_rfl, ?ym12⟩) hS ?_
      case ym12 =>
        intro w' hSw
        obtain ⟨h0, h1, h2, h3, h4, h5, h6, h7, h8, h9, h10, h11, h12, h13⟩ := hSw
        go_simp
        all_goals (with_reducible rfl)
      simp only [Act.put, List.setIfInBounds_toArray, List.set_cons_zero, List.set_cons_succ]
      refine takeF (i := 13) (v := ?vm13) rfl (by kernel_rfl) (by kernel_rfl) (by kernel_rfl) (fun _ _ _ h => h) (Or.inl ⟨by kernel_rfl, ?ym13⟩) hS ?_
      case ym13 =>
        intro w' hSw
        obtain ⟨h0, h1, h2, h3, h4, h5, h6, h7, h8, h9, h10, h11, h12, h13⟩ := hSw
        go_simp
        all_goals (with_reducible rfl)
      simp only [Act.put, List.setIfInBounds_toArray, List.set_cons_zero, List.set_cons_succ]
      refine oneUp (i := 14) (by kernel_rfl) (step_enterS 40 rfl (.inr (by kernel_rfl)) rfl (exec_call1 rfl rfl (by go_simp) rfl) ((HAb.out _).mono ?_))
      rintro e um1 ⟨s1, rfl, r1, o1, e1, b1⟩
      replace B := B.trans (b1.mono B.size)
      refine ⟨_, rfl, HSV.out _ B, ?_⟩
      replace hS := HSV.out _ B
      simp only [Act.put, List.setIfInBounds_toArray, List.set_cons_zero, List.set_cons_succ]
      by_cases hq : x = qAt b
      · have HRES := Lib.hid (show (false = true ↔ Fit4 a b c d ∧ PartsG a b c d ∧ PartsG c d a b) from by rw [HTH.out]; exact ⟨fun h => (by cases h), fun h => absurd hq h.2.2.2.1⟩)
        have hz1 : cmpS sX s1 = 0 := (cmpS_worth sX s1).2.2 (HXX.out.2.2.1.trans (hq.trans e1.symm))
        clear hq
        have cm1 := ref5_CmpW (M := 16) (by omega) sX s1 HXX.out.1 (r1.wide (by omega)) 0 hz1 _ (HXX.out.2.1.on B) o1
        refine oneUp (i := 15) (by kernel_rfl) (step_enterS 41 rfl (.inr (by kernel_rfl)) rfl (exec_call2 rfl rfl (by go_simp) rfl rfl) (cm1.mono ?_))
        rintro e vf1_1 ⟨rfl, b1'⟩
        replace B := B.trans (b1'.mono B.size)
        refine ⟨_, rfl, HSV.out _ B, ?_⟩
        replace hS := HSV.out _ B
        clear cm1 hz1 r1 o1 e1 b1 b1'
        simp only [Act.put, List.setIfInBounds_toArray, List.set_cons_zero, List.set_cons_succ]
        refine takeF (i := 16) (v := ?vf1_16) rfl (by kernel_rfl) (by kernel_rfl) (by kernel_rfl) (fun _ _ _ h => h) (Or.inl ⟨by kernel_rfl, ?yf1_16⟩) hS ?_
        case yf1_16 =>
          intro w' hSw
          obtain ⟨h0, h1, h2, h3, h4, h5, h6, h7, h8, h9, h10, h11, h12, h13⟩ := hSw
          go_simp
          all_goals (with_reducible rfl)
        simp only [Act.put, List.setIfInBounds_toArray, List.set_cons_zero, List.set_cons_succ]
        refine takeF (i := 17) (v := ?vf1_17) rfl (by kernel_rfl) (by kernel_rfl) (by kernel_rfl) (fun _ _ _ h => h) (Or.inl ⟨by kernel_rfl, ?yf1_17⟩) hS ?_
        case yf1_17 =>
          intro w' hSw
          obtain ⟨h0, h1, h2, h3, h4, h5, h6, h7, h8, h9, h10, h11, h12, h13⟩ := hSw
          go_simp
          all_goals (with_reducible rfl)
        simp only [Act.put, List.setIfInBounds_toArray, List.set_cons_zero, List.set_cons_succ]
        refine takeF (i := 18) (v := _) rfl (by kernel_rfl) (by kernel_rfl) (by kernel_rfl) (fun _ _ _ h => h) (Or.inl ⟨by kernel_rfl, fun w' _ => exec_move (.inl rfl) rfl⟩) hS ?_
        simp only [Act.put, List.setIfInBounds_toArray, List.set_cons_zero, List.set_cons_succ]
        refine takeF (i := 19) (v := undef) rfl (by kernel_rfl) (by kernel_rfl) (by kernel_rfl) (fun _ _ _ h => h) (Or.inr ⟨by kernel_rfl, rfl⟩) hS ?_
        simp only [Act.put, List.setIfInBounds_toArray, List.set_cons_zero, List.set_cons_succ]
        refine takeF (i := 20) (v := undef) rfl (by kernel_rfl) (by kernel_rfl) (by kernel_rfl) (fun _ _ _ h => h) (Or.inr ⟨by kernel_rfl, rfl⟩) hS ?_
        simp only [Act.put, List.setIfInBounds_toArray, List.set_cons_zero, List.set_cons_succ]
        refine takeF (i := 21) (v := undef) rfl (by kernel_rfl) (by kernel_rfl) (by kernel_rfl) (fun _ _ _ h => h) (Or.inr ⟨by kernel_rfl, rfl⟩) hS ?_
        simp only [Act.put, List.setIfInBounds_toArray, List.set_cons_zero, List.set_cons_succ]
        refine takeF (i := 22) (v := undef) rfl (by kernel_rfl) (by kernel_rfl) (by kernel_rfl) (fun _ _ _ h => h) (Or.inr ⟨by kernel_rfl, rfl⟩) hS ?_
        simp only [Act.put, List.setIfInBounds_toArray, List.set_cons_zero, List.set_cons_succ]
        refine takeF (i := 23) (v := undef) rfl (by kernel_rfl) (by kernel_rfl) (by kernel_rfl) (fun _ _ _ h => h) (Or.inr ⟨by kernel_rfl, rfl⟩) hS ?_
        simp only [Act.put, List.setIfInBounds_toArray, List.set_cons_zero, List.set_cons_succ]
        refine takeF (i := 24) (v := undef) rfl (by kernel_rfl) (by kernel_rfl) (by kernel_rfl) (fun _ _ _ h => h) (Or.inr ⟨by kernel_rfl, rfl⟩) hS ?_
        simp only [Act.put, List.setIfInBounds_toArray, List.set_cons_zero, List.set_cons_succ]
        refine takeF (i := 25) (v := undef) rfl (by kernel_rfl) (by kernel_rfl) (by kernel_rfl) (fun _ _ _ h => h) (Or.inr ⟨by kernel_rfl, rfl⟩) hS ?_
        simp only [Act.put, List.setIfInBounds_toArray, List.set_cons_zero, List.set_cons_succ]
        refine takeF (i := 26) (v := undef) rfl (by kernel_rfl) (by kernel_rfl) (by kernel_rfl) (fun _ _ _ h => h) (Or.inr ⟨by kernel_rfl, rfl⟩) hS ?_
        simp only [Act.put, List.setIfInBounds_toArray, List.set_cons_zero, List.set_cons_succ]
        refine takeF (i := 27) (v := ?vf1_27) rfl (by kernel_rfl) (by kernel_rfl) (by kernel_rfl) (fun _ _ _ h => h) (Or.inl ⟨by kernel_rfl, ?yf1_27⟩) hS ?_
        case yf1_27 =>
          intro w' hSw
          obtain ⟨h0, h1, h2, h3, h4, h5, h6, h7, h8, h9, h10, h11, h12, h13⟩ := hSw
          go_simp
          all_goals (with_reducible rfl)
        simp only [Act.put, List.setIfInBounds_toArray, List.set_cons_zero, List.set_cons_succ]
        refine takeF (i := 28) (v := _) rfl (by kernel_rfl) (by kernel_rfl) (by kernel_rfl) (fun _ _ _ h => h) (Or.inl ⟨by kernel_rfl, fun w' _ => exec_move (.inl rfl) rfl⟩) hS ?_
        simp only [Act.put, List.setIfInBounds_toArray, List.set_cons_zero, List.set_cons_succ]
        refine takeF (i := 29) (v := undef) rfl (by kernel_rfl) (by kernel_rfl) (by kernel_rfl) (fun _ _ _ h => h) (Or.inr ⟨by kernel_rfl, rfl⟩) hS ?_
        simp only [Act.put, List.setIfInBounds_toArray, List.set_cons_zero, List.set_cons_succ]
        refine takeF (i := 30) (v := undef) rfl (by kernel_rfl) (by kernel_rfl) (by kernel_rfl) (fun _ _ _ h => h) (Or.inr ⟨by kernel_rfl, rfl⟩) hS ?_
        simp only [Act.put, List.setIfInBounds_toArray, List.set_cons_zero, List.set_cons_succ]
        refine takeF (i := 31) (v := undef) rfl (by kernel_rfl) (by kernel_rfl) (by kernel_rfl) (fun _ _ _ h => h) (Or.inr ⟨by kernel_rfl, rfl⟩) hS ?_
        simp only [Act.put, List.setIfInBounds_toArray, List.set_cons_zero, List.set_cons_succ]
        refine takeF (i := 32) (v := undef) rfl (by kernel_rfl) (by kernel_rfl) (by kernel_rfl) (fun _ _ _ h => h) (Or.inr ⟨by kernel_rfl, rfl⟩) hS ?_
        simp only [Act.put, List.setIfInBounds_toArray, List.set_cons_zero, List.set_cons_succ]
        refine takeF (i := 33) (v := undef) rfl (by kernel_rfl) (by kernel_rfl) (by kernel_rfl) (fun _ _ _ h => h) (Or.inr ⟨by kernel_rfl, rfl⟩) hS ?_
        simp only [Act.put, List.setIfInBounds_toArray, List.set_cons_zero, List.set_cons_succ]
        refine takeF (i := 34) (v := undef) rfl (by kernel_rfl) (by kernel_rfl) (by kernel_rfl) (fun _ _ _ h => h) (Or.inr ⟨by kernel_rfl, rfl⟩) hS ?_
        simp only [Act.put, List.setIfInBounds_toArray, List.set_cons_zero, List.set_cons_succ]
        refine takeF (i := 35) (v := undef) rfl (by kernel_rfl) (by kernel_rfl) (by kernel_rfl) (fun _ _ _ h => h) (Or.inr ⟨by kernel_rfl, rfl⟩) hS ?_
        simp only [Act.put, List.setIfInBounds_toArray, List.set_cons_zero, List.set_cons_succ]
        refine takeF (i := 36) (v := undef) rfl (by kernel_rfl) (by kernel_rfl) (by kernel_rfl) (fun _ _ _ h => h) (Or.inr ⟨by kernel_rfl, rfl⟩) hS ?_
        simp only [Act.put, List.setIfInBounds_toArray, List.set_cons_zero, List.set_cons_succ]
        refine takeF (i := 37) (v := ?vf1_37) rfl (by kernel_rfl) (by kernel_rfl) (by kernel_rfl) (fun _ _ _ h => h) (Or.inl ⟨by kernel_rfl, ?yf1_37⟩) hS ?_
        case yf1_37 =>
          intro w' hSw
          obtain ⟨h0, h1, h2, h3, h4, h5, h6, h7, h8, h9, h10, h11, h12, h13⟩ := hSw
          go_simp
          all_goals (with_reducible rfl)
        simp only [Act.put, List.setIfInBounds_toArray, List.set_cons_zero, List.set_cons_succ]
        refine takeF (i := 38) (v := _) rfl (by kernel_rfl) (by kernel_rfl) (by kernel_rfl) (fun _ _ _ h => h) (Or.inl ⟨by kernel_rfl, fun w' _ => exec_move (.inr rfl) rfl⟩) hS ?_
        simp only [Act.put, List.setIfInBounds_toArray, List.set_cons_zero, List.set_cons_succ]
        refine wpAnyH_done (by kernel_rfl) ?_ _
        go_wp2_with fail
        go_ret
        exact ⟨false, rfl, HRES.out, HK.out.2.2.trans ((B0.out.trans (B.mono B0.out.size)).mono HK.out.2.2.size)⟩
      have n1 := Lib.hid hq
      obtain ⟨z1, hz1⟩ : ∃ z, cmpS sX s1 = z := ⟨_, rfl⟩
      have hn1 : ¬ z1 = 0 := fun h => hq ((HXX.out.2.2.1.symm.trans ((cmpS_worth sX s1).2.1 (hz1.trans h))).trans e1)
      clear hq
      have cm1 := ref5_CmpW (M := 16) (by omega) sX s1 HXX.out.1 (r1.wide (by omega)) z1 hz1 _ (HXX.out.2.1.on B) o1
      refine oneUp (i := 15) (by kernel_rfl) (step_enterS 41 rfl (.inr (by kernel_rfl)) rfl (exec_call2 rfl rfl (by go_simp) rfl rfl) (cm1.mono ?_))
      rintro e vm1 ⟨rfl, b1'⟩
      replace B := B.trans (b1'.mono B.size)
      refine ⟨_, rfl, HSV.out _ B, ?_⟩
      replace hS := HSV.out _ B
      clear cm1 hz1 r1 o1 e1 b1 b1'
      simp only [Act.put, List.setIfInBounds_toArray, List.set_cons_zero, List.set_cons_succ]
      have HZ1 := Lib.hid (show (z1 != 0) = true from by simp [hn1])
      have HE1 := Lib.hid (show (z1 == 0) = false from by simp [hn1])
      refine takeF (i := 16) (v := ?vm16) rfl (by kernel_rfl) (by kernel_rfl) (by kernel_rfl) (fun _ _ _ h => h) (Or.inl ⟨by kernel_rfl, ?ym16⟩) hS ?_
      case ym16 =>
        intro w' hSw
        obtain ⟨h0, h1, h2, h3, h4, h5, h6, h7, h8, h9, h10, h11, h12, h13⟩ := hSw
        go_simp
        all_goals (with_reducible rfl)
      simp only [Act.put, List.setIfInBounds_toArray, List.set_cons_zero, List.set_cons_succ]
      first | simp only [HZ1.out] | simp only [HE1.out, Bool.not_false]
      refine takeF (i := 17) (v := ?vm17) rfl (by kernel_rfl) (by kernel_rfl) (by kernel_rfl) (fun _ _ _ h => h) (Or.inl ⟨by kernel_rfl, ?ym17⟩) hS ?_
      case ym17 =>
        intro w' hSw
        obtain ⟨h0, h1, h2, h3, h4, h5, h6, h7, h8, h9, h10, h11, h12, h13⟩ := hSw
        go_simp
        all_goals (with_reducible rfl)
      simp only [Act.put, List.setIfInBounds_toArray, List.set_cons_zero, List.set_cons_succ]
      refine takeF (i := 18) (v := _) rfl (by kernel_rfl) (by kernel_rfl) (by kernel_rfl) (fun _ _ _ h => h) (Or.inl ⟨by kernel_rfl, fun w' _ => exec_move (.inl rfl) rfl⟩) hS ?_
      simp only [Act.put, List.setIfInBounds_toArray, List.set_cons_zero, List.set_cons_succ]
      refine takeF (i := 19) (v := _) rfl (by kernel_rfl) (by kernel_rfl) (by kernel_rfl) (fun _ _ _ h => h) (Or.inl ⟨by kernel_rfl, fun w' _ => exec_move (.inl rfl) rfl⟩) hS ?_
      simp only [Act.put, List.setIfInBounds_toArray, List.set_cons_zero, List.set_cons_succ]
      refine takeF (i := 20) (v := ?vm20) rfl (by kernel_rfl) (by kernel_rfl) (by kernel_rfl) (fun _ _ _ h => h) (Or.inl ⟨by kernel_rfl, ?ym20⟩) hS ?_
      case ym20 =>
        intro w' hSw
        obtain ⟨h0, h1, h2, h3, h4, h5, h6, h7, h8, h9, h10, h11, h12, h13⟩ := hSw
        go_simp
        all_goals (with_reducible rfl)
      simp only [Act.put, List.setIfInBounds_toArray, List.set_cons_zero, List.set_cons_succ]
      refine takeF (i := 21) (v := ?vm21) rfl (by kernel_rfl) (by kernel_rfl) (by kernel_rfl) (fun _ _ _ h => h) (Or.inl ⟨by kernel_rfl, ?ym21⟩) hS ?_
      case ym21 =>
        intro w' hSw
        obtain ⟨h0, h1, h2, h3, h4, h5, h6, h7, h8, h9, h10, h11, h12, h13⟩ := hSw
        go_simp
        all_goals (with_reducible rfl)
      simp only [Act.put, List.setIfInBounds_toArray, List.set_cons_zero, List.set_cons_succ]
      refine takeF (i := 22) (v := ?vm22) rfl (by kernel_rfl) (by kernel_rfl) (by kernel_rfl) (fun _ _ _ h => h) (Or.inl ⟨by kernel_rfl, ?ym22⟩) hS ?_
      case ym22 =>
        intro w' hSw
        obtain ⟨h0, h1, h2, h3, h4, h5, h6, h7, h8, h9, h10, h11, h12, h13⟩ := hSw
        go_simp
        all_goals (with_reducible rfl)
      simp only [Act.put, List.setIfInBounds_toArray, List.set_cons_zero, List.set_cons_succ]
      refine takeF (i := 23) (v := ?vm23) rfl (by kernel_rfl) (by kernel_rfl) (by kernel_rfl) (fun _ _ _ h => h) (Or.inl ⟨by kernel_rfl, ?ym23⟩) hS ?_
      case ym23 =>
        intro w' hSw
        obtain ⟨h0, h1, h2, h3, h4, h5, h6, h7, h8, h9, h10, h11, h12, h13⟩ := hSw
        go_simp
        all_goals (with_reducible rfl)
      simp only [Act.put, List.setIfInBounds_toArray, List.set_cons_zero, List.set_cons_succ]
      refine oneUp (i := 24) (by kernel_rfl) (step_enterS 50 rfl (.inr (by kernel_rfl)) rfl (exec_call1 rfl rfl (by go_simp) rfl) ((HAc.out _).mono ?_))
      rintro e um2 ⟨s2, rfl, r2, o2, e2, b2⟩
      replace B := B.trans (b2.mono B.size)
      refine ⟨_, rfl, HSV.out _ B, ?_⟩
      replace hS := HSV.out _ B
      simp only [Act.put, List.setIfInBounds_toArray, List.set_cons_zero, List.set_cons_succ]
      by_cases hq : x = qAt c
      · have HRES := Lib.hid (show (false = true ↔ Fit4 a b c d ∧ PartsG a b c d ∧ PartsG c d a b) from by rw [HTH.out]; exact ⟨fun h => (by cases h), fun h => absurd hq h.2.2.2.2.1⟩)
        have hz2 : cmpS sX s2 = 0 := (cmpS_worth sX s2).2.2 (HXX.out.2.2.1.trans (hq.trans e2.symm))
        clear hq
        have cm2 := ref5_CmpW (M := 16) (by omega) sX s2 HXX.out.1 (r2.wide (by omega)) 0 hz2 _ (HXX.out.2.1.on B) o2
        refine oneUp (i := 25) (by kernel_rfl) (step_enterS 51 rfl (.inr (by kernel_rfl)) rfl (exec_call2 rfl rfl (by go_simp) rfl rfl) (cm2.mono ?_))
        rintro e vf2_2 ⟨rfl, b2'⟩
        replace B := B.trans (b2'.mono B.size)
        refine ⟨_, rfl, HSV.out _ B, ?_⟩
        replace hS := HSV.out _ B
        clear cm2 hz2 r2 o2 e2 b2 b2'
        simp only [Act.put, List.setIfInBounds_toArray, List.set_cons_zero, List.set_cons_succ]
        refine takeF (i := 26) (v := ?vf2_26) rfl (by kernel_rfl) (by kernel_rfl) (by kernel_rfl) (fun _ _ _ h => h) (Or.inl ⟨by kernel_rfl, ?yf2_26⟩) hS ?_
        case yf2_26 =>
          intro w' hSw
          obtain ⟨h0, h1, h2, h3, h4, h5, h6, h7, h8, h9, h10, h11, h12, h13⟩ := hSw
          go_simp
          all_goals (with_reducible rfl)
        simp only [Act.put, List.setIfInBounds_toArray, List.set_cons_zero, List.set_cons_succ]
        refine takeF (i := 27) (v := ?vf2_27) rfl (by kernel_rfl) (by kernel_rfl) (by kernel_rfl) (fun _ _ _ h => h) (Or.inl ⟨by kernel_rfl, ?yf2_27⟩) hS ?_
        case yf2_27 =>
          intro w' hSw
          obtain ⟨h0, h1, h2, h3, h4, h5, h6, h7, h8, h9, h10, h11, h12, h13⟩ := hSw
          go_simp
          all_goals (with_reducible rfl)
        simp only [Act.put, List.setIfInBounds_toArray, List.set_cons_zero, List.set_cons_succ]
        refine takeF (i := 28) (v := _) rfl (by kernel_rfl) (by kernel_rfl) (by kernel_rfl) (fun _ _ _ h => h) (Or.inl ⟨by kernel_rfl, fun w' _ => exec_move (.inl rfl) rfl⟩) hS ?_
        simp only [Act.put, List.setIfInBounds_toArray, List.set_cons_zero, List.set_cons_succ]
        refine takeF (i := 29) (v := undef) rfl (by kernel_rfl) (by kernel_rfl) (by kernel_rfl) (fun _ _ _ h => h) (Or.inr ⟨by kernel_rfl, rfl⟩) hS ?_
        simp only [Act.put, List.setIfInBounds_toArray, List.set_cons_zero, List.set_cons_succ]
        refine takeF (i := 30) (v := undef) rfl (by kernel_rfl) (by kernel_rfl) (by kernel_rfl) (fun _ _ _ h => h) (Or.inr ⟨by kernel_rfl, rfl⟩) hS ?_
        simp only [Act.put, List.setIfInBounds_toArray, List.set_cons_zero, List.set_cons_succ]
        refine takeF (i := 31) (v := undef) rfl (by kernel_rfl) (by kernel_rfl) (by kernel_rfl) (fun _ _ _ h => h) (Or.inr ⟨by kernel_rfl, rfl⟩) hS ?_
        simp only [Act.put, List.setIfInBounds_toArray, List.set_cons_zero, List.set_cons_succ]
        refine takeF (i := 32) (v := undef) rfl (by kernel_rfl) (by kernel_rfl) (by kernel_rfl) (fun _ _ _ h => h) (Or.inr ⟨by kernel_rfl, rfl⟩) hS ?_
        simp only [Act.put, List.setIfInBounds_toArray, List.set_cons_zero, List.set_cons_succ]
        refine takeF (i := 33) (v := undef) rfl (by kernel_rfl) (by kernel_rfl) (by kernel_rfl) (fun _ _ _ h => h) (Or.inr ⟨by kernel_rfl, rfl⟩) hS ?_
        simp only [Act.put, List.setIfInBounds_toArray, List.set_cons_zero, List.set_cons_succ]
        refine takeF (i := 34) (v := undef) rfl (by kernel_rfl) (by kernel_rfl) (by kernel_rfl) (fun _ _ _ h => h) (Or.inr ⟨by kernel_rfl, rfl⟩) hS ?_
        simp only [Act.put, List.setIfInBounds_toArray, List.set_cons_zero, List.set_cons_succ]
        refine takeF (i := 35) (v := undef) rfl (by kernel_rfl) (by kernel_rfl) (by kernel_rfl) (fun _ _ _ h => h) (Or.inr ⟨by kernel_rfl, rfl⟩) hS ?_
        simp only [Act.put, List.setIfInBounds_toArray, List.set_cons_zero, List.set_cons_succ]
        refine takeF (i := 36) (v := undef) rfl (by kernel_rfl) (by kernel_rfl) (by kernel_rfl) (fun _ _ _ h => h) (Or.inr ⟨by kernel_rfl, rfl⟩) hS ?_
        simp only [Act.put, List.setIfInBounds_toArray, List.set_cons_zero, List.set_cons_succ]
        refine takeF (i := 37) (v := ?vf2_37) rfl (by kernel_rfl) (by kernel_rfl) (by kernel_rfl) (fun _ _ _ h => h) (Or.inl ⟨by kernel_rfl, ?yf2_37⟩) hS ?_
        case yf2_37 =>
          intro w' hSw
          obtain ⟨h0, h1, h2, h3, h4, h5, h6, h7, h8, h9, h10, h11, h12, h13⟩ := hSw
          go_simp
          all_goals (with_reducible rfl)
        simp only [Act.put, List.setIfInBounds_toArray, List.set_cons_zero, List.set_cons_succ]
        refine takeF (i := 38) (v := _) rfl (by kernel_rfl) (by kernel_rfl) (by kernel_rfl) (fun _ _ _ h => h) (Or.inl ⟨by kernel_rfl, fun w' _ => exec_move (.inr rfl) rfl⟩) hS ?_
        simp only [Act.put, List.setIfInBounds_toArray, List.set_cons_zero, List.set_cons_succ]
        refine wpAnyH_done (by kernel_rfl) ?_ _
        go_wp2_with fail
        go_ret
        exact ⟨false, rfl, HRES.out, HK.out.2.2.trans ((B0.out.trans (B.mono B0.out.size)).mono HK.out.2.2.size)⟩
      have n2 := Lib.hid hq
      obtain ⟨z2, hz2⟩ : ∃ z, cmpS sX s2 = z := ⟨_, rfl⟩
      have hn2 : ¬ z2 = 0 := fun h => hq ((HXX.out.2.2.1.symm.trans ((cmpS_worth sX s2).2.1 (hz2.trans h))).trans e2)
      clear hq
      have cm2 := ref5_CmpW (M := 16) (by omega) sX s2 HXX.out.1 (r2.wide (by omega)) z2 hz2 _ (HXX.out.2.1.on B) o2
      refine oneUp (i := 25) (by kernel_rfl) (step_enterS 51 rfl (.inr (by kernel_rfl)) rfl (exec_call2 rfl rfl (by go_simp) rfl rfl) (cm2.mono ?_))
      rintro e vm2 ⟨rfl, b2'⟩
      replace B := B.trans (b2'.mono B.size)
      refine ⟨_, rfl, HSV.out _ B, ?_⟩
      replace hS := HSV.out _ B
      clear cm2 hz2 r2 o2 e2 b2 b2'
      simp only [Act.put, List.setIfInBounds_toArray, List.set_cons_zero, List.set_cons_succ]
      have HZ2 := Lib.hid (show (z2 != 0) = true from by simp [hn2])
      have HE2 := Lib.hid (show (z2 == 0) = false from by simp [hn2])
      refine takeF (i := 26) (v := ?vm26) rfl (by kernel_rfl) (by kernel_rfl) (by kernel_rfl) (fun _ _ _ h => h) (Or.inl ⟨by kernel_rfl, ?ym26⟩) hS ?_
      case ym26 =>
        intro w' hSw
        obtain ⟨h0, h1, h2, h3, h4, h5, h6, h7, h8, h9, h10, h11, h12, h13⟩ := hSw
        go_simp
        all_goals (with_reducible rfl)
      simp only [Act.put, List.setIfInBounds_toArray, List.set_cons_zero, List.set_cons_succ]
      first | simp only [HZ2.out] | simp only [HE2.out, Bool.not_false]
      refine takeF (i := 27) (v := ?vm27) rfl (by kernel_rfl) (by kernel_rfl) (by kernel_rfl) (fun _ _ _ h => h) (Or.inl ⟨by kernel_rfl, ?ym27⟩) hS ?_
      case ym27 =>
        intro w' hSw
        obtain ⟨h0, h1, h2, h3, h4, h5, h6, h7, h8, h9, h10, h11, h12, h13⟩ := hSw
        go_simp
        all_goals (with_reducible rfl)
      simp only [Act.put, List.setIfInBounds_toArray, List.set_cons_zero, List.set_cons_succ]
      refine takeF (i := 28) (v := _) rfl (by kernel_rfl) (by kernel_rfl) (by kernel_rfl) (fun _ _ _ h => h) (Or.inl ⟨by kernel_rfl, fun w' _ => exec_move (.inl rfl) rfl⟩) hS ?_
      simp only [Act.put, List.setIfInBounds_toArray, List.set_cons_zero, List.set_cons_succ]
      refine takeF (i := 29) (v := _) rfl (by kernel_rfl) (by kernel_rfl) (by kernel_rfl) (fun _ _ _ h => h) (Or.inl ⟨by kernel_rfl, fun w' _ => exec_move (.inl rfl) rfl⟩) hS ?_
      simp only [Act.put, List.setIfInBounds_toArray, List.set_cons_zero, List.set_cons_succ]
      refine takeF (i := 30) (v := ?vm30) rfl (by kernel_rfl) (by kernel_rfl) (by kernel_rfl) (fun _ _ _ h => h) (Or.inl ⟨by kernel_rfl, ?ym30⟩) hS ?_
      case ym30 =>
        intro w' hSw
        obtain ⟨h0, h1, h2, h3, h4, h5, h6, h7, h8, h9, h10, h11, h12, h13⟩ := hSw
        go_simp
        all_goals (with_reducible rfl)
      simp only [Act.put, List.setIfInBounds_toArray, List.set_cons_zero, List.set_cons_succ]
      refine takeF (i := 31) (v := ?vm31) rfl (by kernel_rfl) (by kernel_rfl) (by kernel_rfl) (fun _ _ _ h => h) (Or.inl ⟨by kernel_rfl, ?ym31⟩) hS ?_
      case ym31 =>
        intro w' hSw
        obtain ⟨h0, h1, h2, h3, h4, h5, h6, h7, h8, h9, h10, h11, h12, h13⟩ := hSw
        go_simp
        all_goals (with_reducible rfl)
      simp only [Act.put, List.setIfInBounds_toArray, List.set_cons_zero, List.set_cons_succ]
      refine takeF (i := 32) (v := ?vm32) rfl (by kernel_rfl) (by kernel_rfl) (by kernel_rfl) (fun _ _ _ h => h) (Or.inl ⟨by kernel_rfl, ?ym32⟩) hS ?_
      case ym32 =>
        intro w' hSw
        obtain ⟨h0, h1, h2, h3, h4, h5, h6, h7, h8, h9, h10, h11, h12, h13⟩ := hSw
        go_simp
        all_goals (with_reducible rfl)
      simp only [Act.put, List.setIfInBounds_toArray, List.set_cons_zero, List.set_cons_succ]
      refine takeF (i := 33) (v := ?vm33) rfl (by kernel_rfl) (by kernel_rfl) (by kernel_rfl) (fun _ _ _ h => h) (Or.inl ⟨by kernel_rfl, ?ym33⟩) hS ?_
      case ym33 =>
        intro w' hSw
        obtain ⟨h0, h1, h2, h3, h4, h5, h6, h7, h8, h9, h10, h11, h12, h13⟩ := hSw
        go_simp
        all_goals (with_reducible rfl)
      simp only [Act.put, List.setIfInBounds_toArray, List.set_cons_zero, List.set_cons_succ]
      refine oneUp (i := 34) (by kernel_rfl) (step_enterS 60 rfl (.inr (by kernel_rfl)) rfl (exec_call1 rfl rfl (by go_simp) rfl) ((HAd.out _).mono ?_))
      rintro e um3 ⟨s3, rfl, r3, o3, e3, b3⟩
      replace B := B.trans (b3.mono B.size)
      refine ⟨_, rfl, HSV.out _ B, ?_⟩
      replace hS := HSV.out _ B
      simp only [Act.put, List.setIfInBounds_toArray, List.set_cons_zero, List.set_cons_succ]
      by_cases hq : x = qAt d
      · have HRES := Lib.hid (show (false = true ↔ Fit4 a b c d ∧ PartsG a b c d ∧ PartsG c d a b) from by rw [HTH.out]; exact ⟨fun h => (by cases h), fun h => absurd hq h.2.2.2.2.2⟩)
        have hz3 : cmpS sX s3 = 0 := (cmpS_worth sX s3).2.2 (HXX.out.2.2.1.trans (hq.trans e3.symm))
        clear hq
        have cm3 := ref5_CmpW (M := 16) (by omega) sX s3 HXX.out.1 (r3.wide (by omega)) 0 hz3 _ (HXX.out.2.1.on B) o3
        refine oneUp (i := 35) (by kernel_rfl) (step_enterS 61 rfl (.inr (by kernel_rfl)) rfl (exec_call2 rfl rfl (by go_simp) rfl rfl) (cm3.mono ?_))
        rintro e vf3_3 ⟨rfl, b3'⟩
        replace B := B.trans (b3'.mono B.size)
        refine ⟨_, rfl, HSV.out _ B, ?_⟩
        replace hS := HSV.out _ B
        clear cm3 hz3 r3 o3 e3 b3 b3'
        simp only [Act.put, List.setIfInBounds_toArray, List.set_cons_zero, List.set_cons_succ]
        refine takeF (i := 36) (v := ?vf3_36) rfl (by kernel_rfl) (by kernel_rfl) (by kernel_rfl) (fun _ _ _ h => h) (Or.inl ⟨by kernel_rfl, ?yf3_36⟩) hS ?_
        case yf3_36 =>
          intro w' hSw
          obtain ⟨h0, h1, h2, h3, h4, h5, h6, h7, h8, h9, h10, h11, h12, h13⟩ := hSw
          go_simp
          all_goals (with_reducible rfl)
        simp only [Act.put, List.setIfInBounds_toArray, List.set_cons_zero, List.set_cons_succ]
        refine takeF (i := 37) (v := ?vf3_37) rfl (by kernel_rfl) (by kernel_rfl) (by kernel_rfl) (fun _ _ _ h => h) (Or.inl ⟨by kernel_rfl, ?yf3_37⟩) hS ?_
        case yf3_37 =>
          intro w' hSw
          obtain ⟨h0, h1, h2, h3, h4, h5, h6, h7, h8, h9, h10, h11, h12, h13⟩ := hSw
          go_simp
          all_goals (with_reducible rfl)
        simp only [Act.put, List.setIfInBounds_toArray, List.set_cons_zero, List.set_cons_succ]
        refine takeF (i := 38) (v := _) rfl (by kernel_rfl) (by kernel_rfl) (by kernel_rfl) (fun _ _ _ h => h) (Or.inl ⟨by kernel_rfl, fun w' _ => exec_move (.inr rfl) rfl⟩) hS ?_
        simp only [Act.put, List.setIfInBounds_toArray, List.set_cons_zero, List.set_cons_succ]
        refine wpAnyH_done (by kernel_rfl) ?_ _
        go_wp2_with fail
        go_ret
        exact ⟨false, rfl, HRES.out, HK.out.2.2.trans ((B0.out.trans (B.mono B0.out.size)).mono HK.out.2.2.size)⟩
      have n3 := Lib.hid hq
      obtain ⟨z3, hz3⟩ : ∃ z, cmpS sX s3 = z := ⟨_, rfl⟩
      have hn3 : ¬ z3 = 0 := fun h => hq ((HXX.out.2.2.1.symm.trans ((cmpS_worth sX s3).2.1 (hz3.trans h))).trans e3)
      clear hq
      have cm3 := ref5_CmpW (M := 16) (by omega) sX s3 HXX.out.1 (r3.wide (by omega)) z3 hz3 _ (HXX.out.2.1.on B) o3
      refine oneUp (i := 35) (by kernel_rfl) (step_enterS 61 rfl (.inr (by kernel_rfl)) rfl (exec_call2 rfl rfl (by go_simp) rfl rfl) (cm3.mono ?_))
      rintro e vm3 ⟨rfl, b3'⟩
      replace B := B.trans (b3'.mono B.size)
      refine ⟨_, rfl, HSV.out _ B, ?_⟩
      replace hS := HSV.out _ B
      clear cm3 hz3 r3 o3 e3 b3 b3'
      simp only [Act.put, List.setIfInBounds_toArray, List.set_cons_zero, List.set_cons_succ]
      have HZ3 := Lib.hid (show (z3 != 0) = true from by simp [hn3])
      have HE3 := Lib.hid (show (z3 == 0) = false from by simp [hn3])
      refine takeF (i := 36) (v := ?vm36) rfl (by kernel_rfl) (by kernel_rfl) (by kernel_rfl) (fun _ _ _ h => h) (Or.inl ⟨by kernel_rfl, ?ym36⟩) hS ?_
      case ym36 =>
        intro w' hSw
        obtain ⟨h0, h1, h2, h3, h4, h5, h6, h7, h8, h9, h10, h11, h12, h13⟩ := hSw
        go_simp
        all_goals (with_reducible rfl)
      simp only [Act.put, List.setIfInBounds_toArray, List.set_cons_zero, List.set_cons_succ]
      first | simp only [HZ3.out] | simp only [HE3.out, Bool.not_false]
      refine takeF (i := 37) (v := ?vm37) rfl (by kernel_rfl) (by kernel_rfl) (by kernel_rfl) (fun _ _ _ h => h) (Or.inl ⟨by kernel_rfl, ?ym37⟩) hS ?_
      case ym37 =>
        intro w' hSw
        obtain ⟨h0, h1, h2, h3, h4, h5, h6, h7, h8, h9, h10, h11, h12, h13⟩ := hSw
        go_simp
        all_goals (with_reducible rfl)
      simp only [Act.put, List.setIfInBounds_toArray, List.set_cons_zero, List.set_cons_succ]
      refine takeF (i := 38) (v := _) rfl (by kernel_rfl) (by kernel_rfl) (by kernel_rfl) (fun _ _ _ h => h) (Or.inl ⟨by kernel_rfl, fun w' _ => exec_move (.inr rfl) rfl⟩) hS ?_
      simp only [Act.put, List.setIfInBounds_toArray, List.set_cons_zero, List.set_cons_succ]
      have HRES := Lib.hid (show (true = true ↔ Fit4 a b c d ∧ PartsG a b c d ∧ PartsG c d a b) from by rw [HTH.out]; exact ⟨fun _ => ⟨HNE.out.1, HNE.out.2, n0.out, n1.out, n2.out, n3.out⟩, fun _ => rfl⟩)
      refine wpAnyH_done (by kernel_rfl) ?_ _
      go_wp2_with fail
      go_ret
      exact ⟨true, rfl, ⟨fun _ => HRES.out.1 trivial, fun _ => rfl⟩, HK.out.2.2.trans ((B0.out.trans (B.mono B0.out.size)).mono HK.out.2.2.size)⟩
  · have HRES := Lib.hid (show (false = true ↔ Fit4 a b c d ∧ PartsG a b c d ∧ PartsG c d a b) from by
      rw [HT.out]
      refine ⟨fun h => (by cases h), ?_⟩
      rintro ⟨-, y, rfl, -⟩
      exact absurd rfl h1)
    have hl1 : ¬ (xs.length : Int) = 1 := by omega
    clear hm hw hr hc h1 hlen HT KAa KAb KAc KAd
    go_wp2_with fail
    go_ret
    exact ⟨_, rfl, HRES.out, HK.out.2.2.trans (B0.out.mono HK.out.2.2.size)⟩
end Go.Proofs.YtdmoibphidipeaaGreatDoor
