/- The walk of PathRounds. -/
import Derived.Test.YtbgjpmijegeeiaaZPvW
import Derived.Test.YtbgjpmijegeeiaaZPtY
namespace Go.Proofs.Ytbgjpmijegeeiaa
open Go.RowKit

theorem ne_split {ax ay bx bY : Int} (h : ¬ (⟨ax, ay⟩ : Pt) = ⟨bx, bY⟩) : ((ax == bx) = false ∧ (bx == ax) = false) ∨ (ax = bx ∧ (ay == bY) = false ∧ (bY == ay) = false) := by
  by_cases hx : ax = bx
  · right
    subst hx
    have hy : ¬ ay = bY := fun e => h (by rw [e])
    exact ⟨rfl, by simpa using hy, by simpa using fun e : bY = ay => hy e.symm⟩
  · left
    exact ⟨by simpa using hx, by simpa using fun e : bx = ax => hx e.symm⟩
theorem bal_take {p : Pt} {S : List Sg} {i : Nat} (hi : i < S.length) : balM p (S.take (i + 1)) = balM p (S.take i) + (ind S[i].a p - ind S[i].b p) := by
  rw [List.take_succ_eq_append_getElem hi, balM_append]
  simp [balM]
theorem bal_bound (p : Pt) : ∀ S : List Sg, -(S.length : Int) ≤ balM p S ∧ balM p S ≤ (S.length : Int)
  | [] => by simp [balM]
  | s :: S => by
    have h := bal_bound p S
    simp only [balM, List.length_cons, ind]
    split <;> split <;> omega
theorem ind_one {a p : Pt} (h : a = p) : ind a p = 1 := if_pos h
theorem ind_no {a p : Pt} (h : ¬ a = p) : ind a p = 0 := if_neg h

set_option maxRecDepth 10000 in
set_option maxHeartbeats 12800000 in
theorem walk_PathRounds (L : List St) (p : Pt) (A : Option Addr) (c : Nat) (w : World) (hL : RdV w w.heap.size A (stRow L)) (hl : L.length ≤ 4611686018427387904) :
    Calls Try.prog 5 #[.slice A L.length c, ptV p] w fun e w' => e = .returned (.bool true) ∧ Below w.heap.size w w' := by
  obtain ⟨px, py⟩ := p
  obtain ⟨W, hW, kW, bW⟩ := endP w 42 (.int .i64 px) (.int .i64 py)
  have cT := path_Trace L A c W (hL.on bW) hl
  have cC := fun V (h : Below w.heap.size w V) => path_Count L A c V (hL.on h) hl
  have hS := fun V (h : Lv.all V = traceM L) => trace_sum h
  have hfew := segs_few L
  have hcl := countGo_le L pt0
  have hck := fun h => check_few (l := L) h
  have hcm : countM L ≤ 6400 := by
    unfold countM
    split
    · rename_i h; have := hck h; omega
    · omega
  have htl0 := trace_lines L
  unfold GivesLn at cT
  have hE0 : ¬ checkM L = 0 → traceM L = [] := fun h => by unfold traceM; rw [if_neg h]
  obtain ⟨T, hT⟩ : ∃ T, traceM L = T := ⟨_, rfl⟩
  obtain ⟨E, hE⟩ : ∃ E, checkM L = E := ⟨_, rfl⟩
  obtain ⟨n, hn⟩ : ∃ n, L.length = n := ⟨_, rfl⟩
  obtain ⟨N, hN⟩ : ∃ N, countM L = N := ⟨_, rfl⟩
  obtain ⟨S, hSS⟩ : ∃ S, segsM T = S := ⟨_, rfl⟩
  rw [hT] at hfew htl0
  rw [hN] at hfew hcm
  rw [hSS] at hfew
  have hbal := bal_all ⟨px, py⟩ T
  have hnes := segsM_ne T
  rw [hSS] at hbal hnes
  simp only [hT, hE, hn, hN] at cT cC hS hE0 ⊢
  obtain ⟨tl, htl⟩ : ∃ tl, T.length = tl := ⟨_, rfl⟩
  obtain ⟨m, hm⟩ : ∃ m, S.length = m := ⟨_, rfl⟩
  have cS := fun (P : List Lv) (hP : Lv.all P = T) (q : Option Addr) (k : Nat) (X : World) (h : RdLn X X.heap.size q P) => show Calls Try.prog 15 #[.slice q tl k] X (fun e w' => (∃ q k, e = .returned (.slice q m k) ∧ RdV w' w'.heap.size q (sgRow S)) ∧ Below X.heap.size X w') from by
    have e1 : P.length = tl := by rw [← htl, ← hP]; simp [Lv.all]
    have h3 := hS P hP
    have h4 := path_Segs P q k X h (by omega) (by omega)
    rw [e1, hP, hSS, hm] at h4
    exact h4
  rw [htl] at hfew htl0
  rw [hm] at hfew
  simp only [htl] at cT
  have CT := Lib.hid cT
  have CC := Lib.hid cC
  have CS := Lib.hid cS
  have C9 := Lib.hid law12_lives
  have HM := Lib.hid hm
  have HBAL := Lib.hid hbal
  have HNE := Lib.hid hnes
  have HK := Lib.hid (And.intro kW bW)
  have HTL := Lib.hid htl
  have f1 : IntKind.i64.wrap ((N : Int) + (tl : Int)) = (N : Int) + (tl : Int) := IntWalk.i64_in _ (by omega)
  have f2 : (m : Int) ≤ (N : Int) + (tl : Int) := by omega
  have f3 : m ≤ 12800 := by omega
  unfold ptV
  dsimp only
  by_cases hz : E = 0
  · subst hz
    clear cT cC cS hS hL hl hT hE hn hN hSS hm hbal hnes kW bW htl hE0 hfew hcl hck
    go_enter Try.func5, Try.ntmps5
    go_wp2_with first
      | (rw [hW])
      | (go_at_call 6; (with_reducible refine Calls.mono CT.out ?_); rintro e w1 ⟨⟨q1, k1, P, rfl, hP, r1⟩, b1⟩
         have G1 := Lib.hid b1
         have R1 := Lib.hid (And.intro hP r1)
         clear hP r1 b1)
      | (go_at_call 15; (with_reducible refine Calls.mono (CS.out P R1.out.1 _ _ w1 R1.out.2) ?_); rintro e w2 ⟨⟨q2, k2, rfl, r2⟩, b2⟩
         have G2 := Lib.hid (G1.out.trans (b2.mono G1.out.size))
         have R2 := Lib.hid r2
         clear r2 b2)
    go_loopg [8, 9] m (fun gh nv iv wr => ∃ i : Nat, iv = .int .i64 (i : Int) ∧ nv = .int .i64 (balM ⟨px, py⟩ (S.take i)) ∧ gh + i = m ∧ Below w2.heap.size w2 wr)
    case atStart => exact ⟨0, rfl, rfl, by omega, Below.refl _ _⟩
    case round =>
      obtain ⟨i, rfl, rfl, hg, hB⟩ := hrel
      have HGI := Lib.hid hg
      have hbb := bal_bound ⟨px, py⟩ (S.take i)
      have hbl : (S.take i).length ≤ m := by rw [List.length_take, HM.out]; omega
      by_cases hlt : i < m
      · have hlt' : i < S.length := by rw [HM.out]; exact hlt
        obtain ⟨g, o, rfl, hgl, e0, e1, e2, e3⟩ := (R2.out.below hB).sg (i := i) hlt'
        have hil : (i : Int) < (m : Int) := by omega
        have hbt := bal_take (p := ⟨px, py⟩) hlt'
        have hne := HNE.out _ (List.getElem_mem hlt')
        obtain ⟨s, hs⟩ : ∃ s, S[i] = s := ⟨_, rfl⟩
        rw [hs] at e0 e1 e2 e3 hbt hne
        obtain ⟨⟨ax, ay⟩, ⟨bx, bY⟩⟩ := s
        dsimp only at e0 e1 e2 e3 hbt hne
        have kB := (HK.out.1.below G2.out HK.out.1.lt).below hB (Nat.lt_of_lt_of_le HK.out.1.lt G2.out.size)
        obtain ⟨⟨z0, z1⟩, -⟩ := Box.pair kB
        obtain ⟨B, hBv⟩ : ∃ B, balM ⟨px, py⟩ (S.take i) = B := ⟨_, rfl⟩
        rw [hBv] at hbb hbt ⊢
        have v1 : IntKind.i64.wrap (B + 1) = B + 1 := IntWalk.i64_in _ (by omega)
        have v2 : IntKind.i64.wrap (B - 1) = B - 1 := IntWalk.i64_in _ (by omega)
        have HBB := Lib.hid hB
        have hcase : ((⟨ax, ay⟩ : Pt) = ⟨px, py⟩ ∧ ¬ (⟨bx, bY⟩ : Pt) = ⟨px, py⟩) ∨ (¬ (⟨ax, ay⟩ : Pt) = ⟨px, py⟩ ∧ (⟨bx, bY⟩ : Pt) = ⟨px, py⟩) ∨ (¬ (⟨ax, ay⟩ : Pt) = ⟨px, py⟩ ∧ ¬ (⟨bx, bY⟩ : Pt) = ⟨px, py⟩) := by
          by_cases h1 : (⟨ax, ay⟩ : Pt) = ⟨px, py⟩
          · exact .inl ⟨h1, fun h2 => hne (h1.trans h2.symm)⟩
          · by_cases h2 : (⟨bx, bY⟩ : Pt) = ⟨px, py⟩
            · exact .inr (.inl ⟨h1, h2⟩)
            · exact .inr (.inr ⟨h1, h2⟩)
        clear hB hs hlt' hbb hbl kB hBv
        rcases hcase with ⟨h1, h2⟩ | ⟨h1, h2⟩ | ⟨h1, h2⟩
        · have HX := Lib.hid (show balM ⟨px, py⟩ (S.take (i + 1)) = B + 1 by rw [hbt, ind_one h1, ind_no h2]; omega)
          simp only [Pt.mk.injEq] at h1
          obtain ⟨rfl, rfl⟩ := h1
          rcases ne_split hne with ⟨h3, h4⟩ | ⟨rfl, h3, h4⟩
          all_goals
            clear hne h2 hbt
            go_wp2_with fail
            go_quiet (fail)
            go_wp2_with fail
            go_quiet (fail)
            go_wp2_with fail
            go_quiet (fail)
            go_wp2_with fail
            go_roundg (m - (i + 1))
            case measure => have := HGI.out; omega
            case rel => exact ⟨i + 1, by simp, by rw [HX.out], by have := HGI.out; omega, below_figE HBB.out _⟩
        · have HX := Lib.hid (show balM ⟨px, py⟩ (S.take (i + 1)) = B - 1 by rw [hbt, ind_no h1, ind_one h2]; omega)
          simp only [Pt.mk.injEq] at h2
          obtain ⟨rfl, rfl⟩ := h2
          rcases ne_split hne with ⟨h3, h4⟩ | ⟨rfl, h3, h4⟩
          all_goals
            clear hne h1 hbt
            go_wp2_with fail
            go_quiet (fail)
            go_wp2_with fail
            go_quiet (fail)
            go_wp2_with fail
            go_quiet (fail)
            go_wp2_with fail
            go_roundg (m - (i + 1))
            case measure => have := HGI.out; omega
            case rel => exact ⟨i + 1, by simp, by rw [HX.out], by have := HGI.out; omega, below_figE HBB.out _⟩
        · have HX := Lib.hid (show balM ⟨px, py⟩ (S.take (i + 1)) = B by rw [hbt, ind_no h1, ind_no h2]; omega)
          rcases ne_split h1 with ⟨h5, h6⟩ | ⟨rfl, h5, h6⟩
          all_goals
            rcases ne_split h2 with ⟨h7, h8⟩ | ⟨rfl, h7, h8⟩
            all_goals
              rcases ne_split hne with ⟨h3, h4⟩ | ⟨h9, h3, h4⟩
              all_goals
                try subst h9
                first
                  | (exfalso; simp at h3; done)
                  | (exfalso; simp at h5; done)
                  | (exfalso; simp at h7; done)
                  | skip
              all_goals
                clear hne h1 h2 hbt
                go_wp2_with fail
                go_quiet (fail)
                go_wp2_with fail
                go_quiet (fail)
                go_wp2_with fail
                go_quiet (fail)
                go_wp2_with fail
                go_roundg (m - (i + 1))
                case measure => have := HGI.out; omega
                case rel => exact ⟨i + 1, by simp, by rw [HX.out], by have := HGI.out; omega, below_figE HBB.out _⟩
      · obtain rfl : i = m := by omega
        have hall : S.take i = S := by rw [← HM.out]; exact List.take_length
        rw [hall, HBAL.out]
        have HBE := Lib.hid (G2.out.trans (hB.mono G2.out.size))
        have hil : ¬ (i : Int) < (i : Int) := by omega
        clear hB hbb hbl hall
        go_wp2_with first
          | (go_at_call 8; (with_reducible refine Calls.mono (CC.out _ (HK.out.2.trans (HBE.out.mono HK.out.2.size))) ?_); rintro e w3 ⟨rfl, b3⟩
             have G3 := Lib.hid ((HK.out.2.trans (HBE.out.mono HK.out.2.size)).trans (b3.mono (HK.out.2.trans (HBE.out.mono HK.out.2.size)).size))
             clear b3)
          | (go_at_call 13; (with_reducible refine Calls.mono (C9.out _) ?_); rintro e w4 ⟨rfl, b4⟩
             have G4 := Lib.hid (G3.out.trans (b4.mono G3.out.size))
             clear b4)
        go_ret
        exact ⟨rfl, G4.out⟩
  · have hT0 := hE0 hz
    have htl1 : tl = 0 := by rw [← htl, hT0]; rfl
    subst htl1
    have hzb : (E == 0) = false := by simpa using hz
    clear cT cC cS hS hL hl hT hE hn hN hSS hm hbal hnes kW bW htl hE0 hfew hcl hck hT0 f1 f2
    go_enter Try.func5, Try.ntmps5
    go_wp2_with first
      | (rw [hW])
      | (go_at_call 6; (with_reducible refine Calls.mono CT.out ?_); rintro e w1 ⟨⟨q1, k1, P, rfl, hP, r1⟩, b1⟩
         have G1 := Lib.hid (HK.out.2.trans (b1.mono HK.out.2.size))
         clear hP r1 b1)
      | (go_at_call 13; (with_reducible refine Calls.mono (C9.out _) ?_); rintro e w4 ⟨rfl, b4⟩
         have G4 := Lib.hid (G1.out.trans (b4.mono G1.out.size))
         clear b4)
    go_ret
    exact ⟨rfl, G4.out⟩
end Go.Proofs.Ytbgjpmijegeeiaa
