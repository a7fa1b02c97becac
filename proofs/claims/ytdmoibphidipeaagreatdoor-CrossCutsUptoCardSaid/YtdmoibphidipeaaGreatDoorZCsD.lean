/- Where ways meet, the program's own: the ends that both ways have. -/
import Derived.Test.YtdmoibphidipeaaGreatDoorZCrU
namespace Go.Proofs.YtdmoibphidipeaaGreatDoor
open Go.RowKit Num rows

theorem size_ptC : (Tryz.prog.info? 23).map (fun i => i.size) = some 2 := by kernel_rfl
theorem pts_index (a b c d : Pt) (k : Nat) (hk : k < 4) (W : World) : (Instr.index 89 (.agg #[.int .i64 a.x, .int .i64 a.y, .int .i64 b.x, .int .i64 b.y, .int .i64 c.x, .int .i64 c.y, .int .i64 d.x, .int .i64 d.y]) (.int .i64 (k : Int))).run Tryz.prog W = .ok (.agg #[.int .i64 (at4 a b c d k).x, .int .i64 (at4 a b c d k).y]) W := by
  have hs := size_ptC
  cases hq : Tryz.prog.info? 23 with
  | none => simp [hq] at hs
  | some i =>
    have hs1 : i.size = 2 := by simpa [hq] using hs
    obtain rfl | rfl | rfl | rfl : k = 0 ∨ k = 1 ∨ k = 2 ∨ k = 3 := by omega
    all_goals simp [Instr.index, run_underlying Tryz.underlying89, asIntOf, go_sem, sizeOf, typeInfo, hq, hs1, at4]
/-- a point that is on both -/
def shB (a b c d p : Pt) : Bool := onG a b p && onG c d p
/-- the ends among the first k that both have -/
def endsN (a b c d : Pt) : Nat → List Qp
  | 0 => []
  | k + 1 => endsN a b c d k ++ pk (shB a b c d (at4 a b c d k)) (qAt (at4 a b c d k))
theorem endsN_len (a b c d : Pt) : ∀ k, (endsN a b c d k).length ≤ k
  | 0 => Nat.le_refl _
  | k + 1 => by
    have := endsN_len a b c d k
    show (endsN a b c d k ++ _).length ≤ _
    rw [List.length_append]
    unfold pk
    split <;> simp <;> omega

set_option maxRecDepth 10000 in
set_option maxHeartbeats 6400000 in
theorem cross_shared (a b c d : Pt) (ha : FitP a) (hb : FitP b) (hc : FitP c) (hd : FitP d) (w : World) :
    Calls Tryz.prog 38 #[segV a b, segV c d] w fun e w' => ∃ v xs, e = .returned v ∧ OwnS w' w.heap.size v xs.length (flat xs) ∧ RowW 8 w' xs (endsN a b c d 4) ∧ xs.length ≤ 4 ∧ Below w.heap.size w w' := by
  obtain ⟨W, hW, k1, k2, bW, sW⟩ := seg_boxes w a b c d
  have hix := fun k hk V => pts_index a b c d k hk V
  have HFit := Lib.hid (show ∀ k, FitP (at4 a b c d k) from fun k => by match k with | 0 => exact ha | 1 => exact hb | 2 => exact hc | k + 3 => exact hd)
  have cA := fun (p : Pt) (hp : FitP p) V => cross_on a b p ha hb hp V
  have cB := fun (p : Pt) (hp : FitP p) V => cross_on c d p hc hd hp V
  have cP := fun (p : Pt) (hp : FitP p) V => spot_AtW p hp V
  obtain ⟨E, hE⟩ : ∃ E, endsN a b c d = E := ⟨_, rfl⟩
  have HE := Lib.hid (show ∀ k, E (k + 1) = E k ++ pk (shB a b c d (at4 a b c d k)) (qAt (at4 a b c d k)) from fun k => by rw [← hE]; rfl)
  have HEL := Lib.hid (show ∀ k, (E k).length ≤ k from fun k => by rw [← hE]; exact endsN_len a b c d k)
  have HE0 := Lib.hid (show E 0 = [] from by rw [← hE]; rfl)
  rw [hE]
  unfold segCells at k1 k2
  have HK := Lib.hid (And.intro k1 (And.intro k2 bW))
  obtain ⟨p0, p1, p2, p3⟩ := Box.quad k1
  obtain ⟨q0, q1, q2, q3⟩ := Box.quad k2
  unfold segV ptV at *
  have HIX := Lib.hid hix
  have CA := Lib.hid cA
  have CB := Lib.hid cB
  have CP := Lib.hid cP
  clear k1 k2 bW sW hix cA cB cP hE ha hb hc hd
  go_enter Tryz.func38, Tryz.ntmps38
  go_wp2_with (rw [hW])
  clear p0 p1 p2 p3 q0 q1 q2 q3
  go_loopg [5, 7, 17] 4 (fun gh v5 v7 it wr => ∃ i : Nat, it = .int .i64 (i : Int) ∧ gh + i = 4 ∧ GatS W (E i) v5 wr)
  case atStart => exact ⟨0, rfl, rfl, by rw [HE0.out]; exact GatS.nil (Below.refl _ _)⟩
  case round =>
    obtain ⟨i, rfl, hg, xs, ho, hr, hl, hbl⟩ := hrel
    have HG := Lib.hid hg
    clear hg
    have HO := Lib.hid ho
    have HR := Lib.hid (And.intro hr (And.intro hl hbl))
    clear ho hr hl hbl
    by_cases hi : i < 4
    · have hii : (i : Int) < 4 := by omega
      have hw : IntKind.i64.wrap ((i : Int) + 1) = (i : Int) + 1 := IntWalk.i64_in _ (by omega)
      have hx := HIX.out i hi
      have HP := Lib.hid (HFit.out i)
      have HEI := Lib.hid (HE.out i)
      have HL3 := Lib.hid (show (E i).length ≤ 3 from Nat.le_trans (HEL.out i) (by omega))
      obtain ⟨p, hp⟩ : ∃ p, at4 a b c d i = p := ⟨_, rfl⟩
      rw [hp] at hx HP HEI
      clear hp
      obtain ⟨W1, hW1, k3, b1⟩ : ∃ W1, wr.alloc (.cells #[.int .i64 p.x, .int .i64 p.y] 23) = W1 ∧ Box W1 wr.heap.size 23 [.int .i64 p.x, .int .i64 p.y] ∧ Below wr.heap.size wr W1 := ⟨_, rfl, Box.new wr _ [.int .i64 p.x, .int .i64 p.y], (Below.refl _ _).alloc (Nat.le_refl _) _⟩
      have B1 : Below W.heap.size W W1 := HR.out.2.2.trans (b1.mono HR.out.2.2.size)
      obtain ⟨p0, p1, p2, p3⟩ := Box.quad (HK.out.1.below B1 HK.out.1.lt)
      obtain ⟨⟨t0, t1⟩, -⟩ := Box.pair k3
      have cA := CA.out p HP.out W1
      have cB := fun V => CB.out p HP.out V
      have cP := fun V => CP.out p HP.out V
      have HK3 := Lib.hid (And.intro k3 (And.intro B1 b1))
      clear k3 B1 b1
      obtain ⟨o1, h1⟩ : ∃ o : Bool, onG a b p = o := ⟨_, rfl⟩
      obtain ⟨o2, h2⟩ : ∃ o : Bool, onG c d p = o := ⟨_, rfl⟩
      have hsh : shB a b c d p = (o1 && o2) := by unfold shB; rw [h1, h2]
      rw [hsh] at HEI
      rw [h1] at cA
      rw [h2] at cB
      have KA := Lib.hid cA
      have KB := Lib.hid cB
      have KP := Lib.hid cP
      clear cA cB cP h1 h2 hsh
      cases o1 with
      | false =>
        go_wp2_with first
          | (rw [hW1])
          | (go_at_call 72; (with_reducible refine Calls.mono KA.out ?_); rintro e w1 ⟨rfl, b1⟩)
        go_roundg (4 - (i + 1))
        case measure => have := HG.out; omega
        case rel =>
          refine ⟨i + 1, by go_num, by have := HG.out; omega, ?_⟩
          rw [HEI.out, Bool.false_and, pk_false, List.append_nil]
          have bb := HK3.out.2.2.trans (b1.mono HK3.out.2.2.size)
          exact ⟨xs, HO.out.kept bb, HR.out.1.on bb, HR.out.2.1, HR.out.2.2.trans (bb.mono HR.out.2.2.size)⟩
      | true =>
        cases o2 with
        | false =>
          go_wp2_with first
            | (rw [hW1])
            | (go_at_call 72; first
               | ((with_reducible refine Calls.mono KA.out ?_); rintro e w1 ⟨rfl, b1⟩
                  clear p0 p1 p2 p3 t0 t1
                  obtain ⟨q0, q1, q2, q3⟩ := Box.quad ((HK.out.2.1.below HK3.out.2.1 HK.out.2.1.lt).below b1 (Nat.lt_of_lt_of_le HK.out.2.1.lt HK3.out.2.1.size))
                  obtain ⟨⟨t0, t1⟩, -⟩ := Box.pair (HK3.out.1.below b1 HK3.out.1.lt))
               | ((with_reducible refine Calls.mono (KB.out _) ?_); rintro e w2 ⟨rfl, b2⟩))
          go_roundg (4 - (i + 1))
          case measure => have := HG.out; omega
          case rel =>
            refine ⟨i + 1, by go_num, by have := HG.out; omega, ?_⟩
            rw [HEI.out, Bool.and_false, pk_false, List.append_nil]
            have bb := HK3.out.2.2.trans ((b1.trans (b2.mono b1.size)).mono HK3.out.2.2.size)
            exact ⟨xs, HO.out.kept bb, HR.out.1.on bb, HR.out.2.1, HR.out.2.2.trans (bb.mono HR.out.2.2.size)⟩
        | true =>
          have hn : xs.length ≤ 1073741824 := by have := HR.out.2.1; omega
          go_wp2_with first
            | (rw [hW1])
            | (go_at_call 72; first
               | ((with_reducible refine Calls.mono KA.out ?_); rintro e w1 ⟨rfl, b1⟩
                  clear p0 p1 p2 p3 t0 t1
                  obtain ⟨q0, q1, q2, q3⟩ := Box.quad ((HK.out.2.1.below HK3.out.2.1 HK.out.2.1.lt).below b1 (Nat.lt_of_lt_of_le HK.out.2.1.lt HK3.out.2.1.size))
                  obtain ⟨⟨t0, t1⟩, -⟩ := Box.pair (HK3.out.1.below b1 HK3.out.1.lt))
               | ((with_reducible refine Calls.mono (KB.out _) ?_); rintro e w2 ⟨rfl, b2⟩
                  clear q0 q1 q2 q3 t0 t1
                  obtain ⟨⟨t0, t1⟩, -⟩ := Box.pair ((HK3.out.1.below b1 HK3.out.1.lt).below b2 (Nat.lt_of_lt_of_le HK3.out.1.lt b1.size))))
            | (go_at_call 50; (with_reducible refine Calls.mono (KP.out _) ?_); rintro e w5 ⟨sX, rfl, rX, oX, eX, b5⟩
               unfold spV
               have bb := HK3.out.2.2.trans (((b1.trans (b2.mono b1.size)).trans (b5.mono (b1.trans (b2.mono b1.size)).size)).mono HK3.out.2.2.size)
               have HO5 := Lib.hid (HO.out.kept bb)
               have HR5 := Lib.hid (And.intro (HR.out.1.on bb) (HR.out.2.2.trans (bb.mono HR.out.2.2.size)))
               clear bb)
            | (at_builtin; refine wpList_append_sp _ rfl _ _ rfl W.heap.size _ xs.length (flat xs) rfl (HO5.out.kept (below_new w5 _)) ⟨w5.heap.size, 0, none⟩ sX.cells rfl rfl (one_spot w5 sX) (cells_one sX) (cells_noint sX) hn (by have := HR5.out.2.size; simp; omega) ?_
               intro vn wn hownn hgrown
               have hownn := Lib.hid hownn
               have hgrown := Lib.hid hgrown)
          go_roundg (4 - (i + 1))
          case measure => have := HG.out; omega
          case rel =>
            refine ⟨i + 1, by go_num, by have := HG.out; omega, ?_⟩
            rw [HEI.out]
            exact GatS.more (HO5.out.kept (below_new w5 _)) (HR5.out.1.on (below_new w5 _)) HL3.out (HR5.out.2.trans ((below_new w5 _).mono HR5.out.2.size)) rX (oX.on (below_new w5 _)) hownn.out hgrown.out eX
    · obtain rfl : i = 4 := by have := HG.out; omega
      go_wp2_with fail
      go_ret
      exact ⟨_, xs, rfl, HO.out.mono HK.out.2.2.size, HR.out.1, HR.out.2.1, HK.out.2.2.trans (HR.out.2.2.mono HK.out.2.2.size)⟩
end Go.Proofs.YtdmoibphidipeaaGreatDoor
