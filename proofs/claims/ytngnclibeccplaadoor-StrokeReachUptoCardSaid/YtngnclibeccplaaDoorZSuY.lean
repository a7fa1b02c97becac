/- Lines as areas, the program's own: an area turned round as a row of its own; what is gathered, as it lies; add. -/
import Derived.Test.YtngnclibeccplaaDoorZSuX
import Derived.Test.YtngnclibeccplaaDoorZDuV
import Derived.Deep.AppendLies
import Derived.Deep.RegionLaw
import Derived.Test.YtngnclibeccplaaDoorZDuT
import Derived.Test.YtngnclibeccplaaDoorZOaJ
import Derived.Test.YtngnclibeccplaaDoorZDsV
import Derived.BigRegion
namespace Go.Proofs.YtngnclibeccplaaDoor
open Go.RowKit Num

theorem Lies.ofOwnQ {w : World} {base n : Nat} {v : Value} {l : List Pt} (h : w.ownsRow base 34 2 v n (ptRow l)) (hn : 0 < n) : ∃ g cap R, v = .slice (some ⟨g, 0, none⟩) n cap ∧ n ≤ cap ∧ cap ≤ maxLen ∧ base ≤ g ∧ Lies w g l R ∧ R.length + 2 * l.length = cap * 2 := by
  have hx := ptRow_length l
  rcases h.2 with ⟨rfl, rfl⟩ | ⟨g, cap, cur, rfl, hb, hg, hnc, hcm, hcs, htake⟩
  · omega
  · have hl : (cur.toList.take (n * 2)).length = 2 * l.length := by rw [htake, hx]; omega
    rw [List.length_take] at hl
    have hcs2 : cur.toList.length = cap * 2 := by rw [Array.length_toList]; exact hcs
    refine ⟨g, cap, cur.toList.drop (n * 2), rfl, hnc, hcm, hb, ?_, ?_⟩
    · unfold Lies Box
      rw [← htake, List.take_append_drop]
      exact hg
    · rw [List.length_drop, hcs2]
      omega
theorem Lies.ownQ {w : World} {base g cap : Nat} {l : List Pt} {R : List Value} (h : Lies w g l R) (hb : base ≤ g) (hc : cap ≤ maxLen) (hs : R.length + 2 * l.length = cap * 2) : w.ownsRow base 34 2 (.slice (some ⟨g, 0, none⟩) l.length cap) l.length (ptRow l) := by
  have hx := ptRow_length l
  refine ⟨by omega, .inr ⟨g, cap, (ptRow l ++ R).toArray, rfl, hb, h, by omega, hc, ?_, ?_⟩⟩
  · simp only [List.size_toArray, List.length_append]
    omega
  · show (ptRow l ++ R).take (l.length * 2) = ptRow l
    rw [List.take_append_of_le_length (by omega), ← hx, List.take_length]
/-- what Round answers, as a row of its own -/
def RoundO (L : List Pt) (w : World) (e : Ending) (w' : World) : Prop :=
  (∃ v, e = .returned v ∧ w'.ownsRow w.heap.size 34 2 v (turnedM L).length (ptRow (turnedM L))) ∧ Below w.heap.size w w'

set_option maxRecDepth 10000 in
set_option maxHeartbeats 3200000 in
theorem gauge_RoundO (L : List Pt) (A : Option Addr) (c : Nat) (w : World) (hL : RdV w w.heap.size A (ptRow L)) (hl : L.length ≤ 10000) (hc : L.length ≤ c) :
    Calls Tryd.prog 26 #[.slice A L.length c] w (RoundO L w) := by
  have cC := slices_CloneO L A c w hL (by omega)
  have cT := fun V (h : Below w.heap.size w V) => gauge_Twice L A c V (hL.on h) hl hc
  have HL := Lib.hid hl
  have CC := Lib.hid cC
  obtain ⟨t, ht⟩ : ∃ t, twiceM L = t := ⟨_, rfl⟩
  rw [ht] at cT
  have CT := Lib.hid cT
  clear cC cT hL hl hc
  by_cases h : t < 0
  · have he : turnedM L = L.reverse := by unfold turnedM; rw [ht, if_pos h]
    have hp : 0 < L.length := by
      rcases Nat.eq_zero_or_pos L.length with h0 | h0
      · obtain rfl := List.eq_nil_of_length_eq_zero h0
        have : twiceM [] = 0 := rfl
        omega
      · exact h0
    have HE := Lib.hid (And.intro he hp)
    clear he hp ht
    go_enter Tryd.func26, Tryd.ntmps26
    go_wp2_with first
      | (go_at_call 24; refine Calls.mono CC.out ?_; rintro e w1 ⟨v, rfl, ho, b1⟩
         obtain ⟨g, k, R, rfl, hk, hkm, hg, h1, hR⟩ := Lies.ofOwnQ ho HE.out.2
         have HK := Lib.hid (And.intro hk (And.intro hg (And.intro h1 (And.intro hkm hR))))
         clear hk hg h1 ho hkm hR)
      | (go_at_call 25; refine Calls.mono (CT.out _ b1) ?_; rintro e w2 ⟨rfl, b2⟩)
      | (go_at_call 39; refine Calls.mono (slices_ReverseG L g R k w2 (HK.out.2.2.1.below b2 (Box.lt HK.out.2.2.1)) (by have := HL.out; omega)) ?_; rintro e w3 ⟨rfl, h3, b3⟩)
    go_ret
    unfold RoundO
    rw [HE.out.1]
    refine ⟨⟨_, rfl, ?_⟩, (b1.trans (b2.mono b1.size)).trans (b3.mono HK.out.2.1)⟩
    have h4 := Lies.ownQ (base := w.heap.size) (cap := k) h3 HK.out.2.1 HK.out.2.2.2.1 (by rw [List.length_reverse]; exact HK.out.2.2.2.2)
    rw [List.length_reverse] at h4 ⊢
    exact h4
  · have he : turnedM L = L := by unfold turnedM; rw [ht, if_neg h]
    have HE := Lib.hid he
    clear he ht
    go_enter Tryd.func26, Tryd.ntmps26
    go_wp2_with first
      | (go_at_call 24; refine Calls.mono CC.out ?_; rintro e w1 ⟨v, rfl, ho, b1⟩
         obtain ⟨q, k, rfl, -, -, -⟩ := RdV.ofOwnK ho
         have HO := Lib.hid ho
         clear ho)
      | (go_at_call 25; refine Calls.mono (CT.out _ b1) ?_; rintro e w2 ⟨rfl, b2⟩)
    go_ret
    unfold RoundO
    rw [HE.out]
    exact ⟨⟨_, rfl, own_below HO.out b2⟩, b1.trans (b2.mono b1.size)⟩

theorem own_setQ {w : World} {base k n : Nat} {e : TypeId} {v : Value} {xs : List Value} (h : w.ownsRow base e k v n xs) {t : Nat} (ht : t < base) (i : Nat) (u : Value) : (w.setCell ⟨t, i, none⟩ u).ownsRow base e k v n xs := by
  refine h.kept (row := some t) ⟨rfl, rfl, rfl, by simp, fun k _ hne => Below.heap_setCell w _ u k (fun e => hne (by rw [e]))⟩ (.inr fun e => ?_)
  have := (h.lt t e).1
  omega
theorem info_pts : (Tryd.prog.info? 22).map (fun i => (i.zero, i.size, i.bytes)) = some (some (.slice none 0 0), 1, 24) := by kernel_rfl
/-- what is no row of areas and no gathering box stays -/
def KeepT (w w' : World) : Prop := w.heap.size ≤ w'.heap.size ∧ ∀ (k : Nat) (cs : Array Value) (t : TypeId) (fr : Nat × Nat), w.heap[k]? = some (Obj.cells cs t fr) → t ≠ 22 → t ≠ 42 → w'.heap[k]? = w.heap[k]?
theorem KeepT.refl (w : World) : KeepT w w := ⟨Nat.le_refl _, fun _ _ _ _ _ _ _ => rfl⟩
theorem KeepT.trans {a b c : World} (h : KeepT a b) (k : KeepT b c) : KeepT a c :=
  ⟨Nat.le_trans h.1 k.1, fun j cs t fr hj h1 h2 => (k.2 j cs t fr ((h.2 j cs t fr hj h1 h2).trans hj) h1 h2).trans (h.2 j cs t fr hj h1 h2)⟩
theorem KeepT.of {a b : World} (h : Below a.heap.size a b) : KeepT a b := ⟨h.size, fun j _ _ _ hj _ _ => h.block j (Array.getElem?_eq_some_iff.1 hj).1⟩
theorem KeepT.set {w : World} {G : Nat} {vs : List Value} (h : Box w G 42 vs) (i : Nat) (u : Value) : KeepT w (w.setCell ⟨G, i, none⟩ u) :=
  ⟨by simp, fun j cs t fr hj _ h2 => Below.heap_setCell w _ u j (fun e => by
    have e' : j = G := e
    subst e'
    unfold Box at h
    rw [h] at hj
    cases hj
    exact h2 rfl)⟩
theorem KeepT.grown {w w' : World} {base k n : Nat} {v : Value} {xs : List Value} (h : w.ownsRow base 22 k v n xs) (hg : w.grownBy w' v.ownBlock) : KeepT w w' :=
  ⟨hg.size, fun j cs t fr hj h1 _ => hg.block j (Array.getElem?_eq_some_iff.1 hj).1 (fun e => by
    rcases h.2 with ⟨rfl, -⟩ | ⟨g, cap, cur, rfl, -, hb, -⟩
    · cases e
    · injection e with e
      subst e
      rw [hb] at hj
      cases hj
      exact h1 rfl)⟩
theorem KeepT.box {w w' : World} (h : KeepT w w') {g : Nat} {t : TypeId} {vs : List Value} (hb : Box w g t vs) (h1 : t ≠ 22) (h2 : t ≠ 42) : Box w' g t vs := (h.2 g _ t _ hb h1 h2).trans hb
/-- points that are read lie in no gathering box -/
theorem RdV.flagged {w : World} {B G : Nat} {p : Option Addr} {l : List Pt} {a : Option Addr} {n k : Nat} {t : TypeId} {bd : Bool} (h : RdV w B p (ptRow l)) (hk : Box w G t [.slice a n k, .bool bd]) (i : Nat) (u : Value) : RdV (w.setCell ⟨G, i, none⟩ u) B p (ptRow l) := fun hn => by
  obtain ⟨b, o, e, hb, hc⟩ := h hn
  have hne : G ≠ b := by
    rintro rfl
    have h0 := hc 0 hn
    rw [Nat.add_zero, cell_of_row w G o _ t (0, 0) hk] at h0
    match l, hn, h0 with
    | p :: r, _, h0 =>
      match o, h0 with
      | 0, h0 => simp [ptRow, ptCells] at h0
      | 1, h0 => simp [ptRow, ptCells] at h0
      | o + 2, h0 => simp at h0
  exact ⟨b, o, e, hb, fun j hj => (World.cell?_setCell_far _ _ _ _ (by simpa using hne)).trans (hc j hj)⟩
/-- what is gathered, as it lies: the box; the row of areas; each area's points -/
structure Gat (w : World) (G : Nat) (V : List Av) (ov : Value) (bd : Bool) : Prop where
  box : Box w G 42 [ov, .bool bd]
  own : w.ownsRow (G + 1) 22 1 ov V.length (avCells V)
  rows : ∀ x ∈ V, w.ownsRow (G + 1) 34 2 (.slice x.A x.pts.length x.c) x.pts.length (ptRow x.pts)
theorem Gat.below {w w' : World} {G : Nat} {V : List Av} {ov : Value} {bd : Bool} (h : Gat w G V ov bd) (hb : Below w.heap.size w w') : Gat w' G V ov bd :=
  ⟨h.box.below hb h.box.lt, own_below h.own hb, fun x hx => own_below (h.rows x hx) hb⟩
theorem Gat.new (w : World) : Gat (w.alloc (.cells #[.slice none 0 0, .bool false] 42)) w.heap.size [] (.slice none 0 0) false :=
  ⟨Box.new w _ [.slice none 0 0, .bool false], World.ownsRow_nil _ _ _ _, fun x hx => by cases hx⟩
theorem Gat.flag {w : World} {G : Nat} {V : List Av} {ov : Value} {bd : Bool} (h : Gat w G V ov bd) (b : Bool) : ∃ U, w.setCell ⟨G, 1, none⟩ (.bool b) = U ∧ Gat U G V ov b ∧ Below G w U ∧ KeepT w U :=
  ⟨_, rfl, ⟨h.box.set 1 _, own_setQ h.own (Nat.lt_succ_self G) 1 _, fun x hx => own_setQ (h.rows x hx) (Nat.lt_succ_self G) 1 _⟩, (Below.refl _ _).setCell (p := ⟨G, 1, none⟩) (Nat.le_refl G) _, KeepT.set h.box 1 _⟩
/-- an area more: before and behind the store -/
theorem Gat.more {w w3 : World} {G : Nat} {V : List Av} {ov v' : Value} {bd : Bool} (h : Gat w G V ov bd) (x : Av) (hx : w.ownsRow (G + 1) 34 2 (.slice x.A x.pts.length x.c) x.pts.length (ptRow x.pts)) (hg : w.grownBy w3 ov.ownBlock)
    (hn : w3.ownsRow (G + 1) 22 1 v' (V.length + 1) (avCells V ++ [.slice x.A x.pts.length x.c])) :
    (w3.cell? ⟨G, 0, none⟩ = some ov ∧ w3.frozen? ⟨G, 0, none⟩ = false) ∧ ∃ U, w3.setCell ⟨G, 0, none⟩ v' = U ∧ Gat U G (V ++ [x]) v' bd ∧ Below G w U ∧ KeepT w U := by
  have ht : (some G : Option Nat) ≠ ov.ownBlock := fun e => by have := (h.own.lt G e.symm).1; omega
  have hk : Box w3 G 42 [ov, .bool bd] := (hg.block G h.box.lt ht).trans h.box
  have hb : Below G w w3 := (Below.refl G w).grown hg (Nat.le_of_lt h.box.lt) (fun q e => by have := (h.own.lt q e).1; omega)
  refine ⟨⟨hk.cell 0 rfl, hk.frozen 0⟩, _, rfl, ⟨hk.set 0 _, ?_, ?_⟩, hb.setCell (p := ⟨G, 0, none⟩) (Nat.le_refl G) _, (KeepT.grown h.own hg).trans (KeepT.set hk 0 _)⟩
  · rw [avCells_append, List.length_append]
    exact own_setQ hn (Nat.lt_succ_self G) 0 _
  · intro y hy
    have hy' : w.ownsRow (G + 1) 34 2 (.slice y.A y.pts.length y.c) y.pts.length (ptRow y.pts) := by
      rcases List.mem_append.1 hy with h1 | h1
      · exact h.rows y h1
      · simp at h1; subst h1; exact hx
    exact own_setQ (hy'.kept hg (own_apartK (by decide) hy' h.own)) (Nat.lt_succ_self G) 0 _
theorem Gat.rd {w : World} {G : Nat} {V : List Av} {ov : Value} {bd : Bool} (h : Gat w G V ov bd) : ∃ q k, ov = .slice q V.length k ∧ V.length ≤ k ∧ RdAs w w.heap.size q V := by
  obtain ⟨p, cap, e, hc, -, hr⟩ := RdV.ofOwnK h.own
  refine ⟨p, cap, e, hc, hr, fun x hm => ?_⟩
  obtain ⟨q, c', e', -, -, hr'⟩ := RdV.ofOwnK (h.rows x hm)
  cases e'
  exact hr'

set_option maxRecDepth 10000 in
set_option maxHeartbeats 1600000 in
theorem stroke_fit (L : List Pt) (A : Option Addr) (c : Nat) (w : World) (hL : RdV w w.heap.size A (ptRow L)) (hl : L.length ≤ 1073741824) :
    Calls Tryd.prog 9 #[.slice A L.length c] w fun e w' => e = .returned (.bool (decide (FitL L))) ∧ Below w.heap.size w w' := by
  obtain ⟨n, hn⟩ : ∃ n, L.length = n := ⟨_, rfl⟩
  have HN := Lib.hid hn
  have HL := Lib.hid hL
  rw [hn] at hl ⊢
  obtain ⟨r, hr⟩ : ∃ r : Bool, decide (FitL L) = r := ⟨_, rfl⟩
  have HR := Lib.hid hr
  rw [hr]
  clear hn hL hr
  go_enter Tryd.func9, Tryd.ntmps9
  go_wp2_with fail
  go_loopg [7] n (fun gh it wr => ∃ i : Nat, it = .int .i64 (i : Int) ∧ gh + i = n ∧ (∀ p ∈ L.take i, FitP p) ∧ Below w.heap.size w wr)
  case atStart => exact ⟨0, rfl, by omega, by simp, Below.refl _ _⟩
  case round =>
    obtain ⟨i, rfl, hg, hok, hB⟩ := hrel
    by_cases hlt : i < n
    · have hlt' : i < L.length := by rw [HN.out]; exact hlt
      obtain ⟨g, o, rfl, hgl, e0, e1⟩ := (HL.out.below hB).pt (i := i) hlt'
      have hil : (i : Int) < (n : Int) := by omega
      obtain ⟨p, hpp⟩ : ∃ p, L[i] = p := ⟨_, rfl⟩
      have HST := Lib.hid (fitL_step hlt' hok)
      have HNO := Lib.hid (fitL_not hlt')
      rw [hpp] at e0 e1 HST HNO
      obtain ⟨d, hd⟩ : ∃ d : Bool, decide (FitP p) = d := ⟨_, rfl⟩
      have cF := fun V => aff_Fits p V
      rw [hd] at cF
      obtain ⟨x, y⟩ := p
      unfold ptV at cF
      dsimp only at e0 e1 cF
      obtain ⟨V0, hV0, k0, c0⟩ := endP wr 34 (.int .i64 x) (.int .i64 y)
      obtain ⟨⟨t0, t1⟩, -⟩ := Box.pair k0
      have CF := Lib.hid cF
      have HB := Lib.hid (hB.trans (c0.mono hB.size))
      have HD := Lib.hid hd
      clear hok hB cF hpp hlt' hd k0 c0
      cases d with
      | true =>
        have HS := Lib.hid (HST.out (of_decide_eq_true HD.out))
        clear HST HNO
        go_wp2_with first
          | (rw [hV0])
          | ((try rw [hV0]); go_at_call 17; with_reducible refine Calls.mono (CF.out _) ?_; rintro e w1 ⟨rfl, b1⟩)
        have hBB := HB.out.trans (b1.mono HB.out.size)
        go_roundg (n - (i + 1))
        case measure => omega
        case rel => exact ⟨i + 1, by simp, by omega, HS.out, hBB⟩
      | false =>
        have HS := Lib.hid (decide_eq_false (HNO.out (of_decide_eq_false HD.out)))
        clear HST HNO
        go_wp2_with first
          | (rw [hV0])
          | ((try rw [hV0]); go_at_call 17; with_reducible refine Calls.mono (CF.out _) ?_; rintro e w1 ⟨rfl, b1⟩)
        have hBB := HB.out.trans (b1.mono HB.out.size)
        go_ret
        rw [← HR.out, HS.out]
        exact ⟨rfl, hBB⟩
    · obtain rfl : i = n := by omega
      have HF := Lib.hid (decide_eq_true (fitL_all (l := L) (by rw [HN.out]; exact hok)))
      have HB := Lib.hid hB
      clear hok hB
      go_wp2_with fail
      go_ret
      rw [← HR.out, HF.out]
      exact ⟨rfl, HB.out⟩

/-- what add leaves: the area that it was handed, turned, where it has one -/
def AddTo (G : Nat) (V : List Av) (bd : Bool) (P : List Pt) (w w' : World) : Prop := ∃ V' ov', Av.all V' = (if twiceM P = 0 then Av.all V else Av.all V ++ [turnedM P]) ∧ Gat w' G V' ov' (bd || !decide (FitL P)) ∧ Below G w w' ∧ KeepT w w'
theorem Av.all_snoc (V : List Av) (x : Av) : Av.all (V ++ [x]) = Av.all V ++ [x.pts] := by simp [Av.all]
theorem one_new (w : World) (t : TypeId) (a : Value) : ∀ j u, [a][j]? = some u → (w.alloc (.cells #[a] t)).cell? ((⟨w.heap.size, 0, none⟩ : Addr).add j) = some u := by
  intro j u hj
  rw [addr_add, Nat.zero_add]
  exact (Box.new w t [a]).cell j hj

set_option maxRecDepth 10000 in
set_option maxHeartbeats 6400000 in
theorem areas_add (G : Nat) (V : List Av) (ov : Value) (bd : Bool) (P : List Pt) (A : Option Addr) (c : Nat) (w : World) (h : Gat w G V ov bd) (hV : V.length ≤ 1073741824) (hP : RdV w w.heap.size A (ptRow P)) (hl : P.length ≤ 10000) (hc : P.length ≤ c) :
    Calls Tryd.prog 12 #[.pointer (some ⟨G, 0, none⟩), .slice A P.length c] w fun e w' => e = .returned (.tuple #[]) ∧ AddTo G V bd P w w' := by
  obtain ⟨j0, hj0, hy0, hy1, hy2⟩ := info_parts info_pts
  unfold AddTo
  have cF := stroke_fit P A c w hP (by omega)
  have cT := fun U (hr : RdV U U.heap.size A (ptRow P)) => gauge_Twice P A c U hr hl hc
  have cR := fun U (hr : RdV U U.heap.size A (ptRow P)) => gauge_RoundO P A c U hr hl hc
  unfold RoundO at cR
  obtain ⟨vn, hvn⟩ : ∃ vn, V.length = vn := ⟨_, rfl⟩
  have HVN := Lib.hid hvn
  have ho := h.own
  rw [hvn] at ho
  obtain ⟨qv, kv, rfl, -, -, -⟩ := RdV.ofOwnK ho
  obtain ⟨d, hd⟩ : ∃ d : Bool, decide (FitL P) = d := ⟨_, rfl⟩
  rw [hd] at cF ⊢
  obtain ⟨t, ht⟩ : ∃ t, twiceM P = t := ⟨_, rfl⟩
  simp only [ht] at cT
  rw [ht]
  obtain ⟨T, hT⟩ : ∃ T, turnedM P = T := ⟨_, rfl⟩
  simp only [hT] at cR
  rw [hT]
  obtain ⟨tn, htn⟩ : ∃ tn, T.length = tn := ⟨_, rfl⟩
  simp only [htn] at cR
  have HTN := Lib.hid htn
  obtain ⟨pn, hpn⟩ : ∃ pn, P.length = pn := ⟨_, rfl⟩
  simp only [hpn] at cF cT cR ⊢
  have CF := Lib.hid cF
  have CT := Lib.hid cT
  have CR := Lib.hid cR
  obtain ⟨⟨c0, c1⟩, c2, c3⟩ := Box.pair h.box
  have HW := Lib.hid (And.intro h hP)
  rw [hvn] at hV
  have hv1 : vn + 1 ≤ maxLen := by unfold maxLen; omega
  have hv2 : (vn + 1) * 24 ≤ 140737488355328 := by omega
  clear cF cT cR h hP ho hvn hd ht hT htn hpn hl hc hV
  cases bd
  · by_cases ht0 : t = 0
    · subst ht0
      rw [if_pos rfl]
      go_enter Tryd.func12, Tryd.ntmps12
      go_wp2_with first
        | (go_at_call 9; (with_reducible refine Calls.mono CF.out ?_); rintro e w1 ⟨rfl, b1⟩
           obtain ⟨⟨c0, c1⟩, c2, c3⟩ := Box.pair (HW.out.1.below b1).box
           obtain ⟨U, hU, gU, bU, kU⟩ := (HW.out.1.below b1).flag (!d)
           have HU := Lib.hid (show Gat U G V (.slice qv vn kv) (!d) ∧ Below G w U ∧ KeepT w U ∧ RdV U U.heap.size A (ptRow P) from ⟨gU, (b1.mono (Nat.le_of_lt HW.out.1.box.lt)).trans bU, (KeepT.of b1).trans kU, by
             have h2 := (HW.out.2.on b1).flagged ((HW.out.1.below b1).box) 1 (.bool (!d))
             rw [hU] at h2
             exact h2.mono (by rw [← hU]; simp)⟩)
           clear gU bU kU
           clear b1)
        | (rw [hU])
        | (go_at_call 25; (with_reducible refine Calls.mono (CT.out _ HU.out.2.2.2) ?_); rintro e w2 ⟨rfl, b2⟩
           have H2 := Lib.hid (show Gat w2 G V (.slice qv vn kv) (!d) ∧ Below G w w2 ∧ KeepT w w2 ∧ RdV w2 w2.heap.size A (ptRow P) from ⟨HU.out.1.below b2, HU.out.2.1.trans (b2.mono (Nat.le_of_lt HU.out.1.box.lt)), HU.out.2.2.1.trans (KeepT.of b2), HU.out.2.2.2.on b2⟩)
           clear b2)
      go_end0
      exact ⟨rfl, V, _, rfl, H2.out.1, H2.out.2.1, H2.out.2.2.1⟩
    · have ht1 : (t == 0) = false := by simpa using ht0
      have ht2 : (t != 0) = true := by simpa using ht0
      rw [if_neg ht0]
      go_enter Tryd.func12, Tryd.ntmps12
      go_wp2_with first
        | (go_at_call 9; (with_reducible refine Calls.mono CF.out ?_); rintro e w1 ⟨rfl, b1⟩
           obtain ⟨⟨c0, c1⟩, c2, c3⟩ := Box.pair (HW.out.1.below b1).box
           obtain ⟨U, hU, gU, bU, kU⟩ := (HW.out.1.below b1).flag (!d)
           have HU := Lib.hid (show Gat U G V (.slice qv vn kv) (!d) ∧ Below G w U ∧ KeepT w U ∧ RdV U U.heap.size A (ptRow P) from ⟨gU, (b1.mono (Nat.le_of_lt HW.out.1.box.lt)).trans bU, (KeepT.of b1).trans kU, by
             have h2 := (HW.out.2.on b1).flagged ((HW.out.1.below b1).box) 1 (.bool (!d))
             rw [hU] at h2
             exact h2.mono (by rw [← hU]; simp)⟩)
           clear gU bU kU
           clear b1)
        | (rw [hU])
        | (go_at_call 25; (with_reducible refine Calls.mono (CT.out _ HU.out.2.2.2) ?_); rintro e w2 ⟨rfl, b2⟩
           have H2 := Lib.hid (show Gat w2 G V (.slice qv vn kv) (!d) ∧ Below G w w2 ∧ KeepT w w2 ∧ RdV w2 w2.heap.size A (ptRow P) from ⟨HU.out.1.below b2, HU.out.2.1.trans (b2.mono (Nat.le_of_lt HU.out.1.box.lt)), HU.out.2.2.1.trans (KeepT.of b2), HU.out.2.2.2.on b2⟩)
           clear b2)
      obtain ⟨⟨c0, c1⟩, c2, c3⟩ := Box.pair H2.out.1.box
      have HRD := Lib.hid (show RdV w2.drew w2.drew.heap.size A (ptRow P) from H2.out.2.2.2)
      go_region_law (first
        | (refine step_append_lies _ (by rfl) _ _ _ (by rfl) (G + 1) 22 j0 (.slice none 0 0) 1 24 Tryd.underlying28 hj0 hy0 hy1 hy2 rfl (by omega) _ vn (avCells V) (by rfl) HO9.out ⟨w9.heap.size, 0, none⟩ 1 1 [.slice q9 tn k9] (by rfl) (by rfl) (one_new w9 22 _) (by simp [Value.oneCell']) (by omega) hv1 hv2 hx9 (w9.heap.size + 1) (by simp) ?_
           intro gg cap w8 hown8 hgrow8 hor8 hlt8
           obtain ⟨⟨r1, r2⟩, U8, hU8, r3, r4, r5⟩ := Gat.more HG9.out ⟨q9, k9, T⟩ (by dsimp only; rw [HTN.out]; exact HT9.out) hgrow8 (by dsimp only; rw [HVN.out, HTN.out]; exact hown8)
           replace r3 := Lib.hid (And.intro r3 (And.intro r4 r5))
           clear hown8 hgrow8 hor8 hlt8 r4 r5)
        | (go_simp; go_at_call 26; (with_reducible refine Calls.mono (CR.out _ HRD.out) ?_); rintro e w9 ⟨⟨v9, rfl, ho9⟩, b9⟩
           obtain ⟨q9, k9, rfl, -, -, -⟩ := RdV.ofOwnK ho9
           have b9' := (below_new w9 (.cells #[.slice q9 tn k9] 22))
           have g9' := H2.out.1.below (show Below w2.heap.size w2 w9 from (Below.refl _ w2).drew.trans b9)
           have g9 := g9'.below b9'
           obtain ⟨⟨d0, -⟩, -⟩ := Box.pair g9'.box
           obtain ⟨⟨d1, -⟩, -⟩ := Box.pair g9.box
           clear g9'
           have HG9 := Lib.hid g9
           have HO9 := Lib.hid (show (w9.alloc (.cells #[.slice q9 tn k9] 22)).ownsRow (G + 1) 22 1 (.slice qv vn kv) vn (avCells V) from by have h := g9.own; rw [HVN.out] at h; exact h)
           have HT9 := Lib.hid (show (w9.alloc (.cells #[.slice q9 tn k9] 22)).ownsRow (G + 1) 34 2 (.slice q9 tn k9) tn (ptRow T) from own_below (own_mono ho9 (show G + 1 ≤ w2.drew.heap.size from H2.out.1.box.lt)) b9')
           have HB9 := Lib.hid (show Below w2.heap.size w2 (w9.alloc (.cells #[.slice q9 tn k9] 22)) from ((Below.refl _ w2).drew.trans b9).trans (b9'.mono (show w2.heap.size ≤ w9.heap.size from b9.size)))
           have hx9 : G + 1 ≤ (w9.alloc (.cells #[.slice q9 tn k9] 22)).heap.size := Nat.le_trans H2.out.1.box.lt HB9.out.size
           clear ho9 b9 b9' g9))
      all_goals
        have HE := Lib.hid (And.intro (H2.out.2.1.trans ((HB9.out.mono (Nat.le_of_lt H2.out.1.box.lt)).trans r3.out.2.1)) (H2.out.2.2.1.trans ((KeepT.of HB9.out).trans r3.out.2.2)))
        go_end0
        exact ⟨rfl, _, _, Av.all_snoc _ _, r3.out.1, HE.out.1, HE.out.2⟩
  · by_cases ht0 : t = 0
    · subst ht0
      rw [if_pos rfl]
      obtain ⟨U, hU, gU, bU, kU⟩ := HW.out.1.flag (true)
      have HU := Lib.hid (show Gat U G V (.slice qv vn kv) (true) ∧ Below G w U ∧ KeepT w U ∧ RdV U U.heap.size A (ptRow P) from ⟨gU, bU, kU, by
        have h2 := (HW.out.2).flagged (HW.out.1.box) 1 (.bool (true))
        rw [hU] at h2
        exact h2.mono (by rw [← hU]; simp)⟩)
      clear gU bU kU
      go_enter Tryd.func12, Tryd.ntmps12
      go_wp2_with first
        | (rw [hU])
        | (go_at_call 25; (with_reducible refine Calls.mono (CT.out _ HU.out.2.2.2) ?_); rintro e w2 ⟨rfl, b2⟩
           have H2 := Lib.hid (show Gat w2 G V (.slice qv vn kv) (true) ∧ Below G w w2 ∧ KeepT w w2 ∧ RdV w2 w2.heap.size A (ptRow P) from ⟨HU.out.1.below b2, HU.out.2.1.trans (b2.mono (Nat.le_of_lt HU.out.1.box.lt)), HU.out.2.2.1.trans (KeepT.of b2), HU.out.2.2.2.on b2⟩)
           clear b2)
      go_end0
      exact ⟨rfl, V, _, rfl, H2.out.1, H2.out.2.1, H2.out.2.2.1⟩
    · have ht1 : (t == 0) = false := by simpa using ht0
      have ht2 : (t != 0) = true := by simpa using ht0
      rw [if_neg ht0]
      obtain ⟨U, hU, gU, bU, kU⟩ := HW.out.1.flag (true)
      have HU := Lib.hid (show Gat U G V (.slice qv vn kv) (true) ∧ Below G w U ∧ KeepT w U ∧ RdV U U.heap.size A (ptRow P) from ⟨gU, bU, kU, by
        have h2 := (HW.out.2).flagged (HW.out.1.box) 1 (.bool (true))
        rw [hU] at h2
        exact h2.mono (by rw [← hU]; simp)⟩)
      clear gU bU kU
      go_enter Tryd.func12, Tryd.ntmps12
      go_wp2_with first
        | (rw [hU])
        | (go_at_call 25; (with_reducible refine Calls.mono (CT.out _ HU.out.2.2.2) ?_); rintro e w2 ⟨rfl, b2⟩
           have H2 := Lib.hid (show Gat w2 G V (.slice qv vn kv) (true) ∧ Below G w w2 ∧ KeepT w w2 ∧ RdV w2 w2.heap.size A (ptRow P) from ⟨HU.out.1.below b2, HU.out.2.1.trans (b2.mono (Nat.le_of_lt HU.out.1.box.lt)), HU.out.2.2.1.trans (KeepT.of b2), HU.out.2.2.2.on b2⟩)
           clear b2)
      obtain ⟨⟨c0, c1⟩, c2, c3⟩ := Box.pair H2.out.1.box
      have HRD := Lib.hid (show RdV w2.drew w2.drew.heap.size A (ptRow P) from H2.out.2.2.2)
      go_region_law (first
        | (refine step_append_lies _ (by rfl) _ _ _ (by rfl) (G + 1) 22 j0 (.slice none 0 0) 1 24 Tryd.underlying28 hj0 hy0 hy1 hy2 rfl (by omega) _ vn (avCells V) (by rfl) HO9.out ⟨w9.heap.size, 0, none⟩ 1 1 [.slice q9 tn k9] (by rfl) (by rfl) (one_new w9 22 _) (by simp [Value.oneCell']) (by omega) hv1 hv2 hx9 (w9.heap.size + 1) (by simp) ?_
           intro gg cap w8 hown8 hgrow8 hor8 hlt8
           obtain ⟨⟨r1, r2⟩, U8, hU8, r3, r4, r5⟩ := Gat.more HG9.out ⟨q9, k9, T⟩ (by dsimp only; rw [HTN.out]; exact HT9.out) hgrow8 (by dsimp only; rw [HVN.out, HTN.out]; exact hown8)
           replace r3 := Lib.hid (And.intro r3 (And.intro r4 r5))
           clear hown8 hgrow8 hor8 hlt8 r4 r5)
        | (go_simp; go_at_call 26; (with_reducible refine Calls.mono (CR.out _ HRD.out) ?_); rintro e w9 ⟨⟨v9, rfl, ho9⟩, b9⟩
           obtain ⟨q9, k9, rfl, -, -, -⟩ := RdV.ofOwnK ho9
           have b9' := (below_new w9 (.cells #[.slice q9 tn k9] 22))
           have g9' := H2.out.1.below (show Below w2.heap.size w2 w9 from (Below.refl _ w2).drew.trans b9)
           have g9 := g9'.below b9'
           obtain ⟨⟨d0, -⟩, -⟩ := Box.pair g9'.box
           obtain ⟨⟨d1, -⟩, -⟩ := Box.pair g9.box
           clear g9'
           have HG9 := Lib.hid g9
           have HO9 := Lib.hid (show (w9.alloc (.cells #[.slice q9 tn k9] 22)).ownsRow (G + 1) 22 1 (.slice qv vn kv) vn (avCells V) from by have h := g9.own; rw [HVN.out] at h; exact h)
           have HT9 := Lib.hid (show (w9.alloc (.cells #[.slice q9 tn k9] 22)).ownsRow (G + 1) 34 2 (.slice q9 tn k9) tn (ptRow T) from own_below (own_mono ho9 (show G + 1 ≤ w2.drew.heap.size from H2.out.1.box.lt)) b9')
           have HB9 := Lib.hid (show Below w2.heap.size w2 (w9.alloc (.cells #[.slice q9 tn k9] 22)) from ((Below.refl _ w2).drew.trans b9).trans (b9'.mono (show w2.heap.size ≤ w9.heap.size from b9.size)))
           have hx9 : G + 1 ≤ (w9.alloc (.cells #[.slice q9 tn k9] 22)).heap.size := Nat.le_trans H2.out.1.box.lt HB9.out.size
           clear ho9 b9 b9' g9))
      all_goals
        have HE := Lib.hid (And.intro (H2.out.2.1.trans ((HB9.out.mono (Nat.le_of_lt H2.out.1.box.lt)).trans r3.out.2.1)) (H2.out.2.2.1.trans ((KeepT.of HB9.out).trans r3.out.2.2)))
        go_end0
        exact ⟨rfl, _, _, Av.all_snoc _ _, r3.out.1, HE.out.1, HE.out.2⟩
end Go.Proofs.YtngnclibeccplaaDoor
/- Lines as areas, the program's own: a line without repeats. -/

namespace Go.Proofs.YtngnclibeccplaaDoor
open Go.RowKit Num

set_option maxRecDepth 10000 in
set_option maxHeartbeats 1600000 in
theorem slices_CompactS (q : Option Addr) (n c : Nat) (h : n < 2) (w : World) :
    Calls Tryd.prog 23 #[.slice q n c] w fun e w' => e = .returned (.slice q n c) ∧ w = w' := by
  have h2 : (n : Int) < 2 := by omega
  go_enter Tryd.func23, Tryd.ntmps23
  go_wp2_with fail
  go_ret
  exact ⟨rfl, rfl⟩
theorem slices_CompactO (L : List Pt) (base : Nat) (v : Value) (w : World) (h : w.ownsRow base 34 2 v L.length (ptRow L)) (hl : L.length ≤ 1073741824) :
    Calls Tryd.prog 23 #[v] w fun e w' => ∃ v', e = .returned v' ∧ w'.ownsRow base 34 2 v' (onceM L).length (ptRow (onceM L)) ∧ Below base w w' := by
  rcases Nat.eq_zero_or_pos L.length with h0 | h0
  · obtain ⟨q, k, rfl, -, -, -⟩ := RdV.ofOwnK h
    refine (slices_CompactS q L.length k (by omega) w).mono ?_
    rintro e w' ⟨rfl, rfl⟩
    rw [once_short (by omega)]
    exact ⟨_, rfl, h, Below.refl _ _⟩
  · obtain ⟨g, k, R, rfl, hk, hkm, hg, h1, hR⟩ := Lies.ofOwnQ h h0
    refine (slices_Compact L g R k w h1 hl hk).mono ?_
    rintro e w' ⟨⟨R', rfl, h2, h3⟩, h4⟩
    exact ⟨_, rfl, h2.ownQ hg hkm (by omega), h4.mono hg⟩

/-- the line that apart answers -/
def ApartTo (L : List Pt) (cl : Bool) (w : World) (e : Ending) (w' : World) : Prop :=
  (∃ v, e = .returned (.agg #[v, .bool cl]) ∧ w'.ownsRow w.heap.size 34 2 v (lineM L cl).length (ptRow (lineM L cl))) ∧ Below w.heap.size w w'
/-- the boxes of a line that came in and of one that goes out -/
theorem line_boxes (w : World) (a b : Value) : ∃ W, (w.alloc (.cells #[a, b] 24)).alloc (.cells #[.slice none 0 0, .bool false] 24) = W ∧ Box W w.heap.size 24 [a, b] ∧ Box W (w.heap.size + 1) 24 [.slice none 0 0, .bool false] ∧ Below w.heap.size w W :=
  ⟨_, rfl, (Box.new w _ [a, b]).alloc _, Box.at_new (w.alloc (.cells #[a, b] 24)) _ [.slice none 0 0, .bool false] (by simp), ((Below.refl _ w).alloc (Nat.le_refl _) _).alloc (by simp) _⟩

set_option maxRecDepth 10000 in
set_option maxHeartbeats 6400000 in
theorem stroke_apart (L : List Pt) (A : Option Addr) (c : Nat) (cl : Bool) (w : World) (hL : RdV w w.heap.size A (ptRow L)) (hl : L.length ≤ 1048576) :
    Calls Tryd.prog 11 #[.agg #[.slice A L.length c, .bool cl]] w (ApartTo L cl w) := by
  obtain ⟨W, hW, k1, k2, bW⟩ := line_boxes w (.slice A L.length c) (.bool cl)
  have cC := slices_CloneO L A c W (hL.on bW) (by omega)
  have cK := fun v V (h : V.ownsRow W.heap.size 34 2 v L.length (ptRow L)) => slices_CompactO L W.heap.size v V h (by omega)
  unfold ApartTo
  have hm := onceTo_le L L.length
  have e1 : (onceM L).length ≤ 1048576 := Nat.le_trans hm hl
  have hLM : lineM L cl = if cl = true ∧ 1 < (onceM L).length ∧ (onceM L).getD 0 pt0 = (onceM L).getD ((onceM L).length - 1) pt0 then (onceM L).take ((onceM L).length - 1) else onceM L := rfl
  rw [hLM]
  clear hLM hm
  generalize onceM L = O at cK e1 ⊢
  obtain ⟨n, hn⟩ : ∃ n, L.length = n := ⟨_, rfl⟩
  rw [hn] at cC cK k1 hW ⊢
  obtain ⟨m, hm⟩ : ∃ m, O.length = m := ⟨_, rfl⟩
  rw [hm] at cK e1 ⊢
  have HM := Lib.hid hm
  have CC := Lib.hid cC
  have CK := Lib.hid cK
  have HK := Lib.hid (And.intro k1 (And.intro k2 bW))
  have m2 : IntKind.i64.wrap ((m : Int) - 1) = (m : Int) - 1 := IntWalk.i64_in _ (by omega)
  obtain ⟨⟨p0, p1⟩, -⟩ := Box.pair k1
  clear cC cK hL hl hn hm k1 k2 bW
  have HX := Lib.hid (fun V (h : Below W.heap.size W V) => And.intro (HK.out.1.below h HK.out.1.lt) (And.intro (HK.out.2.1.below h HK.out.2.1.lt) (HK.out.2.2.trans (h.mono HK.out.2.2.size))))
  have HSZ := Lib.hid (show w.heap.size + 1 < W.heap.size from HK.out.2.1.lt)
  cases cl with
  | false =>
    rw [if_neg (fun h => by cases h.1)]
    rw [show O.length = m from HM.out]
    go_enter Tryd.func11, Tryd.ntmps11
    go_wp2_with first
      | (rw [hW])
      | (go_at_call 24; (with_reducible refine Calls.mono CC.out ?_); rintro e w1 ⟨v1, rfl, ho1, b1⟩)
      | (go_at_call 23; (with_reducible refine Calls.mono (CK.out v1 w1 ho1) ?_); rintro e w2 ⟨v2, rfl, ho2, b2⟩
         obtain ⟨q2, k2, rfl, hk2, -, hr2⟩ := RdV.ofOwnK ho2
         have b3 := b1.trans b2
         have H2 := Lib.hid (And.intro ho2 (And.intro b3 hk2))
         obtain ⟨⟨p0, p1⟩, -⟩ := Box.pair (HX.out w2 b3).1
         clear ho1 b1 ho2 b2 hr2 b3 hk2)
    go_quiet (fail)
    obtain ⟨X, hX⟩ : ∃ X, w2.drewN nq = X := ⟨_, rfl⟩
    have HX2 := Lib.hid (HX.out X (by rw [← hX]; exact below_figE H2.out.2.1 nq))
    have HO2 := Lib.hid (show X.ownsRow W.heap.size 34 2 (.slice q2 m k2) m (ptRow O) from by rw [← hX]; exact H2.out.1)
    rw [hX]
    clear p0 p1 hX
    obtain ⟨⟨p0, p1⟩, -⟩ := Box.pair HX2.out.1
    obtain ⟨⟨z0, z1⟩, z2, z3⟩ := Box.pair HX2.out.2.1
    obtain ⟨U, hU, kU, ⟨u0, u1⟩, bU⟩ := HX2.out.2.1.stored2 (.slice q2 m k2) (.bool false)
    have HUB := Lib.hid (HX2.out.2.2.trans (bU w.heap.size (by omega)))
    have HUO := Lib.hid (show U.ownsRow w.heap.size 34 2 (.slice q2 m k2) m (ptRow O) from by
      rw [← hU]
      have h := HO2.out
      exact own_mono (own_setQ (own_setQ h HSZ.out 0 _) HSZ.out 1 _) HK.out.2.2.size)
    have HU := Lib.hid hU
    clear kU bU hU
    go_wp2_with fail
    try rw [HU.out]
    exact bodyPost_ret (by simp [results, Tryd.results11, go_sem, u0, u1]) rfl ⟨⟨_, rfl, HUO.out⟩, HUB.out⟩
  | true =>
    by_cases h1 : 1 < m
    · have HPOS := Lib.hid (show 0 < m ∧ m - 1 < m from by omega)
      have m1 : (1 : Int) < (m : Int) := by omega
      have m3 : 0 ≤ (m : Int) - 1 ∧ (m : Int) - 1 < (m : Int) := by omega
      have m5 : (0 : Int) < (m : Int) := by omega
      obtain ⟨j, hj⟩ : ∃ j, m - 1 = j := ⟨_, rfl⟩
      have m4 : ((m : Int) - 1).toNat = m - 1 := by omega
      obtain ⟨p, hp⟩ : ∃ p, O.getD 0 pt0 = p := ⟨_, rfl⟩
      obtain ⟨p', hp'⟩ : ∃ p, O.getD (m - 1) pt0 = p := ⟨_, rfl⟩
      rw [hp, hp']
      have HJ := Lib.hid hj
      obtain ⟨x, y⟩ := p
      obtain ⟨x', y'⟩ := p'
      have HQ0 := Lib.hid hp
      have HQ1 := Lib.hid hp'
      clear hp hp' hj
      by_cases hx : x' = x
      · subst hx
        by_cases hy : y' = y
        · subst hy
          rw [if_pos ⟨rfl, h1, rfl⟩]
          rw [show (O.take (m - 1)).length = m - 1 from by rw [List.length_take, HM.out]; omega]
          clear h1
          go_enter Tryd.func11, Tryd.ntmps11
          go_wp2_with first
            | (rw [hW])
            | (go_at_call 24; (with_reducible refine Calls.mono CC.out ?_); rintro e w1 ⟨v1, rfl, ho1, b1⟩)
            | (go_at_call 23; (with_reducible refine Calls.mono (CK.out v1 w1 ho1) ?_); rintro e w2 ⟨v2, rfl, ho2, b2⟩
               obtain ⟨q2, k2, rfl, hk2, -, hr2⟩ := RdV.ofOwnK ho2
               have b3 := b1.trans b2
               have H2 := Lib.hid (And.intro ho2 (And.intro b3 hk2))
               obtain ⟨⟨p0, p1⟩, -⟩ := Box.pair (HX.out w2 b3).1
               obtain ⟨b, o, rfl, -, e0, e1⟩ := hr2.ptD (i := 0) (by rw [HM.out]; exact HPOS.out.1)
               obtain ⟨b', o', e', -, f0, f1⟩ := hr2.ptD (i := m - 1) (by rw [HM.out]; exact HPOS.out.2)
               cases e'
               simp only [Nat.zero_mul, Nat.add_zero, HQ0.out, HQ1.out] at e0 e1 f0 f1
               have m6 : (m : Int) - 1 ≤ (k2 : Int) := by omega
               clear ho1 b1 ho2 b2 hr2 b3 hk2)
          go_quiet (fail)
          obtain ⟨X, hX⟩ : ∃ X, w2.drewN nq = X := ⟨_, rfl⟩
          have HX2 := Lib.hid (HX.out X (by rw [← hX]; exact below_figE H2.out.2.1 nq))
          have HO2 := Lib.hid (show X.ownsRow W.heap.size 34 2 (.slice (some ⟨b, o, none⟩) m k2) m (ptRow O) from by rw [← hX]; exact H2.out.1)
          rw [hX]
          clear p0 p1 hX
          obtain ⟨⟨p0, p1⟩, -⟩ := Box.pair HX2.out.1
          obtain ⟨⟨z0, z1⟩, z2, z3⟩ := Box.pair HX2.out.2.1
          obtain ⟨U, hU, kU, ⟨u0, u1⟩, bU⟩ := HX2.out.2.1.stored2 (.slice (some ⟨b, o, none⟩) (m - 1) k2) (.bool true)
          have HUB := Lib.hid (HX2.out.2.2.trans (bU w.heap.size (by omega)))
          have HUO := Lib.hid (show U.ownsRow w.heap.size 34 2 (.slice (some ⟨b, o, none⟩) (m - 1) k2) (m - 1) (ptRow (O.take (m - 1))) from by
            rw [← hU]
            have h := own_take HO2.out (m := m - 1) (by omega) HPOS.out.1
            rw [ptRow_take] at h
            exact own_mono (own_setQ (own_setQ h HSZ.out 0 _) HSZ.out 1 _) HK.out.2.2.size)
          have HU := Lib.hid hU
          clear kU bU hU
          go_wp2_with fail
          try rw [HU.out]
          exact bodyPost_ret (by simp [results, Tryd.results11, go_sem, u0, u1]) rfl ⟨⟨_, rfl, HUO.out⟩, HUB.out⟩
        · have hyb : (y' == y) = false := by simpa using hy
          rw [if_neg (fun h => hy (by have h2 := h.2.2; simp only [Pt.mk.injEq] at h2; exact h2.2.symm))]
          rw [show O.length = m from HM.out]
          clear h1
          go_enter Tryd.func11, Tryd.ntmps11
          go_wp2_with first
            | (rw [hW])
            | (go_at_call 24; (with_reducible refine Calls.mono CC.out ?_); rintro e w1 ⟨v1, rfl, ho1, b1⟩)
            | (go_at_call 23; (with_reducible refine Calls.mono (CK.out v1 w1 ho1) ?_); rintro e w2 ⟨v2, rfl, ho2, b2⟩
               obtain ⟨q2, k2, rfl, hk2, -, hr2⟩ := RdV.ofOwnK ho2
               have b3 := b1.trans b2
               have H2 := Lib.hid (And.intro ho2 (And.intro b3 hk2))
               obtain ⟨⟨p0, p1⟩, -⟩ := Box.pair (HX.out w2 b3).1
               obtain ⟨b, o, rfl, -, e0, e1⟩ := hr2.ptD (i := 0) (by rw [HM.out]; exact HPOS.out.1)
               obtain ⟨b', o', e', -, f0, f1⟩ := hr2.ptD (i := m - 1) (by rw [HM.out]; exact HPOS.out.2)
               cases e'
               simp only [Nat.zero_mul, Nat.add_zero, HQ0.out, HQ1.out] at e0 e1 f0 f1
               have m6 : (m : Int) - 1 ≤ (k2 : Int) := by omega
               clear ho1 b1 ho2 b2 hr2 b3 hk2)
          go_quiet (fail)
          obtain ⟨X, hX⟩ : ∃ X, w2.drewN nq = X := ⟨_, rfl⟩
          have HX2 := Lib.hid (HX.out X (by rw [← hX]; exact below_figE H2.out.2.1 nq))
          have HO2 := Lib.hid (show X.ownsRow W.heap.size 34 2 (.slice (some ⟨b, o, none⟩) m k2) m (ptRow O) from by rw [← hX]; exact H2.out.1)
          rw [hX]
          clear p0 p1 hX
          obtain ⟨⟨p0, p1⟩, -⟩ := Box.pair HX2.out.1
          obtain ⟨⟨z0, z1⟩, z2, z3⟩ := Box.pair HX2.out.2.1
          obtain ⟨U, hU, kU, ⟨u0, u1⟩, bU⟩ := HX2.out.2.1.stored2 (.slice (some ⟨b, o, none⟩) m k2) (.bool true)
          have HUB := Lib.hid (HX2.out.2.2.trans (bU w.heap.size (by omega)))
          have HUO := Lib.hid (show U.ownsRow w.heap.size 34 2 (.slice (some ⟨b, o, none⟩) m k2) m (ptRow O) from by
            rw [← hU]
            have h := HO2.out
            exact own_mono (own_setQ (own_setQ h HSZ.out 0 _) HSZ.out 1 _) HK.out.2.2.size)
          have HU := Lib.hid hU
          clear kU bU hU
          go_wp2_with fail
          try rw [HU.out]
          exact bodyPost_ret (by simp [results, Tryd.results11, go_sem, u0, u1]) rfl ⟨⟨_, rfl, HUO.out⟩, HUB.out⟩
      · have hxb : (x' == x) = false := by simpa using hx
        rw [if_neg (fun h => hx (by have h2 := h.2.2; simp only [Pt.mk.injEq] at h2; exact h2.1.symm))]
        rw [show O.length = m from HM.out]
        clear h1
        go_enter Tryd.func11, Tryd.ntmps11
        go_wp2_with first
          | (rw [hW])
          | (go_at_call 24; (with_reducible refine Calls.mono CC.out ?_); rintro e w1 ⟨v1, rfl, ho1, b1⟩)
          | (go_at_call 23; (with_reducible refine Calls.mono (CK.out v1 w1 ho1) ?_); rintro e w2 ⟨v2, rfl, ho2, b2⟩
             obtain ⟨q2, k2, rfl, hk2, -, hr2⟩ := RdV.ofOwnK ho2
             have b3 := b1.trans b2
             have H2 := Lib.hid (And.intro ho2 (And.intro b3 hk2))
             obtain ⟨⟨p0, p1⟩, -⟩ := Box.pair (HX.out w2 b3).1
             obtain ⟨b, o, rfl, -, e0, e1⟩ := hr2.ptD (i := 0) (by rw [HM.out]; exact HPOS.out.1)
             obtain ⟨b', o', e', -, f0, f1⟩ := hr2.ptD (i := m - 1) (by rw [HM.out]; exact HPOS.out.2)
             cases e'
             simp only [Nat.zero_mul, Nat.add_zero, HQ0.out, HQ1.out] at e0 e1 f0 f1
             have m6 : (m : Int) - 1 ≤ (k2 : Int) := by omega
             clear ho1 b1 ho2 b2 hr2 b3 hk2)
        go_quiet (fail)
        obtain ⟨X, hX⟩ : ∃ X, w2.drewN nq = X := ⟨_, rfl⟩
        have HX2 := Lib.hid (HX.out X (by rw [← hX]; exact below_figE H2.out.2.1 nq))
        have HO2 := Lib.hid (show X.ownsRow W.heap.size 34 2 (.slice (some ⟨b, o, none⟩) m k2) m (ptRow O) from by rw [← hX]; exact H2.out.1)
        rw [hX]
        clear p0 p1 hX
        obtain ⟨⟨p0, p1⟩, -⟩ := Box.pair HX2.out.1
        obtain ⟨⟨z0, z1⟩, z2, z3⟩ := Box.pair HX2.out.2.1
        obtain ⟨U, hU, kU, ⟨u0, u1⟩, bU⟩ := HX2.out.2.1.stored2 (.slice (some ⟨b, o, none⟩) m k2) (.bool true)
        have HUB := Lib.hid (HX2.out.2.2.trans (bU w.heap.size (by omega)))
        have HUO := Lib.hid (show U.ownsRow w.heap.size 34 2 (.slice (some ⟨b, o, none⟩) m k2) m (ptRow O) from by
          rw [← hU]
          have h := HO2.out
          exact own_mono (own_setQ (own_setQ h HSZ.out 0 _) HSZ.out 1 _) HK.out.2.2.size)
        have HU := Lib.hid hU
        clear kU bU hU
        go_wp2_with fail
        try rw [HU.out]
        exact bodyPost_ret (by simp [results, Tryd.results11, go_sem, u0, u1]) rfl ⟨⟨_, rfl, HUO.out⟩, HUB.out⟩
    · have m1 : ¬ (1 : Int) < (m : Int) := by omega
      have m7 : decide ((1 : Int) < (m : Int)) = false := decide_eq_false m1
      rw [if_neg (fun h => h1 h.2.1)]
      rw [show O.length = m from HM.out]
      clear h1
      go_enter Tryd.func11, Tryd.ntmps11
      go_wp2_with first
        | (rw [hW])
        | (go_at_call 24; (with_reducible refine Calls.mono CC.out ?_); rintro e w1 ⟨v1, rfl, ho1, b1⟩)
        | (go_at_call 23; (with_reducible refine Calls.mono (CK.out v1 w1 ho1) ?_); rintro e w2 ⟨v2, rfl, ho2, b2⟩
           obtain ⟨q2, k2, rfl, hk2, -, hr2⟩ := RdV.ofOwnK ho2
           have b3 := b1.trans b2
           have H2 := Lib.hid (And.intro ho2 (And.intro b3 hk2))
           obtain ⟨⟨p0, p1⟩, -⟩ := Box.pair (HX.out w2 b3).1
           clear ho1 b1 ho2 b2 hr2 b3 hk2)
      go_quiet (fail)
      obtain ⟨X, hX⟩ : ∃ X, w2.drewN nq = X := ⟨_, rfl⟩
      have HX2 := Lib.hid (HX.out X (by rw [← hX]; exact below_figE H2.out.2.1 nq))
      have HO2 := Lib.hid (show X.ownsRow W.heap.size 34 2 (.slice q2 m k2) m (ptRow O) from by rw [← hX]; exact H2.out.1)
      rw [hX]
      clear p0 p1 hX
      obtain ⟨⟨p0, p1⟩, -⟩ := Box.pair HX2.out.1
      obtain ⟨⟨z0, z1⟩, z2, z3⟩ := Box.pair HX2.out.2.1
      obtain ⟨U, hU, kU, ⟨u0, u1⟩, bU⟩ := HX2.out.2.1.stored2 (.slice q2 m k2) (.bool true)
      have HUB := Lib.hid (HX2.out.2.2.trans (bU w.heap.size (by omega)))
      have HUO := Lib.hid (show U.ownsRow w.heap.size 34 2 (.slice q2 m k2) m (ptRow O) from by
        rw [← hU]
        have h := HO2.out
        exact own_mono (own_setQ (own_setQ h HSZ.out 0 _) HSZ.out 1 _) HK.out.2.2.size)
      have HU := Lib.hid hU
      clear kU bU hU
      go_wp2_with fail
      try rw [HU.out]
      exact bodyPost_ret (by simp [results, Tryd.results11, go_sem, u0, u1]) rfl ⟨⟨_, rfl, HUO.out⟩, HUB.out⟩
end Go.Proofs.YtngnclibeccplaaDoor
/- Lines as areas, as mathematics: what is handed on one by one. -/

namespace Go.Proofs.YtngnclibeccplaaDoor
open Num

theorem keepTo_app (a b : List (List Pt)) : ∀ i, i ≤ a.length → keepTo (a ++ b) i = keepTo a i
  | 0, _ => rfl
  | i + 1, h => by
    have e : (a ++ b).getD i [] = a.getD i [] := by
      simp only [List.getD]
      rw [List.getElem?_append_left (by omega)]
    unfold keepTo
    rw [e, keepTo_app a b i (by omega)]
theorem keepTo_snoc (a : List (List Pt)) (x : List Pt) : keepTo (a ++ [x]) (a ++ [x]).length = if twiceM x = 0 then keepTo a a.length else keepTo a a.length ++ [turnedM x] := by
  have e : (a ++ [x]).getD a.length [] = x := by simp [List.getD]
  rw [List.length_append, List.length_singleton]
  show (if twiceM ((a ++ [x]).getD a.length []) = 0 then keepTo (a ++ [x]) a.length else keepTo (a ++ [x]) a.length ++ [turnedM ((a ++ [x]).getD a.length [])]) = _
  rw [e, keepTo_app a [x] a.length (Nat.le_refl _)]
theorem fitA_snoc (a : List (List Pt)) (x : List Pt) : (!decide (FitA (a ++ [x]))) = (!decide (FitA a) || !decide (FitL x)) := by
  have h : FitA (a ++ [x]) ↔ FitA a ∧ FitL x := by
    unfold FitA
    constructor
    · intro h
      exact ⟨fun y hy => h y (List.mem_append_left _ hy), h x (by simp)⟩
    · rintro ⟨h1, h2⟩ y hy
      rcases List.mem_append.1 hy with hy | hy
      · exact h1 y hy
      · simp at hy; subst hy; exact h2
  by_cases h1 : FitA a <;> by_cases h2 : FitL x <;> simp [h, h1, h2]
/-- a line's point, counted all around -/
def roundP (l : List Pt) (i : Nat) : Pt := l.getD (i % l.length) pt0
theorem ring_at {l : List Pt} {c : Bool} (hn : 0 < l.length) {i : Nat} (hi : i < (ringP l c).length) : (ringP l c).getD i pt0 = roundP l i := by
  unfold roundP
  cases c
  · have e : ringP l false = l := rfl
    rw [e] at hi ⊢
    rw [Nat.mod_eq_of_lt hi]
  · have e : ringP l true = l ++ l.take 1 := rfl
    rw [e] at hi ⊢
    rw [List.length_append, List.length_take] at hi
    rcases Nat.lt_or_ge i l.length with h | h
    · rw [Nat.mod_eq_of_lt h]
      simp only [List.getD]
      rw [List.getElem?_append_left h]
    · obtain rfl : i = l.length := by omega
      rw [Nat.mod_self]
      simp only [List.getD]
      rw [List.getElem?_append_right (Nat.le_refl _), Nat.sub_self, List.getElem?_take]
      simp
theorem bars_next {l : List Pt} {c : Bool} {h : Int} (hn : 0 < l.length) {i : Nat} (hi : i + 1 < (ringP l c).length) : barsTo (ringP l c) h (i + 1) = barsTo (ringP l c) h i ++ [barM (roundP l i) (roundP l (i + 1)) h] := by
  rw [← ring_at (c := c) hn (by omega), ← ring_at (c := c) hn hi]
  rfl
theorem round_add (l : List Pt) (i : Nat) : roundP l (i + l.length) = roundP l i := by unfold roundP; rw [Nat.add_mod_right]
theorem round_lt {l : List Pt} {i : Nat} (h : i < l.length) : roundP l i = l.getD i pt0 := by unfold roundP; rw [Nat.mod_eq_of_lt h]
theorem before_round {l : List Pt} {i : Nat} (h : i < l.length) : beforeP l i = roundP l (i + l.length - 1) := by
  unfold beforeP
  rcases Nat.eq_zero_or_pos i with rfl | h0
  · rw [if_pos rfl, Nat.zero_add, round_lt (by omega)]
  · rw [if_neg (by omega), show i + l.length - 1 = i - 1 + l.length by omega, round_add, round_lt (by omega)]
theorem next_round {l : List Pt} {i : Nat} (h : i < l.length) : nextP l i = roundP l (i + 1) := by
  unfold nextP
  by_cases h1 : i + 1 < l.length
  · rw [if_pos h1, round_lt h1]
  · rw [if_neg h1]
    obtain h2 : i + 1 = l.length := by omega
    unfold roundP
    rw [h2, Nat.mod_self]
theorem corners_next {l : List Pt} {c : Bool} {P : Pn} {i : Nat} (h : i < l.length) (hc : c = true ∨ (0 < i ∧ i + 1 < l.length)) : cornersTo l c P (i + 1) = cornersTo l c P i ++ [cornerM (roundP l (i + l.length - 1)) (roundP l i) (roundP l (i + 1)) P] := by
  rw [← before_round h, ← next_round h, round_lt h]
  show (if c = true ∨ (0 < i ∧ i + 1 < l.length) then _ else _) = _
  rw [if_pos hc]
theorem corners_one {l : List Pt} {P : Pn} : cornersTo l false P 1 = [] := by
  show (if false = true ∨ (0 < 0 ∧ 0 + 1 < l.length) then _ else _) = _
  rw [if_neg (by rintro (h | h); cases h; omega)]
  rfl
theorem corners_last {l : List Pt} {P : Pn} (h : 0 < l.length) : cornersTo l false P l.length = cornersTo l false P (l.length - 1) := by
  obtain ⟨m, hm⟩ : ∃ m, l.length = m + 1 := ⟨l.length - 1, by omega⟩
  rw [hm, Nat.add_sub_cancel]
  show (if false = true ∨ (0 < m ∧ m + 1 < l.length) then _ else _) = _
  rw [if_neg (by rintro (h | h); cases h; omega)]
theorem ring_len (l : List Pt) (c : Bool) (h : 0 < l.length) : (ringP l c).length = if c = true then l.length + 1 else l.length := by
  cases c
  · rfl
  · have e : ringP l true = l ++ l.take 1 := rfl
    rw [e, List.length_append, List.length_take, if_pos rfl]
    omega
theorem round_fit {l : List Pt} (h : FitL l) (i : Nat) : FitP (roundP l i) := h.getD _
end Go.Proofs.YtngnclibeccplaaDoor
/- Lines as areas, the program's own: a line's point, counted all around. -/

namespace Go.Proofs.YtngnclibeccplaaDoor
open Go.RowKit Num

set_option maxRecDepth 10000 in
set_option maxHeartbeats 1600000 in
theorem draw_at (l : List Pt) (q : Option Addr) (k : Nat) (cl : Bool) (bl bm : Nat) (z : Int) (j : Nat) (hz : z + l.length = j) (hz2 : -1 ≤ z) (hz3 : z ≤ 4294967296) (w : World) (hl : RdV w w.heap.size q (ptRow l)) (hn : 0 < l.length) (hnl : l.length ≤ 1073741824) (kl : Box w bl 24 [.slice q l.length k, .bool cl]) (km : Box w bm 3 [.int .i64 (l.length : Int)]) :
    Calls Tryd.prog 18 #[.int .i64 z, .pointer (some ⟨bl, 0, none⟩), .pointer (some ⟨bm, 0, none⟩)] w fun e w' => e = .returned (ptV (roundP l j)) ∧ Below w.heap.size w w' := by
  obtain ⟨b, o, rfl, hb, e0, e1⟩ := hl.ptD (i := j % l.length) (Nat.mod_lt _ hn)
  have hr : roundP l j = l.getD (j % l.length) pt0 := rfl
  rw [hr]
  clear hr
  have hj : j % l.length < l.length := Nat.mod_lt _ hn
  generalize l.getD (j % l.length) pt0 = p at e0 e1 ⊢
  obtain ⟨n, hnn⟩ : ∃ n, l.length = n := ⟨_, rfl⟩
  rw [hnn] at hz hn hnl kl km e0 e1 hj
  obtain ⟨W, hW, kW, bW⟩ := zero_box w
  obtain ⟨⟨l0, l1⟩, -⟩ := Box.pair (kl.below bW kl.lt)
  have m0 := (km.below bW km.lt).cell 0 rfl
  have d0 := (bW.cell (p := ⟨b, o + j % n * 2, none⟩) hb).trans e0
  have d1 := (bW.cell (p := ⟨b, o + j % n * 2 + 1, none⟩) hb).trans e1
  obtain ⟨x, y⟩ := p
  dsimp only at d0 d1
  have v1 : IntKind.i64.wrap (z + (n : Int)) = (j : Int) := by rw [hz]; exact IntWalk.i64_in _ (by omega)
  have v2 : IntKind.i64.wrap (((j : Int)).tmod (n : Int)) = ((j % n : Nat) : Int) := by
    rw [show ((j : Int)).tmod (n : Int) = ((j % n : Nat) : Int) from rfl]
    exact IntWalk.i64_in _ (by omega)
  have v3 : ((j : Int)).tmod (n : Int) = ((j % n : Nat) : Int) := rfl
  have v4 : ¬ (n : Int) = 0 := by omega
  have hjn : ((j % n : Nat) : Int) < (n : Int) := by omega
  have v5 : (j : Int) % (n : Int) = ((j % n : Nat) : Int) := rfl
  obtain ⟨r, hr⟩ : ∃ r, j % n = r := ⟨_, rfl⟩
  rw [hr] at d0 d1 v2 v3 v5 hj hjn
  obtain ⟨⟨z0, z1⟩, z2, z3⟩ := Box.pair kW
  obtain ⟨U, hU, kU, ⟨u0, u1⟩, bU⟩ := kW.stored2 (.int .i64 x) (.int .i64 y)
  have HB := Lib.hid (bW.trans (bU w.heap.size (Nat.le_refl _)))
  have HU := Lib.hid hU
  clear hU kU bU kW bW kl km hl e0 e1 hz hz2 hz3
  unfold ptV
  dsimp only
  go_enter Tryd.func18, Tryd.ntmps18
  go_wp2_with (rw [hW])
  go_region
  all_goals
    rw [HU.out]
    go_wp2_with fail
    have u2 : U.drew.cell? ⟨w.heap.size, 0, none⟩ = some (.int .i64 x) := u0
    have u3 : U.drew.cell? ⟨w.heap.size, 1, none⟩ = some (.int .i64 y) := u1
    exact bodyPost_ret (by simp [results, Tryd.results18, go_sem, u2, u3]) rfl ⟨rfl, HB.out.drew⟩
end Go.Proofs.YtngnclibeccplaaDoor
/- Lines as areas, the program's own: what draw hands on, as it is gathered. -/

namespace Go.Proofs.YtngnclibeccplaaDoor
open Go.RowKit Num

/-- what was gathered of areas that were handed on one by one -/
def GatX (w : World) (G : Nat) (xs : List (List Pt)) : Prop := ∃ V ov, Av.all V = keepTo xs xs.length ∧ Gat w G V ov (!decide (FitA xs))
theorem GatX.below {w w' : World} {G : Nat} {xs : List (List Pt)} (h : GatX w G xs) (hb : Below w.heap.size w w') : GatX w' G xs := by
  obtain ⟨V, ov, h1, h2⟩ := h
  exact ⟨V, ov, h1, h2.below hb⟩
theorem GatX.lt {w : World} {G : Nat} {xs : List (List Pt)} (h : GatX w G xs) : G < w.heap.size := by
  obtain ⟨V, ov, h1, h2⟩ := h
  exact h2.box.lt
theorem areas_addX (G : Nat) (xs : List (List Pt)) (P : List Pt) (A : Option Addr) (c : Nat) (w : World) (h : GatX w G xs) (hx : xs.length ≤ 1073741824) (hP : RdV w w.heap.size A (ptRow P)) (hl : P.length ≤ 10000) (hc : P.length ≤ c) :
    Calls Tryd.prog 12 #[.pointer (some ⟨G, 0, none⟩), .slice A P.length c] w fun e w' => e = .returned (.tuple #[]) ∧ GatX w' G (xs ++ [P]) ∧ Below G w w' ∧ KeepT w w' := by
  obtain ⟨V, ov, h1, h2⟩ := h
  have hV : V.length ≤ 1073741824 := by
    have h3 := avs_length h1
    have h4 := keepTo_le xs xs.length
    omega
  refine (areas_add G V ov _ P A c w h2 hV hP hl hc).mono ?_
  rintro e w' ⟨rfl, V', ov', h3, h4, h5, h6⟩
  refine ⟨rfl, ⟨V', ov', ?_, ?_⟩, h5, h6⟩
  · rw [keepTo_snoc, h3, h1]
  · rw [fitA_snoc]
    exact h4
/-- a row of points of one's own stays -/
theorem KeepT.own {w w' : World} (h : KeepT w w') {base n : Nat} {v : Value} {xs : List Value} (ho : w.ownsRow base 34 2 v n xs) : w'.ownsRow base 34 2 v n xs := by
  refine ⟨ho.1, ?_⟩
  rcases ho.2 with hn | ⟨g, cap, cur, rfl, hbg, hg, rest⟩
  · exact .inl hn
  · exact .inr ⟨g, cap, cur, rfl, hbg, (h.2 g cur _ (0, 0) hg (by decide) (by decide)).trans hg, rest⟩
theorem own_rd {w : World} {base n k : Nat} {q : Option Addr} {l : List Pt} (h : w.ownsRow base 34 2 (.slice q n k) l.length (ptRow l)) : RdV w w.heap.size q (ptRow l) := by
  obtain ⟨q', k', e, -, -, h'⟩ := RdV.ofOwnK h
  cases e
  exact h'
theorem Sxt.belowG {w w' : World} {G : Nat} (h : Sxt w) (hG : 0 < G) (hb : Below G w w') : Sxt w' := by
  have e := hb.block 0 hG
  unfold Sxt Lib.TabIs World.var? at h ⊢
  rw [sxt_named] at h ⊢
  simp only [Option.bind_some] at h ⊢
  rw [e]
  exact h
/-- a call that leaves what was gathered as it is -/
theorem g_call {G : Nat} {X V V' : World} {xs : List (List Pt)} (h : Below G X V ∧ KeepT X V ∧ GatX V G xs) (b : Below V.heap.size V V') : Below G X V' ∧ KeepT X V' ∧ GatX V' G xs :=
  ⟨h.1.trans (b.mono (Nat.le_of_lt h.2.2.lt)), h.2.1.trans (KeepT.of b), h.2.2.below b⟩
/-- the boxes of what draw was handed -/
theorem draw_boxes (w : World) (a b c d e f g h : Value) (n : Int) : ∃ W X, (w.alloc (.cells #[a, b] 24)).alloc (.cells #[c, d, e, f, g, h] 27) = W ∧ W.alloc (.cells #[.int .i64 n] 3) = X ∧ (Box W w.heap.size 24 [a, b] ∧ Box W (w.heap.size + 1) 27 [c, d, e, f, g, h]) ∧ Box X w.heap.size 24 [a, b] ∧ Box X (w.heap.size + 1) 27 [c, d, e, f, g, h] ∧ Box X (w.heap.size + 2) 3 [.int .i64 n] ∧ Below w.heap.size w X ∧ W.heap.size = w.heap.size + 2 ∧ Below w.heap.size w W := by
  have k1 := (Box.new w 24 [a, b]).alloc (.cells #[c, d, e, f, g, h] 27)
  have k2 := Box.at_new (w.alloc (.cells #[a, b] 24)) 27 [c, d, e, f, g, h] (g := w.heap.size + 1) (by simp)
  have hs : ((w.alloc (.cells #[a, b] 24)).alloc (.cells #[c, d, e, f, g, h] 27)).heap.size = w.heap.size + 2 := by simp
  have bW : Below w.heap.size w ((w.alloc (.cells #[a, b] 24)).alloc (.cells #[c, d, e, f, g, h] 27)) := ((Below.refl _ w).alloc (Nat.le_refl _) _).alloc (by simp) _
  exact ⟨_, _, rfl, rfl, ⟨k1, k2⟩, k1.alloc _, k2.alloc _, Box.at_new _ 3 [.int .i64 n] hs.symm, bW.trans ((below_new _ _).mono (by omega)), hs, bW⟩
end Go.Proofs.YtngnclibeccplaaDoor
