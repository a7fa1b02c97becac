/- What the program's own Parse is made of: chunk, timesAnd. -/
import Derived.Test.YtkmgmppmhgoadaaDoorTxtA
import Derived.Laws.OwnMore
namespace Go.Proofs.YtkmgmppmhgoadaaDoor
open Go.RowKit Num

set_option maxHeartbeats 1600000 in
theorem nat_chunk (t : ByteArray) (hsz : t.size ≤ 9) (hd : AllDec t.data.toList) (w : World) :
    Calls Tryd.prog 83 #[.string t] w fun e w' => e = .returned (.int .u32 ((decVal t.data.toList : Nat) : Int)) ∧ Below w.heap.size w w' := by
  obtain ⟨bs, hbs⟩ : ∃ bs, t.data.toList = bs := ⟨_, rfl⟩
  have hlen : bs.length = t.size := by rw [← hbs]; exact data_size t
  have hget : ∀ j (h : j < t.size), ∃ h' : j < bs.length, bs[j]'h' = t[j] := fun j h => ⟨by rw [hlen]; exact h, by subst hbs; exact data_get t h⟩
  rw [hbs] at hd ⊢
  have HLEN := Lib.hid hlen
  have HGET := Lib.hid hget
  have HD := Lib.hid hd
  clear hbs hget hlen hd
  go_enter Tryd.func83, Tryd.ntmps83
  go_wp2_with fail
  go_loopg [3] t.size (fun gh v wr => ∃ pos, gh + pos = t.size ∧ v = .int .u32 ((decVal (bs.take pos) : Nat) : Int) ∧ wr = w.iter t pos)
  case atStart => exact ⟨0, by omega, rfl, rfl⟩
  case round =>
    obtain ⟨pos, hg, rfl, rfl⟩ := hrel
    have HG := Lib.hid hg
    clear hg
    by_cases hp : pos < t.size
    · obtain ⟨hpl, hgp⟩ := HGET.out pos hp
      have hdig := HD.out.get hpl
      rw [hgp] at hdig
      have hnx := fun ty => run_next_ascii (P := Tryd.prog) w t pos ty hp (by omega)
      have hstep := decVal_take_succ hpl
      rw [hgp] at hstep
      have hV := decVal_lt (HD.out.take pos)
      rw [List.length_take, Nat.min_eq_left (by omega)] at hV
      have hV8 : (10 : Nat) ^ pos ≤ 10 ^ 8 := Nat.pow_le_pow_right (by omega) (by omega)
      obtain ⟨m, hm⟩ : ∃ m, (t[pos]'hp).toNat = m := ⟨_, rfl⟩
      obtain ⟨V, hVe⟩ : ∃ V, decVal (bs.take pos) = V := ⟨_, rfl⟩
      rw [hm] at hnx hdig hstep
      rw [hVe] at hstep hV ⊢
      have hV9 : V < 100000000 := by omega
      have HS := Lib.hid hstep
      clear hm hgp hVe hstep hV hV8
      go_wp2_with fail
      go_roundg (gk - 1)
      case measure => have := HG.out; omega
      case rel => exact ⟨pos + 1, by have := HG.out; omega, by rw [HS.out]; congr 1; omega, rfl⟩
    · have hnx := fun ty => run_next_end (P := Tryd.prog) w t pos ty hp
      rw [List.take_of_length_le (by rw [HLEN.out]; omega)]
      go_wp2_with fail
      go_ret
      exact ⟨rfl, below_iter (Below.refl _ _) (Nat.le_refl _) _ _⟩

theorem top_snoc {xs : List Nat} {c : Nat} (h : c ≠ 0) : Top (xs ++ [c]) := by
  unfold Top; rw [List.getLast?_concat]; intro e; exact h (Option.some.inj e)
theorem norm_times {xs cs : List Nat} {m more : Nat} (hx : Norm 4294967296 xs) (hl : cs.length = xs.length) (hd : Dg 4294967296 cs) (hm : 1 ≤ m) (hv : val 4294967296 cs = more + val 4294967296 xs * m) : Norm 4294967296 cs := by
  by_cases h0 : xs = []
  · subst h0
    obtain rfl : cs = [] := List.eq_nil_of_length_eq_zero hl
    exact norm_nil _
  · refine ⟨hd, top_of_le hd ?_⟩
    have h1 := top_le (b := 4294967296) hx.2 h0
    have h2 : val 4294967296 xs * 1 ≤ val 4294967296 xs * m := Nat.mul_le_mul_left _ hm
    rw [hl, hv]; omega

set_option maxHeartbeats 1600000 in
/-- the tail of timesAnd: a word behind the others where there is one -/
theorem nat_timesAnd (v : Value) (xs : List Nat) (base m more : Nat) (w : World) (hown : Own w base 60 .u32 v xs) (hbase : base ≤ w.heap.size) (hn : Norm 4294967296 xs) (hm1 : 1 ≤ m) (hm : m < 4294967296) (hmore : more < 4294967296) (hl : xs.length ≤ 1073741824) :
    Calls Tryd.prog 82 #[v, .int .u32 m, .int .u32 more] w fun e w' => ∃ v' ys, e = .returned v' ∧ Own w' base 60 .u32 v' ys ∧ Norm 4294967296 ys ∧ val 4294967296 ys = val 4294967296 xs * m + more ∧ ys.length ≤ xs.length + 1 ∧ Below base w w' := by
  rcases hown.2 with ⟨hv, h0⟩ | ⟨g, cap, cur, hv, hg, hh, hnc, hcm, hcs, -⟩
  · subst hv
    obtain rfl : xs = [] := List.eq_nil_of_length_eq_zero h0
    go_enter Tryd.func82, Tryd.ntmps82
    go_wp2_with fail
    go_loopg [7, 8, 9, 14] 0 (fun gh c' _ _ i wr => gh = 0 ∧ i = .int .i64 0 ∧ c' = .int .u64 (more : Nat) ∧ wr = w)
    case atStart => exact ⟨rfl, rfl, rfl, rfl⟩
    case round =>
      obtain ⟨rfl, rfl, rfl, rfl⟩ := hrel
      by_cases h00 : more = 0
      · subst h00
        go_wp2_with fail
        go_ret
        exact ⟨_, [], rfl, hown, norm_nil _, by simp [val], by simp, Below.refl _ _⟩
      · have hmm : (more : Int) % 4294967296 = (more : Int) := by omega
        go_wp2_with (at_builtin; refine wpList_app rfl _ _ _ rfl base 60 .u32 4 Tryd.underlying22 info_u32 (.slice none 0 0) [] rfl (hown.alloc _) wr.heap.size 1 1 [more] rfl rfl (by unfold Row; rw [heap_alloc_new]; simp [cells]) (by omega) (by simp) (by omega) (by simp; omega) ?_; intro v1 w3 hown1 hgrow)
        go_ret
        exact ⟨v1, [more], rfl, hown1, ⟨by simpa [Dg] using hmore, top_snoc (xs := []) h00⟩, by simp [val], by simp, ((Below.refl _ _).alloc hbase _).grown hgrow (by simp; omega) (fun q e => by cases e)⟩
  · subst hv
    have hlt := (World.ownsRow.lt hown g rfl).2
    clear hh hcs
    go_enter Tryd.func82, Tryd.ntmps82
    go_wp2_with fail
    go_loopg [7, 8, 9, 14] xs.length (fun gh c' _ _ i wr => ∃ (k cy : Nat) (cs : List Nat), gh + k = xs.length ∧ i = .int .i64 k ∧ c' = .int .u64 cy ∧ cy < 4294967296 ∧ cs.length = k ∧ Dg 4294967296 cs ∧ Own wr base 60 .u32 (.slice (some ⟨g, 0, none⟩) xs.length cap) (cs ++ xs.drop k) ∧ w.grownBy wr (some g) ∧
      val 4294967296 cs + 4294967296 ^ k * cy = more + val 4294967296 (xs.take k) * m)
    case atStart => exact ⟨0, more, [], by omega, rfl, rfl, hmore, rfl, Dg.nil _, hown, World.grownBy.refl _ _, by simp [val]⟩
    case round =>
      obtain ⟨k, cy, cs, hg2, rfl, rfl, hcy, rfl, hcd, hr, hgr, hv⟩ := hrel
      have HG := Lib.hid hg2
      have HV := Lib.hid hv
      clear hg2 hv
      by_cases hlt2 : cs.length < xs.length
      · have hll : (cs ++ xs.drop cs.length).length = xs.length := by rw [List.length_append, List.length_drop]; omega
        have hr' := hr
        unfold Own at hr'
        rw [hll] at hr'
        have ca := World.ownsRow.cellAt hr' cs.length (by omega)
        have hf := World.ownsRow.frozenAt hr' cs.length
        have hst := fun u => World.ownsRow.stored hr' cs.length u
        have hgc : (cells .u32 (cs ++ xs.drop cs.length))[cs.length]? = some (.int .u32 (xs[cs.length] : Int)) := by
          rw [get_cells (by rw [hll]; exact hlt2), List.getElem_append_right (Nat.le_refl _)]
          simp
        rw [hgc] at ca
        have hset : ∀ u : Nat, (cells .u32 (cs ++ xs.drop cs.length)).set cs.length (.int .u32 (u : Int)) = cells .u32 ((cs ++ [u]) ++ xs.drop (cs.length + 1)) := fun u => by
          have e1 : (cells .u32 (cs ++ xs.drop cs.length)).set cs.length (.int .u32 (u : Int)) = cells .u32 ((cs ++ xs.drop cs.length).set cs.length u) := by unfold cells; rw [List.map_set]
          rw [e1, List.set_append_right _ _ (Nat.le_refl _), Nat.sub_self, List.drop_eq_getElem_cons hlt2, List.append_assoc]
          rfl
        have hq1 := hn.1.get hlt2
        have hs2 := val_take_succ (b := 4294967296) hlt2
        obtain ⟨q, hq⟩ : ∃ q, xs[cs.length] = q := ⟨_, rfl⟩
        rw [hq] at ca hq1 hs2
        have HS2 := Lib.hid hs2
        have HST := Lib.hid hst
        have HSET := Lib.hid hset
        clear hq hs2 hst hset hgc hr'
        have hxq : q * m ≤ 4294967295 * 4294967295 := Nat.mul_le_mul (by omega) (by omega)
        have hxq1 : (q : Int) * (m : Int) ≤ 18446744065119617025 := by rw [← Int.natCast_mul]; omega
        have hxq0 : 0 ≤ (q : Int) * (m : Int) := by rw [← Int.natCast_mul]; omega
        go_wp2_with fail
        go_roundg (gk - 1)
        case measure => have := HG.out; omega
        case rel =>
          obtain ⟨h1, h2⟩ := HST.out (.int .u32 (((cy + (m * q + 0)) % 4294967296 : Nat) : Int))
          rw [HSET.out] at h1
          have e1 : ((cy : Int) + (q : Int) * (m : Int)) = ((cy + (m * q + 0) : Nat) : Int) := by rw [Nat.add_zero, Nat.mul_comm m q, Int.natCast_add, Int.natCast_mul]
          rw [e1]
          have hmq : m * q ≤ 4294967295 * 4294967295 := by rw [Nat.mul_comm]; exact hxq
          refine ⟨cs.length + 1, (cy + (m * q + 0)) / 4294967296, cs ++ [(cy + (m * q + 0)) % 4294967296], by have := HG.out; omega, by go_num, by go_num, by omega, by simp, hcd.snoc (Nat.mod_lt _ (by omega)), ?_, grown_trans hgr h2, ?_⟩
          · unfold Own
            have hll2 : ((cs ++ [(cy + (m * q + 0)) % 4294967296]) ++ xs.drop (cs.length + 1)).length = xs.length := by simp; omega
            rw [hll2]
            exact h1
          · have hmm := mul_step (x := m) (p := 0) (q := q) rfl HV.out
            rw [hmm, HS2.out]; simp
      · have hk : cs.length = xs.length := by have := HG.out; omega
        have hv := HV.out
        rw [hk, List.take_length] at hv
        rw [hk, List.drop_length, List.append_nil] at hr
        have hbel : Below base w wr := (Below.refl _ _).grown hgr hbase (fun q e => by injection e with e; omega)
        have hbs := hbel.size
        have HVV := Lib.hid hv
        have HK := Lib.hid hk
        have HR := Lib.hid hr
        clear hv hk hr
        by_cases h00 : cy = 0
        · subst h00
          go_wp2_with fail
          go_ret
          have hv := HVV.out
          rw [Nat.mul_zero, Nat.add_zero] at hv
          exact ⟨_, cs, rfl, HR.out, norm_times hn HK.out hcd hm1 hv, by rw [hv]; omega, by have := HK.out; omega, hbel⟩
        · have hmm : (cy : Int) % 4294967296 = (cy : Int) := by omega
          go_wp2_with (at_builtin; refine wpList_app rfl _ _ _ rfl base 60 .u32 4 Tryd.underlying22 info_u32 (.slice (some ⟨g, 0, none⟩) xs.length cap) cs rfl (HR.out.alloc _) wr.heap.size 1 1 [cy] rfl rfl (by unfold Row; rw [heap_alloc_new]; simp [cells]) (by omega) (by have := HK.out; omega) (by omega) (by simp; omega) ?_; intro v1 w3 hown1 hgrow)
          go_ret
          refine ⟨v1, cs ++ [cy], rfl, hown1, ⟨hcd.snoc hcy, top_snoc h00⟩, ?_, by have := HK.out; simp; omega, (hbel.alloc (Nat.le_trans hbase hbs) _).grown hgrow (by simp; omega) (fun q e => by injection e with e; subst e; exact hg)⟩
          rw [val_snoc, HK.out, HVV.out]; omega
end Go.Proofs.YtkmgmppmhgoadaaDoor
