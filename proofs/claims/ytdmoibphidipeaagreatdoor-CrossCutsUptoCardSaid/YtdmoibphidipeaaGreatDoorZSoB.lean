/- A row of spots made anew, with room and none in it. -/
import Derived.Test.YtdmoibphidipeaaGreatDoorZOaI
import Derived.Test.YtdmoibphidipeaaGreatDoorZSoA
import Derived.Test.YtdmoibphidipeaaGreatDoorZShelfS
namespace Go.Proofs.YtdmoibphidipeaaGreatDoor
open Go.RowKit Num

theorem madeCells_noint {z : Array Value} (hp : 0 < z.size) (hz : NoInt z.toList) (n : Nat) : NoInt (madeCells z n).toList := by
  intro v hv
  unfold madeCells at hv
  simp only [Array.toList_map, List.mem_map] at hv
  obtain ⟨i, -, rfl⟩ := hv
  have hm := Nat.mod_lt i hp
  rw [getElem!_pos z (i % z.size) hm]
  exact hz _ (Array.mem_toList_iff.2 (Array.getElem_mem hm))
theorem make_spots (n : Nat) (hn : n ≤ 1073741824) (u : World) (base : Nat) (hb : base ≤ u.heap.size) :
    ∃ u', (Instr.makeSlice 27 (.int .i64 0) (.int .i64 (n : Int))).run Tryz.prog u = .ok (.slice (some ⟨u.heap.size, 0, none⟩) 0 n) u' ∧ OwnS u' base (.slice (some ⟨u.heap.size, 0, none⟩) 0 n) 0 [] ∧ u.grownBy u' none ∧ u'.heap.size = u.heap.size + 1 := by
  obtain ⟨i, hi, hz0, hz1, hz2⟩ := info_parts info_spot
  have hbyte : (i.bytes : Int) * (n : Int) ≤ 281474976710656 := by
    have h : i.bytes * n ≤ 112 * 1073741824 := Nat.mul_le_mul (by omega) hn
    have h' : ((i.bytes * n : Nat) : Int) ≤ 281474976710656 := by omega
    rwa [Int.natCast_mul] at h'
  have h := run_make (P := Tryz.prog) u 27 41 i _ Tryz.underlying27 hi hz0 .i64 .i64 0 n (by omega) (by omega) hbyte (by omega)
  simp only [Int.toNat_zero, Int.toNat_natCast] at h
  obtain ⟨Z, hZ⟩ : ∃ Z, Z = (Value.agg #[.bool false, .slice none 0 0, .slice none 0 0, .bool false, .slice none 0 0, .slice none 0 0]).cells := ⟨_, rfl⟩
  rw [← hZ] at h
  refine ⟨_, h, ⟨rfl, fun v hv => by simp at hv, .inr ⟨u.heap.size, n, madeCells Z (n * i.size), rfl, hb, ?_, Nat.zero_le _, by simp [maxLen]; omega, ?_, by simp, ?_⟩⟩, World.grownBy_alloc u _ none, Array.size_push _⟩
  · exact Array.getElem?_push_size
  · rw [size_madeCells, hz1]
  · refine madeCells_noint (by rw [hZ]; decide) ?_ _
    rw [hZ]
    intro v hv k m e
    subst e
    simp [Value.cells] at hv
end Go.Proofs.YtdmoibphidipeaaGreatDoor
/- A row's places, sorted by the library: what the call leaves. -/

namespace Go.Proofs.YtdmoibphidipeaaGreatDoor
open Go.RowKit Num rows
open Go.Sort

theorem sort_places (L : List Sp) (n : Nat) (hn : L.length = n + 1) (A : Option Addr) (cap gl m blk capP : Nat) (w0 w : World) (hm1 : 1 ≤ m) (hm : m ≤ 4194304) (hb : Below w0.heap.size w0 w) (hbk : w0.heap.size ≤ blk) (hblk : blk < w.heap.size) (hgl : gl ≠ blk) (hglt : gl < w.heap.size)
    (hbox : w.cell? ⟨gl, 0, none⟩ = some (.slice A L.length cap)) (hl : RdS w0 A L) (hok : ∀ s ∈ L, s.Ok w0) (hsh : ∀ s ∈ L, s.Sh m) (hlen : L.length ≤ 1073741824)
    (hrow : ∀ j, j < n + 1 → w.cell? ⟨blk, j, none⟩ = some (.int .i64 (j : Int)) ∧ w.frozen? ⟨blk, j, none⟩ = false) :
    Calls Tryz.prog 69 #[.slice (some ⟨blk, 0, none⟩) L.length capP, .func (.func 70) #[] #[.pointer (some ⟨gl, 0, none⟩)]] w fun e w' =>
      e = .returned (.tuple #[]) ∧ ∃ s : List Nat, s.length = L.length ∧ s.Pairwise (fun a b => cfL L a b ≤ 0) ∧ (∀ x ∈ s, x < L.length) ∧ (∀ i, i < L.length → i ∈ s) ∧
        Below w0.heap.size w0 w' ∧ w.heap.size ≤ w'.heap.size ∧ w'.cell? ⟨gl, 0, none⟩ = some (.slice A L.length cap) ∧ ∀ (k : Nat) (hk : k < s.length), w'.cell? ⟨blk, k, none⟩ = some (.int .i64 (s[k] : Int)) := by
  have hsz : (Array.ofFn (n := n + 1) id).size = L.length := by simp [hn]
  have eg : ∀ args w, (callFunc 70 args).run Tryz.prog w = .ok (.enter 70 args) w := enters_of Tryz.func70 (by kernel_rfl) rfl
  have hH : Holds (encF (n := n)) w blk 0 (Array.ofFn (n := n + 1) id) := fun j hj => by
    have hj' : j < n + 1 := by simpa using hj
    have h := hrow j hj'
    rw [getElem!_pos _ j hj]
    simp only [Nat.zero_add, Array.getElem_ofFn, encF, id]
    exact h
  have hcmp := cmp_lays L n hn A cap gl m blk (Array.ofFn (n := n + 1) id).size w0 w hm1 hm hb hbk hgl hglt hbox hl hok hsh hlen
  have hc := Tryz.slices_SortFunc (encF (n := n)) (fun _ => rfl) (cfF L) (swo_cfF L n) 70 #[.pointer (some ⟨gl, 0, none⟩)] blk 0 capP (Array.ofFn (n := n + 1) id) w eg hcmp hH hblk (by rw [hsz]; omega)
  rw [hsz] at hc
  refine hc.mono ?_
  rintro e w' ⟨he, d', q, os, hp, hs, rfl⟩
  have hsz' : d'.size = L.length := by rw [hp.1, hsz]
  obtain ⟨k1, k2, k3⟩ := sorted_places L n (Array.ofFn (n := n + 1) id) d' (fun i => by simp [Array.mem_ofFn]) (by rw [hsz]; exact hp) (by rw [hsz]; exact hs)
  have hbel := below_sorted (encF (n := n)) hb hbk q d' os
  have hput : ∀ v, v < w.heap.size → v < (putRow (encF (n := n)) (Sort.ahead w q) blk 0 d').heap.size := fun v hv => by simpa [putRow, mapBlock, Sort.ahead] using hv
  refine ⟨he, d'.toList.map Fin.val, by simp [hsz'], k1, by rw [hn]; exact k2, by rw [hn]; exact k3, hbel, by simp [sortWorld, grow, putRow, mapBlock, Sort.ahead], ?_, fun k hk => ?_⟩
  · unfold sortWorld
    rw [cell?_grow _ _ _ (hput _ hglt), cell?_putRow_other _ _ _ _ _ _ (Or.inl hgl), cell?_ahead]
    exact hbox
  · have hk' : k < d'.size := by simpa using hk
    have hSW : SW (encF (n := n)) w blk 0 d' (sortWorld (encF (n := n)) w blk 0 q d' os) := ⟨q, os, rfl⟩
    have h := (hSW.holds hblk hH (by rw [hsz', hsz]) k hk').1
    rw [getElem!_pos d' k hk', Nat.zero_add] at h
    rw [h]
    simp [encF]
end Go.Proofs.YtdmoibphidipeaaGreatDoor
/- Rows of spots: what the program's own Row needs: one spot reduced, whether two places hold the same, the row's places, a cut row with one place more. -/

namespace Go.Proofs.YtdmoibphidipeaaGreatDoor
open Go.RowKit Num rows
open Go.Sort (grow)

/-- one spot, reduced: the program's -/
theorem spot_reducedI (L : List Sp) (m i : Nat) (hm1 : 1 ≤ m) (hm : m + 1 ≤ 4194304) (s : Sp) (hs : L.getD i default = s) (hsh : s.Sh m) (V : World) (hok : s.Ok V) :
    Calls Tryz.prog 71 #[.agg #[.bool s.n1, .slice s.A1 s.a1.length s.c1, .slice s.D1 s.d1.length s.e1, .bool s.n2, .slice s.A2 s.a2.length s.c2, .slice s.D2 s.d2.length s.e2]] V (fun e w' => ∃ x : Sp, e = .returned (.agg #[.bool x.n1, .slice x.A1 x.a1.length x.c1, .slice x.D1 x.d1.length x.e1, .bool x.n2, .slice x.A2 x.a2.length x.c2, .slice x.D2 x.d2.length x.e2]) ∧ Is L (m + 1) i x ∧ x.Ok w' ∧ Below V.heap.size V w') := by
  have b1 : (upN s.n1 s.a1 s.d1).natAbs < 4294967296 ^ m := Nat.lt_of_lt_of_le (up_lt hsh.1.2.2.1) (Nat.pow_le_pow_right (by omega) hsh.1.2.2.2.2.1)
  have b2 : (upN s.n2 s.a2 s.d2).natAbs < 4294967296 ^ m := Nat.lt_of_lt_of_le (up_lt hsh.2.2.2.1) (Nat.pow_le_pow_right (by omega) hsh.2.2.2.2.2.1)
  have l1 : loD s.d1 ≤ 4294967296 ^ m := Nat.le_trans (loD_le hsh.1.2.2.2.1) (Nat.pow_le_pow_right (by omega) hsh.1.2.2.2.2.2.1)
  have l2 : loD s.d2 ≤ 4294967296 ^ m := Nat.le_trans (loD_le hsh.2.2.2.2.1) (Nat.pow_le_pow_right (by omega) hsh.2.2.2.2.2.2.1)
  have c1 : Fn1 101 (SV (upN s.n1 s.a1 s.d1) (loD s.d1) m) (SG (upN s.n1 s.a1 s.d1) (loD s.d1) (m + 1)) := (fv_Reduce _ _ m (loD_pos _) hm1 (by omega)).imp (fun _ _ _ _ _ k => k) fun _ _ _ _ _ k => k.toG (Nat.lt_of_lt_of_le b1 (Nat.pow_le_pow_right (by omega) (by omega))) (lt_of_le_pow l1 (by omega))
  have c2 : Fn1 101 (SV (upN s.n2 s.a2 s.d2) (loD s.d2) m) (SG (upN s.n2 s.a2 s.d2) (loD s.d2) (m + 1)) := (fv_Reduce _ _ m (loD_pos _) hm1 (by omega)).imp (fun _ _ _ _ _ k => k) fun _ _ _ _ _ k => k.toG (Nat.lt_of_lt_of_le b2 (Nat.pow_le_pow_right (by omega) (by omega))) (lt_of_le_pow l2 (by omega))
  refine (spot_reduced _ _ _ _ c1 c2 s.n1 s.n2 s.a1 s.d1 s.a2 s.d2 s.A1 s.D1 s.A2 s.D2 s.c1 s.e1 s.c2 s.e2 V hsh.1.toV hsh.2.toV hok.1.1 hok.1.2 hok.2.1 hok.2.2).mono ?_
  rintro e w' ⟨n1, a1, A1, c1, d1, D1, e1, n2, a2, A2, c2, d2, D2, e2, rfl, ⟨h1, h2⟩, h3, h4, h5⟩
  exact ⟨⟨n1, a1, A1, c1, d1, D1, e1, n2, a2, A2, c2, d2, D2, e2⟩, rfl, ⟨by rw [hs]; exact h1, by rw [hs]; exact h2⟩, ⟨h3, h4⟩, h5⟩
/-- whether two are the same -/
theorem spot_SameI (m : Nat) (hm1 : 1 ≤ m) (hm : m ≤ 4194304) (s t : Sp) (hs : s.Sh m) (ht : t.Sh m) (b : Bool) (hb : (cmpS s t == 0) = b) (V : World) (os : s.Ok V) (ot : t.Ok V) :
    Calls Tryz.prog 33 #[.agg #[.bool s.n1, .slice s.A1 s.a1.length s.c1, .slice s.D1 s.d1.length s.e1, .bool s.n2, .slice s.A2 s.a2.length s.c2, .slice s.D2 s.d2.length s.e2], .agg #[.bool t.n1, .slice t.A1 t.a1.length t.c1, .slice t.D1 t.d1.length t.e1, .bool t.n2, .slice t.A2 t.a2.length t.c2, .slice t.D2 t.d2.length t.e2]] V fun e w' => e = .returned (.bool b) ∧ Below V.heap.size V w' :=
  spot_Same hb (fv_SCmp hm1 hm (loD_pos s.d1) (loD_pos s.d2) (loD_pos t.d1) (loD_pos t.d2)) s.n1 s.n2 t.n1 t.n2 s.a1 s.d1 s.a2 s.d2 t.a1 t.d1 t.a2 t.d2 s.A1 s.D1 s.A2 s.D2 t.A1 t.D1 t.A2 t.D2 s.c1 s.e1 s.c2 s.e2 t.c1 t.e1 t.c2 t.e2 V hs.1.toV hs.2.toV ht.1.toV ht.2.toV os.1.1 os.1.2 os.2.1 os.2.2 ot.1.1 ot.1.2 ot.2.1 ot.2.2

theorem rows.cut_snoc {cf : Nat → Nat → Int} : ∀ (l : List Nat) (p : Option Nat) (x : Nat), cut cf p (l ++ [x]) = cut cf p l ++ (match (l.getLast?).or p with | none => [x] | some q => if cf q x = 0 then [] else [x])
  | [], none, x => rfl
  | [], some q, x => by simp [cut]
  | y :: r, none, x => by
    rw [List.cons_append, cut, cut, cut_snoc r (some y) x, List.cons_append]
    congr 2
    cases r with
    | nil => rfl
    | cons z r =>
      obtain ⟨v, hv⟩ : ∃ v, (z :: r).getLast? = some v := ⟨_, List.getLast?_eq_some_getLast (by simp)⟩
      simp [List.getLast?_cons_cons, hv]
  | y :: r, some q, x => by
    rw [List.cons_append, cut, cut, cut_snoc r (some y) x]
    have e : (match (r.getLast?).or (some y) with | none => [x] | some q => if cf q x = 0 then [] else [x]) = (match ((y :: r).getLast?).or (some q) with | none => [x] | some q => if cf q x = 0 then [] else [x]) := by
      cases r with
      | nil => rfl
      | cons z r =>
        obtain ⟨v, hv⟩ : ∃ v, (z :: r).getLast? = some v := ⟨_, List.getLast?_eq_some_getLast (by simp)⟩
        simp [List.getLast?_cons_cons, hv]
    rw [e]
    split <;> simp
theorem rows.cut_take0 {cf : Nat → Nat → Int} {s : List Nat} (h : 0 < s.length) : cut cf none (s.take 1) = [s[0]] := by
  cases s with
  | nil => simp at h
  | cons x r => rfl
theorem rows.cut_take {cf : Nat → Nat → Int} {s : List Nat} {k : Nat} (h : k + 1 < s.length) : cut cf none (s.take (k + 2)) = cut cf none (s.take (k + 1)) ++ (if cf s[k] s[k + 1] = 0 then [] else [s[k + 1]]) := by
  rw [List.take_succ_eq_append_getElem h, cut_snoc]
  have : (s.take (k + 1)).getLast? = some s[k] := by
    rw [List.take_succ_eq_append_getElem (by omega), List.getLast?_append]
    simp
  rw [this]
  rfl

theorem info_int64 : (Tryz.prog.info? 3).map (fun i => (i.zero, i.size, i.bytes)) = some (some (.int .i64 0), 1, 8) := by kernel_rfl
theorem make_places (n : Nat) (hn : n ≤ 34359738368) (u : World) : (Instr.makeSlice 86 (.int .i64 (n : Int)) (.int .i64 (n : Int))).run Tryz.prog u = .ok (.slice (some ⟨u.heap.size, 0, none⟩) n n) (u.alloc (.cells (cells .i64 (List.replicate n 0)).toArray 3)) :=
  run_make_digits 86 3 .i64 8 Tryz.underlying86 info_int64 (by omega) n hn u
end Go.Proofs.YtdmoibphidipeaaGreatDoor
