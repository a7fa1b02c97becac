/- Rows of spots: what the program's own Row needs: one spot reduced, whether two places hold the same, the row's places, a cut row with one place more. -/
import Derived.Test.YtokaapljlpngdaaGreatDoorMC
namespace Go.Proofs.YtokaapljlpngdaaGreatDoor
open Go.RowKit Num rows
open Go.Sort (grow)

theorem lex_zero {x y : Int} (h : lex x y = 0) : x = 0 ∧ y = 0 := by
  unfold lex at h
  split at h
  · rename_i e; exact ⟨e, h⟩
  · rename_i e; exact absurd h e
/-- one spot, reduced: the program's -/
theorem spot_reducedI (L : List Sp) (m i : Nat) (hm1 : 1 ≤ m) (hm : m + 1 ≤ 4194304) (s : Sp) (hs : L.getD i default = s) (hsh : s.Sh m) (V : World) (hok : s.Ok V) :
    Calls Tryz.prog 12 #[.agg #[.bool s.n1, .slice s.A1 s.a1.length s.c1, .slice s.D1 s.d1.length s.e1, .bool s.n2, .slice s.A2 s.a2.length s.c2, .slice s.D2 s.d2.length s.e2]] V (fun e w' => ∃ x : Sp, e = .returned (.agg #[.bool x.n1, .slice x.A1 x.a1.length x.c1, .slice x.D1 x.d1.length x.e1, .bool x.n2, .slice x.A2 x.a2.length x.c2, .slice x.D2 x.d2.length x.e2]) ∧ Is L (m + 1) i x ∧ x.Ok w' ∧ Below V.heap.size V w') := by
  have b1 : (upN s.n1 s.a1 s.d1).natAbs < 4294967296 ^ m := Nat.lt_of_lt_of_le (up_lt hsh.1.2.2.1) (Nat.pow_le_pow_right (by omega) hsh.1.2.2.2.2.1)
  have b2 : (upN s.n2 s.a2 s.d2).natAbs < 4294967296 ^ m := Nat.lt_of_lt_of_le (up_lt hsh.2.2.2.1) (Nat.pow_le_pow_right (by omega) hsh.2.2.2.2.2.1)
  have l1 : loD s.d1 ≤ 4294967296 ^ m := Nat.le_trans (loD_le hsh.1.2.2.2.1) (Nat.pow_le_pow_right (by omega) hsh.1.2.2.2.2.2.1)
  have l2 : loD s.d2 ≤ 4294967296 ^ m := Nat.le_trans (loD_le hsh.2.2.2.2.1) (Nat.pow_le_pow_right (by omega) hsh.2.2.2.2.2.2.1)
  have c1 : Fn1 22 (SV (upN s.n1 s.a1 s.d1) (loD s.d1) m) (SG (upN s.n1 s.a1 s.d1) (loD s.d1) (m + 1)) := (fv_Reduce _ _ m (loD_pos _) hm1 (by omega)).imp (fun _ _ _ _ _ k => k) fun _ _ _ _ _ k => k.toG (Nat.lt_of_lt_of_le b1 (Nat.pow_le_pow_right (by omega) (by omega))) (lt_of_le_pow l1 (by omega))
  have c2 : Fn1 22 (SV (upN s.n2 s.a2 s.d2) (loD s.d2) m) (SG (upN s.n2 s.a2 s.d2) (loD s.d2) (m + 1)) := (fv_Reduce _ _ m (loD_pos _) hm1 (by omega)).imp (fun _ _ _ _ _ k => k) fun _ _ _ _ _ k => k.toG (Nat.lt_of_lt_of_le b2 (Nat.pow_le_pow_right (by omega) (by omega))) (lt_of_le_pow l2 (by omega))
  refine (spot_reduced _ _ _ _ c1 c2 s.n1 s.n2 s.a1 s.d1 s.a2 s.d2 s.A1 s.D1 s.A2 s.D2 s.c1 s.e1 s.c2 s.e2 V hsh.1.toV hsh.2.toV hok.1.1 hok.1.2 hok.2.1 hok.2.2).mono ?_
  rintro e w' ⟨n1, a1, A1, c1, d1, D1, e1, n2, a2, A2, c2, d2, D2, e2, rfl, ⟨h1, h2⟩, h3, h4, h5⟩
  exact ⟨⟨n1, a1, A1, c1, d1, D1, e1, n2, a2, A2, c2, d2, D2, e2⟩, rfl, ⟨by rw [hs]; exact h1, by rw [hs]; exact h2⟩, ⟨h3, h4⟩, h5⟩
/-- whether two are the same -/
theorem spot_SameI (m : Nat) (hm1 : 1 ≤ m) (hm : m ≤ 4194304) (s t : Sp) (hs : s.Sh m) (ht : t.Sh m) (b : Bool) (hb : (cmpS s t == 0) = b) (V : World) (os : s.Ok V) (ot : t.Ok V) :
    Calls Tryz.prog 11 #[.agg #[.bool s.n1, .slice s.A1 s.a1.length s.c1, .slice s.D1 s.d1.length s.e1, .bool s.n2, .slice s.A2 s.a2.length s.c2, .slice s.D2 s.d2.length s.e2], .agg #[.bool t.n1, .slice t.A1 t.a1.length t.c1, .slice t.D1 t.d1.length t.e1, .bool t.n2, .slice t.A2 t.a2.length t.c2, .slice t.D2 t.d2.length t.e2]] V fun e w' => e = .returned (.bool b) ∧ Below V.heap.size V w' :=
  spot_Same hb (fv_SCmp hm1 hm (loD_pos s.d1) (loD_pos s.d2) (loD_pos t.d1) (loD_pos t.d2)) s.n1 s.n2 t.n1 t.n2 s.a1 s.d1 s.a2 s.d2 t.a1 t.d1 t.a2 t.d2 s.A1 s.D1 s.A2 s.D2 t.A1 t.D1 t.A2 t.D2 s.c1 s.e1 s.c2 s.e2 t.c1 t.e1 t.c2 t.e2 V hs.1.toV hs.2.toV ht.1.toV ht.2.toV os.1.1 os.1.2 os.2.1 os.2.2 ot.1.1 ot.1.2 ot.2.1 ot.2.2

theorem rows.cut_snoc {cf : Nat → Nat → Int} : ∀ (l : List Nat) (p : Option Nat) (x : Nat), cut cf p (l ++ [x]) = cut cf p l ++ (match (l.getLast?).or p with | none => [x] | some q => if cf q x = 0 then [] else [x])
  | [], none, x => rfl
  | [], some q, x => by simp [cut]
  | y :: r, none, x => by
    rw [List.cons_append, cut, cut, cut_snoc r (some y) x, List.cons_append]
    congr 2
    cases r with
    | nil => rfl
    | cons z r =>
      obtain ⟨v, hv⟩ : ∃ v, (z :: r).getLast? = some v := ⟨_, List.getLast?_eq_some_getLast (by simp)⟩
      simp [List.getLast?_cons_cons, hv]
  | y :: r, some q, x => by
    rw [List.cons_append, cut, cut, cut_snoc r (some y) x]
    have e : (match (r.getLast?).or (some y) with | none => [x] | some q => if cf q x = 0 then [] else [x]) = (match ((y :: r).getLast?).or (some q) with | none => [x] | some q => if cf q x = 0 then [] else [x]) := by
      cases r with
      | nil => rfl
      | cons z r =>
        obtain ⟨v, hv⟩ : ∃ v, (z :: r).getLast? = some v := ⟨_, List.getLast?_eq_some_getLast (by simp)⟩
        simp [List.getLast?_cons_cons, hv]
    rw [e]
    split <;> simp
theorem rows.cut_take0 {cf : Nat → Nat → Int} {s : List Nat} (h : 0 < s.length) : cut cf none (s.take 1) = [s[0]] := by
  cases s with
  | nil => simp at h
  | cons x r => rfl
theorem rows.cut_take {cf : Nat → Nat → Int} {s : List Nat} {k : Nat} (h : k + 1 < s.length) : cut cf none (s.take (k + 2)) = cut cf none (s.take (k + 1)) ++ (if cf s[k] s[k + 1] = 0 then [] else [s[k + 1]]) := by
  rw [List.take_succ_eq_append_getElem h, cut_snoc]
  have : (s.take (k + 1)).getLast? = some s[k] := by
    rw [List.take_succ_eq_append_getElem (by omega), List.getLast?_append]
    simp
  rw [this]
  rfl

theorem info_int64 : (Tryz.prog.info? 3).map (fun i => (i.zero, i.size, i.bytes)) = some (some (.int .i64 0), 1, 8) := by kernel_rfl
theorem make_places (n : Nat) (hn : n ≤ 34359738368) (u : World) : (Instr.makeSlice 34 (.int .i64 (n : Int)) (.int .i64 (n : Int))).run Tryz.prog u = .ok (.slice (some ⟨u.heap.size, 0, none⟩) n n) (u.alloc (.cells (cells .i64 (List.replicate n 0)).toArray 3)) :=
  run_make_digits 34 3 .i64 8 Tryz.underlying34 info_int64 (by omega) n hn u
end Go.Proofs.YtokaapljlpngdaaGreatDoor
