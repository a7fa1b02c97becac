/- What the document's own small, Of, twice, Power answer. -/
import Derived.Test.YtoidhoiadkafhaaRefE
namespace Go.Proofs.Ytoidhoiadkafhaa
open Go.RowKit Num

set_option maxHeartbeats 400000 in
/-- the number of at most four digits -/
theorem ref_small (x : List Nat) (A : Option Addr) (c : Nat) (S : Nat → Prop) (w : World) (h : Rd w S .u64 A x) (hl : x.length ≤ 4) (hx : Dg 65536 x) :
    Calls Try.prog 51 #[.slice A x.length c] w fun e w' => e = .returned (.int .u64 (val 65536 x : Nat)) ∧ w = w' := by
  go_enter Try.func51, Try.ntmps51
  go_wp2
  go_loopg [3, 4] x.length (fun g v i wr => ((∃ k : Nat, g = k + 1 ∧ i = .int .i64 k) ∨ (g = 0 ∧ i = .int .i64 (-1))) ∧ g ≤ x.length ∧ w = wr ∧ v = .int .u64 (val 65536 (x.drop g) : Nat))
  case atStart =>
    refine ⟨?_, Nat.le_refl _, rfl, by rw [List.drop_length]; rfl⟩
    by_cases h0 : x.length = 0
    · refine .inr ⟨h0, ?_⟩; congr 1; omega
    · refine .inl ⟨x.length - 1, by omega, ?_⟩; congr 1; omega
  case round =>
    obtain ⟨⟨k, rfl, rfl⟩ | ⟨rfl, rfl⟩, hg, rfl, rfl⟩ := hrel
    · have hk : k < x.length := by omega
      obtain ⟨b, o, rfl, _, hc⟩ := h.at_ hk
      have hp1 := hx.get hk
      have hd := val_drop_succ (b := 65536) hk
      have hv := val_lt_pow (n := 3) (b := 65536) (xs := x.drop (k + 1)) hx.drop (by omega) (by rw [List.length_drop]; omega)
      obtain ⟨p, hp⟩ : ∃ p, x[k] = p := ⟨_, rfl⟩
      obtain ⟨v, hve⟩ : ∃ v, val 65536 (x.drop (k + 1)) = v := ⟨_, rfl⟩
      rw [hp] at hc hp1 hd
      rw [hve] at hd hv ⊢
      have hv2 : v < 281474976710656 := hv
      have HD := Lib.hid hd
      clear hp hve hv hd
      go_wp2
      go_roundg k
      case measure => omega
      case rel =>
        refine ⟨?_, by omega, rfl, ?_⟩
        · by_cases h0 : k = 0
          · subst h0; exact .inr ⟨rfl, by go_num⟩
          · exact .inl ⟨k - 1, by omega, by go_num⟩
        · rw [HD.out]; congr 1; omega
    · go_wp2
      go_ret
      exact ⟨by rw [List.drop_zero]; rfl, rfl⟩

set_option maxHeartbeats 400000 in
/-- a number of 64 bits -/
theorem ref_Of (v : Nat) (hv : v < 18446744073709551616) (w : World) :
    Calls Try.prog 15 #[.int .u64 v] w (Gives .u32 4294967296 v w) := by
  have hD : Dg 65536 [v % 65536, v / 65536 % 65536, v / 65536 / 65536 % 65536, v / 65536 / 65536 / 65536] := by simp [Dg]; omega
  have hV : val 65536 [v % 65536, v / 65536 % 65536, v / 65536 / 65536 % 65536, v / 65536 / 65536 / 65536] = v := by simp [val]; omega
  have hrow := Row.new w 30 .u64 [v % 65536, v / 65536 % 65536, v / 65536 / 65536 % 65536, v / 65536 / 65536 / 65536]
  have HV := Lib.hid hV
  clear hV
  go_enter Try.func15, Try.ntmps15
  go_wp2_with fail
  have e : (Obj.cells #[Value.int IntKind.u64 ((v : Int) % 65536), Value.int IntKind.u64 ((v : Int) / 65536 % 65536), Value.int IntKind.u64 ((v : Int) / 65536 / 65536 % 65536), Value.int IntKind.u64 ((v : Int) / 65536 / 65536 / 65536)] 30) =
      (Obj.cells (cells .u64 [v % 65536, v / 65536 % 65536, v / 65536 / 65536 % 65536, v / 65536 / 65536 / 65536]).toArray 30) := by simp [cells]
  rw [e]
  have hbel : Below w.heap.size w (w.alloc (Obj.cells (cells .u64 [v % 65536, v / 65536 % 65536, v / 65536 / 65536 % 65536, v / 65536 / 65536 / 65536]).toArray 30)) := (Below.refl _ _).alloc (Nat.le_refl _) _
  have hs := hbel.size
  refine (ref_words [v % 65536, v / 65536 % 65536, v / 65536 / 65536 % 65536, v / 65536 / 65536 / 65536] _ 4 _ _ (hrow.rd_all (S := fun g => g < _) hrow.lt) (fun g hg => hg) (by simp) (by simp) hD).mono ?_
  rintro e w4 ⟨A4, us, c4, rfl, hc4, hn4, hv4, hr4, hb4⟩
  have HV4 := Lib.hid hv4
  clear hv4 hrow
  go_wp2
  go_ret
  exact ⟨A4, us, c4, rfl, hc4, hn4, by rw [HV4.out, HV.out], hr4.imp (fun g hg => hg.2), hbel.trans (hb4.mono hs)⟩

end Go.Proofs.Ytoidhoiadkafhaa
