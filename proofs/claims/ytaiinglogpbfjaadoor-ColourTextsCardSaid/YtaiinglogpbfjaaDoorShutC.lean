/- What the closings of layer 8 need: an argument that is a colour, opened. -/
import Derived.Test.YtaiinglogpbfjaaDoorRows
import Derived.Test.YtaiinglogpbfjaaDoorCoN
import Derived.WalkKit
import Derived.ProofKit
import Derived.OpenShut
import Derived.JoinedOf
import Derived.SizedLaws
import Derived.Lib.SmallJoins
namespace Go.Proofs.YtaiinglogpbfjaaDoor.shut
open Go.Joins Go.ChangeShapes Go.WideShapes Go.ChangeAt Go.RowKit

set_option maxRecDepth 10000 in
/-- AN ARGUMENT THAT IS A COLOUR. -/
theorem colour {H : Type} {enc : TypeId × Value → H} {W : World} {base : Nat} {v : Value} {d : DataW H} {p : List MemPlace} (hv : Value.okWide Tryd.prog W .any base 23 v) (h : DataW.Trod enc Tryd.prog W 0 (fun _ => true) true 23 v d p) :
    ∃ c : Col, v = colV c := by
  obtain ⟨cs, rfl, hsz⟩ := okWide_struct Tryd.underlying23 hv
  have hc : Tryd.prog.cellsOf 23 = 4 := by kernel_rfl
  have e1 : Tryd.prog.cellsOf 5 = 1 := by kernel_rfl
  rw [hc] at hsz
  obtain ⟨l⟩ := cs
  match l, hsz with
  | [c0, c1, c2, c3], _ =>
    obtain ⟨fuel, hf⟩ := h
    obtain ⟨y0, y1, y2, y3, m, -, -, h0, h1, h2, h3⟩ := trod_struct4 Tryd.underlying23 (show DataW.trod enc Tryd.prog W 0 (fun _ => true) true fuel 23 [c0, c1, c2, c3] = some (d, p) from hf)
    simp only [e1] at h0 h1 h2 h3
    obtain ⟨x0, f0, -, w0⟩ := DataW.trod_int Tryd.underlying5 (show DataW.trod enc Tryd.prog W 0 (fun _ => true) true m 5 [c0] = some y0 from h0)
    obtain ⟨x1, f1, -, w1⟩ := DataW.trod_int Tryd.underlying5 (show DataW.trod enc Tryd.prog W 0 (fun _ => true) true m 5 [c1] = some y1 from h1)
    obtain ⟨x2, f2, -, w2⟩ := DataW.trod_int Tryd.underlying5 (show DataW.trod enc Tryd.prog W 0 (fun _ => true) true m 5 [c2] = some y2 from h2)
    obtain ⟨x3, f3, -, w3⟩ := DataW.trod_int Tryd.underlying5 (show DataW.trod enc Tryd.prog W 0 (fun _ => true) true m 5 [c3] = some y3 from h3)
    obtain rfl : c0 = .int .u8 x0 := by simpa using f0
    obtain rfl : c1 = .int .u8 x1 := by simpa using f1
    obtain rfl : c2 = .int .u8 x2 := by simpa using f2
    obtain rfl : c3 = .int .u8 x3 := by simpa using f3
    have b0 := bounds_u8 w0
    have b1 := bounds_u8 w1
    have b2 := bounds_u8 w2
    have b3 := bounds_u8 w3
    refine ⟨⟨UInt8.ofNat x0.toNat, UInt8.ofNat x1.toNat, UInt8.ofNat x2.toNat, UInt8.ofNat x3.toNat⟩, ?_⟩
    have e : ∀ x : Int, 0 ≤ x ∧ x ≤ 255 → ((UInt8.ofNat x.toNat).toNat : Int) = x := fun x h => by simp only [UInt8.toNat_ofNat']; omega
    simp only [colV, e x0 b0, e x1 b1, e x2 b2, e x3 b3]
theorem ownC : ownKnob Tryd.prog.godebug = none := by kernel_rfl
theorem laidOutC : laidOutB Tryd.prog = true := by kernel_rfl
end Go.Proofs.YtaiinglogpbfjaaDoor.shut
