/- Same of two flashes that hold the same, by the reference. -/
import Derived.Test.YtpccpkjfnmclfaaRFlip
import Derived.Test.YtpccpkjfnmclfaaBytesEq
import Derived.Test.YtpccpkjfnmclfaaSameInts
namespace Go.Proofs.Ytpccpkjfnmclfaa
open Go.RowKit

def boxed22 (x y : Array Value) (w : World) : World := (w.alloc (.cells x 45)).alloc (.cells y 45)
set_option maxRecDepth 100000 in
set_option maxHeartbeats 2000000 in
theorem sameF_yes (b p s : Int) (D D' V V' X X' : Option Addr) (c1 c2 c3 c4 c5 c6 : Nat) (d : List UInt8) (v x : List Int) (B : Nat) (w : World) (hB : B ≤ w.heap.size) (hv : v.length ≤ 9223372036854775807) (hx : x.length ≤ 9223372036854775807) (h : BR w B D d) (h' : BR w B D' d) (hV : IR w B V v) (hV' : IR w B V' v) (hX : IR w B X x) (hX' : IR w B X' x) :
    Calls Try.prog 24 #[flV b p s (.slice D d.length c1) (.slice V v.length c2) (.slice X x.length c3), flV b p s (.slice D' d.length c4) (.slice V' v.length c5) (.slice X' x.length c6)] w fun e w' => e = .returned (.bool true) ∧ Below w.heap.size w w' := by
  unfold flV
  obtain ⟨w0, hw0⟩ : ∃ w0, boxed22 #[.int .i64 b, .int .i64 p, .int .i64 s, .slice D d.length c1, .slice V v.length c2, .slice X x.length c3] #[.int .i64 b, .int .i64 p, .int .i64 s, .slice D' d.length c4, .slice V' v.length c5, .slice X' x.length c6] w = w0 := ⟨_, rfl⟩
  have z0 : w0.heap.size = w.heap.size + 2 := by rw [← hw0]; simp [boxed22]
  have b0 : Below w.heap.size w w0 := by rw [← hw0]; exact (boxF _ _).alloc (by simp) _
  have h0 : HeldF w0 w.heap.size b p s (.slice D d.length c1) (.slice V v.length c2) (.slice X x.length c3) := by
    rw [← hw0]
    exact (HeldF.new w b p s _ _ _).below (boxF _ _) (by simp)
  have r0 : HeldF w0 (w.heap.size + 1) b p s (.slice D' d.length c4) (.slice V' v.length c5) (.slice X' x.length c6) := by
    rw [← hw0]
    have := HeldF.new (w.alloc (.cells #[.int .i64 b, .int .i64 p, .int .i64 s, .slice D d.length c1, .slice V v.length c2, .slice X x.length c3] 45)) b p s (.slice D' d.length c4) (.slice V' v.length c5) (.slice X' x.length c6)
    rw [World.size_alloc] at this
    exact this
  have HW0 := Lib.hid hw0
  clear hw0
  have hb0 := fun (w1 : World) (hb : Below w0.heap.size w0 w1) => (b0.trans (hb.mono (by omega)) : Below w.heap.size w w1)
  have HQ := Lib.hid (fun (w1 : World) (hb : Below w0.heap.size w0 w1) => by
    have := bytesEqual_any D D' c1 c4 d d B w1 (h.below ((hb0 w1 hb).mono hB)) (h'.below ((hb0 w1 hb).mono hB))
    simp only [decide_true] at this
    exact this)
  have HS := Lib.hid (fun (w1 : World) (hb : Below w0.heap.size w0 w1) => (equalI_yes V V' c2 c5 v B w1 hv (hV.below ((hb0 w1 hb).mono hB)) (hV'.below ((hb0 w1 hb).mono hB))).mono fun e w' ⟨he, hb1⟩ => (⟨he, hb.trans (hb1.mono hb.size)⟩ : e = Ending.returned (.bool true) ∧ Below w0.heap.size w0 w'))
  have HT := Lib.hid (fun (w1 : World) (hb : Below w0.heap.size w0 w1) => (equalI_yes X X' c3 c6 x B w1 hx (hX.below ((hb0 w1 hb).mono hB)) (hX'.below ((hb0 w1 hb).mono hB))).mono fun e w' ⟨he, hb1⟩ => (⟨he, hb.trans (hb1.mono hb.size)⟩ : e = Ending.returned (.bool true) ∧ Below w0.heap.size w0 w'))
  have HB0 := Lib.hid hb0
  have Z0 := Lib.hid z0
  have hp1 : w.heap.size < w0.heap.size := by omega
  have hp2 : w.heap.size + 1 < w0.heap.size := by omega
  clear hb0 z0
  go_enter Try.func24, Try.ntmps24
  go_upto_region 1 with fail
  have e := HW0.out
  unfold boxed22 at e
  rw [e]
  clear e
  obtain ⟨e0, e1, e2, e3, e4, e5⟩ := h0.cells
  obtain ⟨f0, f1, f2, f3, f4, f5⟩ := r0.cells
  go_wp2_with fail
  refine (HQ.out _ (Below.refl _ _)).mono ?_
  rintro e w1 ⟨rfl, rfl⟩
  go_wp2_with fail
  refine (HS.out _ (Below.refl _ _)).mono ?_
  rintro e w2 ⟨rfl, hb2⟩
  obtain ⟨g0, g1, g2, g3, g4, g5⟩ := (h0.below hb2 hp1).cells
  obtain ⟨i0, i1, i2, i3, i4, i5⟩ := (r0.below hb2 hp2).cells
  go_wp2_with fail
  refine (HT.out _ hb2).mono ?_
  rintro e w3 ⟨rfl, hb3⟩
  go_wp2
  go_ret
  exact ⟨rfl, HB0.out _ hb3⟩
end Go.Proofs.Ytpccpkjfnmclfaa
