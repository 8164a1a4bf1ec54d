/- the walk of the law MemorySlowestMatchesSpec. -/
import Derived.Test.YteelepjhlhifhaaBase
import Derived.Test.YteelepjhlhifhaaRSlow
namespace Go.Proofs.Yteelepjhlhifhaa
open Go.RowKit

set_option maxRecDepth 100000 in
set_option maxHeartbeats 2000000 in
theorem lawSlow_any (A A' Af : Option Addr) (c c' cf : Nat) (l l' : List Int) (e m : Int) (f : List Flp) (u q : Int) (w : World) (hl : l.length ≤ 9223372036854775807) (hl' : l'.length ≤ 9223372036854775807) (hfl : f.length ≤ cf) (hcf : cf ≤ maxLen) (h : IR w w.heap.size A l) (h' : IR w w.heap.size A' l') (hf : FR w w.heap.size Af f) :
    Calls Try.prog 9 #[bankV A A' l.length l'.length c c', .agg #[.int .i64 e, .int .i64 m], .slice Af f.length cf, .int .i64 u, .int .i64 q] w fun e w' => e = .returned (.bool true) ∧ Below w.heap.size w w' := by
  have C1 := Lib.hid (fun (w1 : World) (hb : Below w.heap.size w w1) => slowest_any A A' Af c c' cf l l' e m f u q w.heap.size w1 hb.size hl hl' hfl hcf (h.below hb) (h'.below hb) (hf.below hb))
  have C2 := Lib.hid (fun (w1 : World) (hb : Below w.heap.size w w1) => rSlowest_any A A' Af c c' cf l l' e m f u q w.heap.size w1 hb.size hl hl' hfl hcf (h.below hb) (h'.below hb) (hf.below hb))
  generalize slowS l l' m f u q = R at *
  obtain ⟨r1, r2, r3⟩ := R
  simp only at C1 C2
  unfold bankV at C1 C2 ⊢
  obtain ⟨w0, hw0⟩ : ∃ w0, (w.alloc (.cells #[.slice A l.length c, .slice A' l'.length c'] 52)).alloc (.cells #[.int .i64 e, .int .i64 m] 68) = w0 := ⟨_, rfl⟩
  obtain ⟨b0, z0, h0, hx0⟩ := boxes2_held _ _ _ _ w w0 hw0
  clear h h' hf
  have HCL := Lib.hid (fun (w' : World) (hb : Below w0.heap.size w0 w') => (show (w'.cell? ⟨w.heap.size, 0, none⟩ = some (.slice A l.length c) ∧ w'.cell? ⟨w.heap.size, 1, none⟩ = some (.slice A' l'.length c')) ∧ (w'.cell? ⟨w.heap.size + 1, 0, none⟩ = some (.int .i64 e) ∧ w'.cell? ⟨w.heap.size + 1, 1, none⟩ = some (.int .i64 m)) from
    ⟨(h0.below hb (by omega)).cells, rcells (w := w') rfl ((hb.block (w.heap.size + 1) (by omega)).trans hx0)⟩))
  clear hx0 h0
  obtain ⟨⟨p1, p2⟩, p3, p4⟩ := HCL.out w0 (Below.refl _ _)
  have HW0 := Lib.hid hw0
  clear hw0
  have t1 : (r3 == r3) = true := by simp
  have t2 : (r1 == r1) = true := by simp
  have t3 : (r2 == r2) = true := by simp
  go_enter Try.func9, Try.ntmps9
  go_upto_region 1 with fail
  rw [HW0.out]
  go_wp2_with fail
  refine (C1.out w0 b0).mono ?_
  rintro e' w1 ⟨rfl, hb1⟩
  clear HW0 p1 p2 p3 p4
  have bx1 := b0.trans (hb1.mono (by omega))
  obtain ⟨⟨p1, p2⟩, p3, p4⟩ := HCL.out w1 hb1
  go_wp2_with fail
  refine (C2.out w1 bx1).mono ?_
  rintro e' w2 ⟨rfl, hb2⟩
  have bx2 := bx1.trans (hb2.mono bx1.size)
  clear p1 p2 p3 p4
  go_wp2_with (first | (go_at_call 36; with_reducible refine (awake_any _).mono ?_; rintro e w7 ⟨rfl, rfl⟩) | fail)
  go_ret
  first | exact ⟨rfl, bx2⟩ | exact ⟨rfl, bx2.drew⟩
end Go.Proofs.Yteelepjhlhifhaa
