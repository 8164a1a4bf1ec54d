/- the copy of a flash, by the program. -/
import Derived.Test.YtpccpkjfnmclfaaRFlip
namespace Go.Proofs.Ytpccpkjfnmclfaa
open Go.RowKit

theorem nine_fin {w w0 w3 : World} {g cap : Nat} {d : List UInt8} {v x : List Int} {v2 v3 : Value} (b0 : Below w.heap.size w w0) (z0 : w0.heap.size = w.heap.size + 2) (hb : Below w0.heap.size w0 w3) (hg : w0.heap.size ≤ g) (hr : RowY w3 g cap d) (o2 : OwnI w3 w0.heap.size v2 v) (o3 : OwnI w3 w0.heap.size v3 x) (u0 u1 u2 u3 u4 u5 u6 u7 u8 : Value) :
    w.heap.size + 2 ≤ g ∧ RowY (((((((((w3.setCell ⟨w.heap.size, 3, none⟩ u0).setCell ⟨w.heap.size, 4, none⟩ u1).setCell ⟨w.heap.size, 5, none⟩ u2).setCell ⟨(w.heap.size + 1), 0, none⟩ u3).setCell ⟨(w.heap.size + 1), 1, none⟩ u4).setCell ⟨(w.heap.size + 1), 2, none⟩ u5).setCell ⟨(w.heap.size + 1), 3, none⟩ u6).setCell ⟨(w.heap.size + 1), 4, none⟩ u7).setCell ⟨(w.heap.size + 1), 5, none⟩ u8) g cap d ∧ OwnI (((((((((w3.setCell ⟨w.heap.size, 3, none⟩ u0).setCell ⟨w.heap.size, 4, none⟩ u1).setCell ⟨w.heap.size, 5, none⟩ u2).setCell ⟨(w.heap.size + 1), 0, none⟩ u3).setCell ⟨(w.heap.size + 1), 1, none⟩ u4).setCell ⟨(w.heap.size + 1), 2, none⟩ u5).setCell ⟨(w.heap.size + 1), 3, none⟩ u6).setCell ⟨(w.heap.size + 1), 4, none⟩ u7).setCell ⟨(w.heap.size + 1), 5, none⟩ u8) (w.heap.size + 2) v2 v ∧ OwnI (((((((((w3.setCell ⟨w.heap.size, 3, none⟩ u0).setCell ⟨w.heap.size, 4, none⟩ u1).setCell ⟨w.heap.size, 5, none⟩ u2).setCell ⟨(w.heap.size + 1), 0, none⟩ u3).setCell ⟨(w.heap.size + 1), 1, none⟩ u4).setCell ⟨(w.heap.size + 1), 2, none⟩ u5).setCell ⟨(w.heap.size + 1), 3, none⟩ u6).setCell ⟨(w.heap.size + 1), 4, none⟩ u7).setCell ⟨(w.heap.size + 1), 5, none⟩ u8) (w.heap.size + 2) v3 x ∧ Below w.heap.size w (((((((((w3.setCell ⟨w.heap.size, 3, none⟩ u0).setCell ⟨w.heap.size, 4, none⟩ u1).setCell ⟨w.heap.size, 5, none⟩ u2).setCell ⟨(w.heap.size + 1), 0, none⟩ u3).setCell ⟨(w.heap.size + 1), 1, none⟩ u4).setCell ⟨(w.heap.size + 1), 2, none⟩ u5).setCell ⟨(w.heap.size + 1), 3, none⟩ u6).setCell ⟨(w.heap.size + 1), 4, none⟩ u7).setCell ⟨(w.heap.size + 1), 5, none⟩ u8) := by
  have p1 : w.heap.size < w0.heap.size := by omega
  have p2 : w.heap.size + 1 < w0.heap.size := by omega
  have q1 : g ≠ w.heap.size := by omega
  have q2 : g ≠ w.heap.size + 1 := by omega
  have l1 : w.heap.size ≤ w.heap.size + 1 := by omega
  have hbb : Below w.heap.size w w3 := b0.trans (hb.mono (by omega))
  refine ⟨by omega, ?_, ?_, ?_, ?_⟩
  · exact ((((((((hr.other q1).other q1).other q1).other q2).other q2).other q2).other q2).other q2).other q2
  · exact OwnI.lower (((((((((o2.otherI p1).otherI p1).otherI p1).otherI p2).otherI p2).otherI p2).otherI p2).otherI p2).otherI p2) (by omega)
  · exact OwnI.lower (((((((((o3.otherI p1).otherI p1).otherI p1).otherI p2).otherI p2).otherI p2).otherI p2).otherI p2).otherI p2) (by omega)
  · exact ((((((((hbb.setCell (Nat.le_refl _) _).setCell (Nat.le_refl _) _).setCell (Nat.le_refl _) _).setCell l1 _).setCell l1 _).setCell l1 _).setCell l1 _).setCell l1 _).setCell l1 _
set_option maxRecDepth 100000 in
set_option maxHeartbeats 4000000 in
theorem scloned_any (b p s : Int) (AD AV AX : Option Addr) (c c' c'' : Nat) (d : List UInt8) (v x : List Int) (B : Nat) (w : World) (hB : B ≤ w.heap.size) (hd : 0 < d.length) (hdl : d.length ≤ 300000) (hv : v.length ≤ 2000) (hx : x.length ≤ 2000) (hV : AV = none → c' = 0) (hX : AX = none → c'' = 0) (h : BR w B AD d) (h' : IR w B AV v) (h'' : IR w B AX x) :
    Calls Try.prog 56 #[flV b p s (.slice AD d.length c) (.slice AV v.length c') (.slice AX x.length c'')] w fun e w' => ∃ g cap vV vX, e = .returned (flV b p s (.slice (some ⟨g, 0, none⟩) d.length cap) vV vX) ∧ w.heap.size + 2 ≤ g ∧ RowY w' g cap d ∧ OwnI w' (w.heap.size + 2) vV v ∧ OwnI w' (w.heap.size + 2) vX x ∧ Below w.heap.size w w' := by
  obtain ⟨w0, hw0⟩ : ∃ w0, boxed3 b p s (.slice AD d.length c) (.slice AV v.length c') (.slice AX x.length c'') w = w0 := ⟨_, rfl⟩
  have z0 : w0.heap.size = w.heap.size + 2 := by rw [← hw0]; simp [boxed3]
  have b0 : Below w.heap.size w w0 := by rw [← hw0]; exact (boxF _ _).alloc (by simp) _
  have h0 : HeldF w0 w.heap.size b p s (.slice AD d.length c) (.slice AV v.length c') (.slice AX x.length c'') := by
    rw [← hw0]
    exact (HeldF.new w b p s _ _ _).below (boxF _ _) (by simp)
  have r0 : HeldF w0 (w.heap.size + 1) 0 0 0 noneV noneV noneV := by
    rw [← hw0]
    have := HeldF.new (w.alloc (.cells #[.int .i64 b, .int .i64 p, .int .i64 s, .slice AD d.length c, .slice AV v.length c', .slice AX x.length c''] 45)) 0 0 0 noneV noneV noneV
    rw [World.size_alloc] at this
    exact this
  have HW0 := Lib.hid hw0
  clear hw0
  have hP : w.heap.size < w0.heap.size := by omega
  have hb0 := fun (w1 : World) (hb : Below w0.heap.size w0 w1) => (b0.trans (hb.mono (by omega)) : Below w.heap.size w w1)
  have HC1 := Lib.hid (fun (w1 : World) (hb : Below w0.heap.size w0 w1) => (cloneY_any AD c d B w1 hd hdl (Nat.le_trans hB (hb0 w1 hb).size) (h.below ((hb0 w1 hb).mono hB))).mono fun e w' ⟨g, cap, he, hg, hr, hb1⟩ => (⟨g, cap, he, hg, hr, hb1, hb.trans (hb1.mono hb.size)⟩ : ∃ g cap, e = Ending.returned (.slice (some ⟨g, 0, none⟩) d.length cap) ∧ w1.heap.size ≤ g ∧ RowY w' g cap d ∧ Below w1.heap.size w1 w' ∧ Below w0.heap.size w0 w'))
  have HC2 := Lib.hid (fun (w1 : World) (hb : Below w0.heap.size w0 w1) => (cloneO_any AV c' v B w1 hV hv (Nat.le_trans hB (hb0 w1 hb).size) (h'.below ((hb0 w1 hb).mono hB))).mono fun e w' ⟨g, he, hr, hb1⟩ => (⟨g, he, hr, hb1, hb.trans (hb1.mono hb.size)⟩ : ∃ g, e = Ending.returned g ∧ OwnI w' w1.heap.size g v ∧ Below w1.heap.size w1 w' ∧ Below w0.heap.size w0 w'))
  have HC3 := Lib.hid (fun (w1 : World) (hb : Below w0.heap.size w0 w1) => (cloneO_any AX c'' x B w1 hX hx (Nat.le_trans hB (hb0 w1 hb).size) (h''.below ((hb0 w1 hb).mono hB))).mono fun e w' ⟨g, he, hr, hb1⟩ => (⟨g, he, hr, hb1, hb.trans (hb1.mono hb.size)⟩ : ∃ g, e = Ending.returned g ∧ OwnI w' w1.heap.size g x ∧ Below w1.heap.size w1 w' ∧ Below w0.heap.size w0 w'))
  have hbb : Below w0.heap.size w0 w0 := Below.refl _ _
  have Z0 := Lib.hid z0
  have HB0 := Lib.hid hb0
  clear z0 hb0 h h' h'' hV hX
  unfold flV
  go_enter Try.func56, Try.ntmps56
  go_upto_region 1 with fail
  have e := HW0.out
  unfold boxed3 at e
  rw [e]
  clear e
  obtain ⟨e0, e1, e2, e3, e4, e5⟩ := h0.cells
  go_region_law ((first
    | (go_simp; go_at_call 28; refine (HC1.out _ ?_).mono ?_; (first | exact hbb.drew | exact hbb); rintro e w1 ⟨g, cap, rfl, hg, hrow, hb1, hb1'⟩; have g1 := h0.below hb1' hP; obtain ⟨m0, m1, m2, m3, m4, m5⟩ := g1.cells)
    | (go_simp; go_at_call 90; refine (HC2.out _ ?_).mono ?_; (first | with_reducible exact hb1' | with_reducible exact hb1'.drew); rintro e w2 ⟨vV, rfl, ho2, hb2, hb2'⟩; obtain ⟨A2, k2, rfl, -⟩ := ho2.form; have g2 := h0.below hb2' hP; obtain ⟨n0, n1, n2, n3, n4, n5⟩ := g2.cells)
    | (go_simp; go_at_call 90; refine (HC3.out _ ?_).mono ?_; (first | with_reducible exact hb2' | with_reducible exact hb2'.drew); rintro e w3 ⟨vX, rfl, ho3, hb3, hb3'⟩; obtain ⟨A3, k3, rfl, -⟩ := ho3.form; have g3 := h0.below hb3' hP; obtain ⟨q0, q1, q2, q3, q4, q5⟩ := g3.cells; have q6 := g3.free 3; have q7 := g3.free 4; have q8 := g3.free 5; have r3 := r0.below hb3' (by have := Z0.out; omega); have rf := r3.free)))
  all_goals
    have hr3 : RowY w3 g cap d := by
      have hr2 : RowY w2 g cap d := by first | with_reducible exact hrow.below hb2 hrow.lt | exact hrow.drew.below hb2 hrow.lt
      first | with_reducible exact hr2.below hb3 hr2.lt | exact hr2.drew.below hb3 hr2.lt
    have o2 : OwnI w3 w0.heap.size (.slice A2 v.length k2) v := by
      have := hb1'.size
      first | exact (ho2.after hb3 (Nat.le_refl _)).lower this | exact (ho2.drew.after hb3 (Nat.le_refl _)).lower this
    have o3 : OwnI w3 w0.heap.size (.slice A3 x.length k3) x := ho3.lower hb2'.size
    have hg0 : w0.heap.size ≤ g := Nat.le_trans (Nat.le_refl _) hg
    have F := Lib.hid (nine_fin b0 Z0.out hb3' hg0 hr3 o2 o3)
    obtain ⟨t0, t1, t2, t3, t4, t5⟩ := r3.cells
    clear hr3 o2 o3 hb1 hb2 hb3 hb1' hb2' hb3' hrow ho2 ho3
    go_wp2_with fail
    refine bodyPost_ret (v := .agg #[.int .i64 b, .int .i64 p, .int .i64 s, .slice (some ⟨g, 0, none⟩) d.length cap, .slice A2 v.length k2, .slice A3 x.length k3]) (by simp [results, Try.results56, go_sem, t0, t1, t2, t3, t4, t5]) rfl ⟨g, cap, _, _, rfl, ?_⟩
    exact F.out _ _ _ _ _ _ _ _ _
end Go.Proofs.Ytpccpkjfnmclfaa
