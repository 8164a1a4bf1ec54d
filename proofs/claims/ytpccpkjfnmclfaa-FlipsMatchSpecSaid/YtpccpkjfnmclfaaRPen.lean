/- the reference's pen: a flash with rows of its own. -/
import Derived.Test.YtpccpkjfnmclfaaFlashW
import Derived.Test.YtpccpkjfnmclfaaYRow
namespace Go.Proofs.Ytpccpkjfnmclfaa
open Go.RowKit

/-- block P holds a pen -/
def HeldPen (w : World) (P : Nat) (b p s : Int) (D V X : Value) (z : Int) : Prop := w.heap[P]? = some (.cells #[.int .i64 b, .int .i64 p, .int .i64 s, D, V, X, .int .i64 z, .bool false] 91 (0, 0))
theorem HeldF.two {w : World} {P : Nat} {b p s : Int} {D V X D' V' : Value} (h : HeldF w P b p s D V X) : HeldF ((w.setCell ⟨P, 3, none⟩ D').setCell ⟨P, 4, none⟩ V') P b p s D' V' X := by
  have hlt := h.lt
  have h' : w.heap[P] = .cells #[.int .i64 b, .int .i64 p, .int .i64 s, D, V, X] 45 (0, 0) := by unfold HeldF at h; simpa [Array.getElem?_eq_getElem hlt] using h
  unfold HeldF
  simp only [World.setCell]
  rw [Array.getElem?_eq_getElem (by simpa using hlt), Array.getElem_modify_self, Array.getElem_modify_self, h']
  simp
theorem Own.other {w : World} {base p k : Nat} {v u : Value} {l : List UInt8} (h : Own w base v l) (hp : p < base) : Own (w.setCell ⟨p, k, none⟩ u) base v l := by
  refine ⟨h.1, ?_⟩
  rcases h.2 with e | ⟨g, cap, cur, e, hg, hh, r⟩
  · exact .inl e
  · exact .inr ⟨g, cap, cur, e, hg, (Below.heap_setCell w ⟨p, k, none⟩ u g (by show g ≠ p; omega)).trans hh, r⟩
theorem OwnI.otherI {w : World} {base p k : Nat} {v u : Value} {l : List Int} (h : OwnI w base v l) (hp : p < base) : OwnI (w.setCell ⟨p, k, none⟩ u) base v l := by
  refine ⟨h.1, ?_⟩
  rcases h.2 with e | ⟨g, cap, cur, e, hg, hh, r⟩
  · exact .inl e
  · exact .inr ⟨g, cap, cur, e, hg, (Below.heap_setCell w ⟨p, k, none⟩ u g (by show g ≠ p; omega)).trans hh, r⟩
set_option maxRecDepth 100000 in
set_option maxHeartbeats 1000000 in
theorem newPen_any (b p s z : Int) (AD AV : Option Addr) (X : Value) (c c' : Nat) (d : List UInt8) (v : List Int) (B : Nat) (w : World) (hB : B ≤ w.heap.size) (hd : BR w B AD d) (hv : IR w B AV v) (hdl : d.length ≤ 300000) (hvl : v.length ≤ 2000) :
    Calls Try.prog 59 #[flV b p s (.slice AD d.length c) (.slice AV v.length c') X, .int .i64 z] w fun e w' => ∃ P vD vV, e = .returned (.pointer (some ⟨P, 0, none⟩)) ∧ HeldPen w' P b p s vD vV X z ∧ Own w' w.heap.size vD d ∧ OwnI w' w.heap.size vV v ∧ w.heap.size ≤ P ∧ Below w.heap.size w w' := by
  unfold flV
  obtain ⟨w0, hw0⟩ : ∃ w0, w.alloc (.cells #[.int .i64 b, .int .i64 p, .int .i64 s, .slice AD d.length c, .slice AV v.length c', X] 45) = w0 := ⟨_, rfl⟩
  have b0 : Below w.heap.size w w0 := by rw [← hw0]; exact boxF _ _
  have z0 : w0.heap.size = w.heap.size + 1 := by rw [← hw0]; simp
  have h0 : HeldF w0 w.heap.size b p s (.slice AD d.length c) (.slice AV v.length c') X := by rw [← hw0]; exact HeldF.new _ _ _ _ _ _ _
  have HW0 := Lib.hid hw0
  clear hw0
  have hd0 := (hd.lift hB).below b0
  have hv0 := (hv.lift hB).below b0
  obtain ⟨e0, e1, e2, e3, e4, e5⟩ := h0.cells
  go_enter Try.func59, Try.ntmps59
  go_upto_region 1 with fail
  rw [HW0.out]
  go_upto_region 2 with fail
  go_wp2_with (first
    | (at_builtin; refine wpList_app _ rfl (.tmp 7) (.tmp 9) 22 5 1 1 rfl elem8 w0.heap.size (.slice none 0 0) 0 [] rfl (Own.nil w0 _) w.heap.size AD d.length c (d.map bv) rfl (by simp) hd0 (bv_one _) (by unfold maxLen; omega) (by omega) (Nat.le_refl _) ?_
       intro v1 w1 hown1 hgrow1 hat1
       have hb1 : Below w0.heap.size w0 w1 := (Below.refl _ _).grown hgrow1 (Nat.le_refl _) (fun k hk => by cases hk)
       have h1 := h0.below hb1 (by omega)
       have hv1 := hv0.below (hb1.mono (by omega))
       have z1 := hb1.size
       have o1 : Own w1 w0.heap.size v1 d := by simpa using Own.of (a := []) hown1 rfl
       obtain ⟨A1, k1, rfl, r1⟩ := o1.form
       obtain ⟨f0, f1, f2, f3, f4, f5⟩ := h1.cells)
    | (at_builtin; refine wpList_app _ rfl (.tmp 11) (.tmp 13) 43 3 1 8 rfl elemI w1.heap.size (.slice none 0 0) 0 [] rfl (OwnI.nil w1 _) w.heap.size AV v.length c' (v.map iv) rfl (by simp) hv1 (iv_one _) (by unfold maxLen; omega) (by omega) (Nat.le_refl _) ?_
       intro v2 w2 hown2 hgrow2 hat2
       have hb2 : Below w1.heap.size w1 w2 := (Below.refl _ _).grown hgrow2 (Nat.le_refl _) (fun k hk => by cases hk)
       have h2 := h1.below hb2 (by omega)
       have z2 := hb2.size
       have o2 : OwnI w2 w1.heap.size v2 v := by simpa using OwnI.of (a := []) hown2 rfl
       have o1' := o1.after hb2 (Nat.le_refl _)
       obtain ⟨A2, k2, rfl, r2⟩ := o2.form
       obtain ⟨g0, g1, g2, g3, g4, g5⟩ := h2.cells
       have q3 := h2.free 3
       have q4 := h2.free 4)
    | fail)
  go_ret
  have bb : Below w.heap.size w w2 := (b0.trans (hb1.mono (by omega))).trans (hb2.mono (by omega))
  refine ⟨w2.heap.size, .slice A1 d.length k1, .slice A2 v.length k2, rfl, ?_, ?_, ?_, by omega, ?_⟩
  · unfold HeldPen
    have := heap_new ((w2.setCell ⟨w.heap.size, 3, none⟩ (.slice A1 d.length k1)).setCell ⟨w.heap.size, 4, none⟩ (.slice A2 v.length k2)) (.cells #[.int .i64 b, .int .i64 p, .int .i64 s, .slice A1 d.length k1, .slice A2 v.length k2, X, .int .i64 z, .bool false] 91)
    simpa [World.setCell] using this
  · exact Own.lower (World.ownsRow.alloc ((o1'.other (p := w.heap.size) (k := 3) (u := .slice A1 d.length k1) (by omega)).other (p := w.heap.size) (k := 4) (u := .slice A2 v.length k2) (by omega)) _) (by omega)
  · exact OwnI.lower (World.ownsRow.alloc ((o2.otherI (p := w.heap.size) (k := 3) (u := .slice A1 d.length k1) (by omega)).otherI (p := w.heap.size) (k := 4) (u := .slice A2 v.length k2) (by omega)) _) (by omega)
  · exact ((bb.setCell (p := ⟨w.heap.size, 3, none⟩) (Nat.le_refl _) _).setCell (p := ⟨w.heap.size, 4, none⟩) (Nat.le_refl _) _).alloc (by simp [World.setCell]; omega) _
end Go.Proofs.Ytpccpkjfnmclfaa
