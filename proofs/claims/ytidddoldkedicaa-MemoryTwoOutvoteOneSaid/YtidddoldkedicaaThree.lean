/- the walk of checkThree. -/
import Derived.Test.YtidddoldkedicaaWritten
import Derived.Test.YtidddoldkedicaaVoteMath
namespace Go.Proofs.Ytidddoldkedicaa
open Go.RowKit
attribute [local go_sem] setCell_draws alloc_draws

def three3 (x1 y1 x2 y2 x3 y3 : Value) (w : World) : World :=
  (((w.alloc (.cells #[x1, y1] 33)).alloc (.cells #[x2, y2] 33)).alloc (.cells #[x3, y3] 33)).alloc (.cells #[x1, y1, x2, y2, x3, y3] 33)
theorem three3_below (x1 y1 x2 y2 x3 y3 : Value) (w : World) : Below w.heap.size w (three3 x1 y1 x2 y2 x3 y3 w) := ((((Below.refl _ _).alloc (Nat.le_refl _) _).alloc (by simp) _).alloc (by simp <;> omega) _).alloc (by simp <;> omega) _
theorem three3_size (x1 y1 x2 y2 x3 y3 : Value) (w : World) : (three3 x1 y1 x2 y2 x3 y3 w).heap.size = w.heap.size + 4 := by simp [three3]
theorem three3_held (x1 y1 x2 y2 x3 y3 : Value) (w : World) : HeldB (three3 x1 y1 x2 y2 x3 y3 w) w.heap.size x1 y1 ∧ HeldB (three3 x1 y1 x2 y2 x3 y3 w) (w.heap.size + 1) x2 y2 ∧ HeldB (three3 x1 y1 x2 y2 x3 y3 w) (w.heap.size + 2) x3 y3 := by
  have h1 := HeldB.new w x1 y1
  have h2 := HeldB.new (w.alloc (.cells #[x1, y1] 33)) x2 y2
  have h3 := HeldB.new ((w.alloc (.cells #[x1, y1] 33)).alloc (.cells #[x2, y2] 33)) x3 y3
  simp only [World.size_alloc] at h2 h3
  have b1 : Below (w.heap.size + 1) (w.alloc (.cells #[x1, y1] 33)) (three3 x1 y1 x2 y2 x3 y3 w) := (((Below.refl _ _).alloc (by simp) _).alloc (by simp) _).alloc (by simp <;> omega) _
  have b2 : Below (w.heap.size + 2) ((w.alloc (.cells #[x1, y1] 33)).alloc (.cells #[x2, y2] 33)) (three3 x1 y1 x2 y2 x3 y3 w) := ((Below.refl _ _).alloc (by simp) _).alloc (by simp) _
  have b3 : Below (w.heap.size + 3) (((w.alloc (.cells #[x1, y1] 33)).alloc (.cells #[x2, y2] 33)).alloc (.cells #[x3, y3] 33)) (three3 x1 y1 x2 y2 x3 y3 w) := (Below.refl _ _).alloc (by simp) _
  exact ⟨h1.below b1 (by omega), h2.below b2 (by omega), h3.below b3 (by omega)⟩
theorem three3_cells (x1 y1 x2 y2 x3 y3 : Value) (w : World) (k : Nat) (v : Value) (h : #[x1, y1, x2, y2, x3, y3][k]? = some v) : (three3 x1 y1 x2 y2 x3 y3 w).cell? ⟨w.heap.size + 3, k, none⟩ = some v := by
  have e : (three3 x1 y1 x2 y2 x3 y3 w).heap[w.heap.size + 3]? = some (.cells #[x1, y1, x2, y2, x3, y3] 33 (0, 0)) := by
    have := heap_alloc_new (((w.alloc (.cells #[x1, y1] 33)).alloc (.cells #[x2, y2] 33)).alloc (.cells #[x3, y3] 33)) (.cells #[x1, y1, x2, y2, x3, y3] 33)
    simpa [three3] using this
  simp only [World.cell?, e]
  simpa using h
def idx3 : Nat → Int
  | 0 => 0
  | 1 => 1
  | 2 => 2
  | _ => 3
set_option maxRecDepth 100000 in
set_option maxHeartbeats 1000000 in
theorem checkThree_any (A1 A1' A2 A2' A3 A3' : Option Addr) (c1 c1' c2 c2' c3 c3' : Nat) (a a' b b' d d' : List Int) (B : Nat) (w : World) (hB : B ≤ w.heap.size)
    (la : a.length ≤ 9223372036854775807) (la' : a'.length ≤ 9223372036854775807) (lb : b.length ≤ 9223372036854775807) (lb' : b'.length ≤ 9223372036854775807) (ld : d.length ≤ 9223372036854775807) (ld' : d'.length ≤ 9223372036854775807)
    (ha : IR w B A1 a) (ha' : IR w B A1' a') (hb : IR w B A2 b) (hb' : IR w B A2' b') (hd : IR w B A3 d) (hd' : IR w B A3' d') :
    Calls Try.prog 74 #[bankV A1 A1' a.length a'.length c1 c1', bankV A2 A2' b.length b'.length c2 c2', bankV A3 A3' d.length d'.length c3 c3'] w fun e w' => e = .returned (.int .i64 (threeS a a' b b' d d')) ∧ Below w.heap.size w w' := by
  have C1 := Lib.hid (fun (w1 : World) (h : Below w.heap.size w w1) => checkBank_any A1 A1' c1 c1' a a' B w1 (Nat.le_trans hB h.size) la la' (ha.below (h.mono hB)) (ha'.below (h.mono hB)))
  have C2 := Lib.hid (fun (w1 : World) (h : Below w.heap.size w w1) => checkBank_any A2 A2' c2 c2' b b' B w1 (Nat.le_trans hB h.size) lb lb' (hb.below (h.mono hB)) (hb'.below (h.mono hB)))
  have C3 := Lib.hid (fun (w1 : World) (h : Below w.heap.size w w1) => checkBank_any A3 A3' c3 c3' d d' B w1 (Nat.le_trans hB h.size) ld ld' (hd.below (h.mono hB)) (hd'.below (h.mono hB)))
  have HR := Lib.hid (show threeS a a' b b' d d' = if chkB a a' = 0 then (if chkB b b' = 0 then (if chkB d d' = 0 then (if b.length = a.length ∧ d.length = a.length then 0 else 3) else chkB d d') else chkB b b') else chkB a a' from rfl)
  generalize threeS a a' b b' d d' = R at *
  generalize chkB a a' = K1 at *
  generalize chkB b b' = K2 at *
  generalize chkB d d' = K3 at *
  unfold bankV at *
  clear ha ha' hb hb' hd hd'
  obtain ⟨ws, hws⟩ : ∃ ws, three3 (.slice A1 a.length c1) (.slice A1' a'.length c1') (.slice A2 b.length c2) (.slice A2' b'.length c2') (.slice A3 d.length c3) (.slice A3' d'.length c3') w = ws := ⟨_, rfl⟩
  have bs : Below w.heap.size w ws := by rw [← hws]; exact three3_below _ _ _ _ _ _ _
  have zs : ws.heap.size = w.heap.size + 4 := by rw [← hws]; exact three3_size _ _ _ _ _ _ _
  obtain ⟨h1, h2, h3⟩ : HeldB ws w.heap.size (.slice A1 a.length c1) (.slice A1' a'.length c1') ∧ HeldB ws (w.heap.size + 1) (.slice A2 b.length c2) (.slice A2' b'.length c2') ∧ HeldB ws (w.heap.size + 2) (.slice A3 d.length c3) (.slice A3' d'.length c3') := by rw [← hws]; exact three3_held _ _ _ _ _ _ _
  have k0 : ws.cell? ⟨w.heap.size + 3, 0, none⟩ = some (.slice A1 a.length c1) := by rw [← hws]; exact three3_cells _ _ _ _ _ _ _ 0 _ rfl
  have k1 : ws.cell? ⟨w.heap.size + 3, 1, none⟩ = some (.slice A1' a'.length c1') := by rw [← hws]; exact three3_cells _ _ _ _ _ _ _ 1 _ rfl
  have k2 : ws.cell? ⟨w.heap.size + 3, 2, none⟩ = some (.slice A2 b.length c2) := by rw [← hws]; exact three3_cells _ _ _ _ _ _ _ 2 _ rfl
  have k3 : ws.cell? ⟨w.heap.size + 3, 3, none⟩ = some (.slice A2' b'.length c2') := by rw [← hws]; exact three3_cells _ _ _ _ _ _ _ 3 _ rfl
  have k4 : ws.cell? ⟨w.heap.size + 3, 4, none⟩ = some (.slice A3 d.length c3) := by rw [← hws]; exact three3_cells _ _ _ _ _ _ _ 4 _ rfl
  have k5 : ws.cell? ⟨w.heap.size + 3, 5, none⟩ = some (.slice A3' d'.length c3') := by rw [← hws]; exact three3_cells _ _ _ _ _ _ _ 5 _ rfl
  unfold three3 at hws
  have HWS := Lib.hid hws
  clear hws
  go_enter Try.func74, Try.ntmps74
  go_wp2_with fail
  rw [HWS.out]
  go_loopw [8, 9, 15] (fun _ _ i wr => ∃ j : Nat, j ≤ 3 ∧ i = .int .i64 (idx3 j) ∧ Below ws.heap.size ws wr ∧ (1 ≤ j → K1 = 0) ∧ (2 ≤ j → K2 = 0) ∧ (3 ≤ j → K3 = 0)) (fun _ _ i _ => 4 - (intOf i).toNat)
  case atStart => exact ⟨0, by omega, rfl, Below.refl _ _, by omega, by omega, by omega⟩
  case round =>
    obtain ⟨j, hj, rfl, hb, q1, q2, q3⟩ := hrel
    have m0 := (Below.at_ hb (w.heap.size + 3) (by omega) 0).trans k0
    have m1 := (Below.at_ hb (w.heap.size + 3) (by omega) 1).trans k1
    have m2 := (Below.at_ hb (w.heap.size + 3) (by omega) 2).trans k2
    have m3 := (Below.at_ hb (w.heap.size + 3) (by omega) 3).trans k3
    have m4 := (Below.at_ hb (w.heap.size + 3) (by omega) 4).trans k4
    have m5 := (Below.at_ hb (w.heap.size + 3) (by omega) 5).trans k5
    have hbw := bs.trans (hb.mono (by omega))
    have hsz := hb.size
    have hc : j = 0 ∨ j = 1 ∨ j = 2 ∨ j = 3 := by omega
    clear hj k0 k1 k2 k3 k4 k5
    rcases hc with rfl | rfl | rfl | rfl
    · have hbx := hbw.trans ((box_below (.cells #[.slice A1 a.length c1, .slice A1' a'.length c1'] 33) wr).mono (by omega))
      have C' := Lib.hid (C1.out _ hbx)
      simp only [idx3]
      go_wp2_with fail
      refine C'.out.mono ?_
      rintro e w1 ⟨rfl, hb1⟩
      have hb2 := hb.trans (((box_below (.cells #[.slice A1 a.length c1, .slice A1' a'.length c1'] 33) wr).trans (hb1.mono (by simp))).mono hsz)
      by_cases hk : K1 = 0
      · subst hk
        go_wp2_with fail
        exact ⟨⟨1, by omega, rfl, hb2, by simp, by omega, by omega⟩, by simp [intOf]⟩
      · have hk' : (K1 != 0) = true := by simpa using hk
        have HR2 : Hid (R = K1) := Lib.hid (by have := HR.out; simpa [hk] using this)
        go_wp2_with fail
        go_ret
        exact ⟨ret_int HR2.out.symm, bs.trans (hb2.mono (by omega))⟩
    · have q1 := q1 (by omega)
      subst q1
      have hbx := hbw.trans ((box_below (.cells #[.slice A2 b.length c2, .slice A2' b'.length c2'] 33) wr).mono (by omega))
      have C' := Lib.hid (C2.out _ hbx)
      simp only [idx3]
      go_wp2_with fail
      refine C'.out.mono ?_
      rintro e w1 ⟨rfl, hb1⟩
      have hb2 := hb.trans (((box_below (.cells #[.slice A2 b.length c2, .slice A2' b'.length c2'] 33) wr).trans (hb1.mono (by simp))).mono hsz)
      by_cases hk : K2 = 0
      · subst hk
        go_wp2_with fail
        exact ⟨⟨2, by omega, rfl, hb2, by simp, by simp, by omega⟩, by simp [intOf]⟩
      · have hk' : (K2 != 0) = true := by simpa using hk
        have HR2 : Hid (R = K2) := Lib.hid (by have := HR.out; simpa [hk] using this)
        go_wp2_with fail
        go_ret
        exact ⟨ret_int HR2.out.symm, bs.trans (hb2.mono (by omega))⟩
    · have q1 := q1 (by omega)
      subst q1
      have q2 := q2 (by omega)
      subst q2
      have hbx := hbw.trans ((box_below (.cells #[.slice A3 d.length c3, .slice A3' d'.length c3'] 33) wr).mono (by omega))
      have C' := Lib.hid (C3.out _ hbx)
      simp only [idx3]
      go_wp2_with fail
      refine C'.out.mono ?_
      rintro e w1 ⟨rfl, hb1⟩
      have hb2 := hb.trans (((box_below (.cells #[.slice A3 d.length c3, .slice A3' d'.length c3'] 33) wr).trans (hb1.mono (by simp))).mono hsz)
      by_cases hk : K3 = 0
      · subst hk
        go_wp2_with fail
        exact ⟨⟨3, by omega, rfl, hb2, by simp, by simp, by simp⟩, by simp [intOf]⟩
      · have hk' : (K3 != 0) = true := by simpa using hk
        have HR2 : Hid (R = K3) := Lib.hid (by have := HR.out; simpa [hk] using this)
        go_wp2_with fail
        go_ret
        exact ⟨ret_int HR2.out.symm, bs.trans (hb2.mono (by omega))⟩
    · have q1 := q1 (by omega)
      subst q1
      have q2 := q2 (by omega)
      subst q2
      have q3 := q3 (by omega)
      subst q3
      obtain ⟨x1, -⟩ := (h1.below hb (by omega)).cells
      obtain ⟨x2, -⟩ := (h2.below hb (by omega)).cells
      obtain ⟨x3, -⟩ := (h3.below hb (by omega)).cells
      clear m0 m1 m2 m3 m4 m5
      simp only [idx3]
      by_cases hl1 : b.length = a.length
      · have n1 : ((b.length : Int) != (a.length : Int)) = false := by simp; omega
        by_cases hl2 : d.length = a.length
        · have n2 : ((d.length : Int) != (a.length : Int)) = false := by simp; omega
          have HR2 : Hid (R = 0) := Lib.hid (by have := HR.out; simpa [hl1, hl2] using this)
          clear hl1 hl2
          go_wp2_with fail
          go_ret
          exact ⟨ret_int HR2.out.symm, hbw⟩
        · have n2 : ((d.length : Int) != (a.length : Int)) = true := by simp; omega
          have HR2 : Hid (R = 3) := Lib.hid (by have := HR.out; simpa [hl1, hl2] using this)
          clear hl1 hl2
          go_wp2_with fail
          go_ret
          exact ⟨ret_int HR2.out.symm, hbw⟩
      · have n1 : ((b.length : Int) != (a.length : Int)) = true := by simp; omega
        have HR2 : Hid (R = 3) := Lib.hid (by have := HR.out; simpa [hl1] using this)
        clear hl1
        go_wp2_with fail
        go_ret
        exact ⟨ret_int HR2.out.symm, hbw⟩
end Go.Proofs.Ytidddoldkedicaa
