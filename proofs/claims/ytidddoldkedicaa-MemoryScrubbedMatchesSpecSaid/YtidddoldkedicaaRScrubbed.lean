/- the walk of the reference's Scrubbed. -/
import Derived.Test.YtidddoldkedicaaScrubbed
import Derived.Test.YtidddoldkedicaaRScrub
import Derived.Test.YtidddoldkedicaaRReadAt
import Derived.Deep.Cut
namespace Go.Proofs.Ytidddoldkedicaa
open Go.RowKit
attribute [local go_sem] setCell_draws alloc_draws

set_option maxRecDepth 100000 in
set_option maxHeartbeats 1000000 in
theorem rscrubbed_any (A A' : Option Addr) (c c' : Nat) (l l' : List Int) (a z : Int) (B : Nat) (w : World) (hB : B ≤ w.heap.size) (hl : l.length ≤ 9223372036854775807) (hl' : l'.length ≤ 9223372036854775807) (h : IR w B A l) (h' : IR w B A' l') :
    Calls Try.prog 34 #[bankV A A' l.length l'.length c c', .int .i64 a, .int .i64 z] w (ScrubPost (scrubbedS l l' a z) w) := by
  have HC := Lib.hid (fun (w1 : World) (hb : Below w.heap.size w w1) => rcheckBank_any A A' c c' l l' B w1 (Nat.le_trans hB hb.size) hl hl' (h.below (hb.mono hB)) (h'.below (hb.mono hB)))
  obtain ⟨R, hRe⟩ : ∃ R, R = scrubbedS l l' a z := ⟨_, rfl⟩
  rw [← hRe]
  have HR : Hid (R = if placeS l l' a = 0 then (if 0 ≤ z ∧ z ≤ 5000 then ((ints (scrubT 0 z.toNat ⟨nats l, a.toNat, []⟩).C, l'), (scrubT 0 z.toNat ⟨nats l, a.toNat, []⟩).done, 0) else (([], []), [], 1)) else (([], []), [], placeS l l' a)) := Lib.hid hRe
  clear hRe
  have hpr := fun q => place_right (l := l) (l' := l') (a := a) q
  have hpc := place_cases l l' a
  have hrt := fun q => (chk_right (l := l) (l' := l') q)
  have HPL := Lib.hid (fun (w : World) (hn : l.length ≤ 2000) => isPlace_any A A' l.length l'.length c c' a w hn)
  generalize hw0 : boxed2 (.slice A l.length c) (.slice A' l'.length c') w = w0
  have b0 : Below w.heap.size w w0 := by rw [← hw0]; exact boxed2_below _ _ _
  have s0 : w0.heap.size = w.heap.size + 2 := by rw [← hw0]; exact boxed2_size _ _ _
  have e0 : w0.cell? ⟨w.heap.size, 0, none⟩ = some (.slice A l.length c) := by rw [← hw0]; simp [boxed2]
  have e1 : w0.cell? ⟨w.heap.size, 1, none⟩ = some (.slice A' l'.length c') := by rw [← hw0]; simp [boxed2]
  have r0 : HeldB w0 (w.heap.size + 1) (.slice none 0 0) (.slice none 0 0) := by
    have := HeldB.new (w.alloc (.cells #[.slice A l.length c, .slice A' l'.length c'] 33)) (.slice none 0 0) (.slice none 0 0)
    rw [World.size_alloc] at this
    rw [← hw0]
    exact this
  unfold boxed2 at hw0
  have HCC := Lib.hid (HC.out _ b0)
  have HCL := Lib.hid (fun (w1 : World) (hb : Below w.heap.size w w1) (hr : Right l l') => rcloned_any A A' c c' l l' B w1 (Nat.le_trans hB hb.size) hr (h.below (hb.mono hB)) (h'.below (hb.mono hB)))
  unfold bankV at HC HCC HCL HPL ⊢
  clear HC
  generalize placeS l l' a = P at *
  generalize chkB l l' = K at *
  rcases hpc with ⟨rfl, hin, rfl⟩ | ⟨rfl, hin, rfl⟩ | ⟨hK, rfl⟩
  · obtain ⟨hr, k, rfl, hk⟩ := hpr rfl
    have hdp : decide ((0 : Int) ≤ (k : Int) ∧ (k : Int) ≤ (l.length : Int) - 1) = true := by simp; omega
    rw [hdp] at HPL
    clear hdp hin hrt
    rw [if_pos rfl, Int.toNat_natCast] at HR
    have hfew := hr.few
    have HSAME := Lib.hid hr.same
    have HRIGHT := Lib.hid hr
    clear hpr hr
    by_cases hz : 0 ≤ z ∧ z ≤ 5000
    · rw [if_pos hz] at HR
      obtain ⟨m, rfl⟩ : ∃ m : Nat, z = (m : Int) := ⟨z.toNat, by omega⟩
      rw [Int.toNat_natCast] at HR
      have hd : decide ((0 : Int) ≤ (m : Int) ∧ (m : Int) ≤ 5000) = true := by simp; omega
      have HOK := Lib.hid (right_ok HRIGHT.out k hk [])
      have HIN := Lib.hid (right_ints HRIGHT.out)
      have HLN := Lib.hid (scrub_ok (t := 0) (right_ok HRIGHT.out k hk []) m).len
      go_enter Try.func34, Try.ntmps34
      go_wp2_with fail
      refine HCC.out.mono ?_
      rintro e u1 ⟨rfl, hb1u⟩
      have c1u := (Below.at_ hb1u w.heap.size (by omega) 0).trans e0
      have c2u := (Below.at_ hb1u w.heap.size (by omega) 1).trans e1
      go_wp2_with fail
      refine (HPL.out u1 hfew).mono ?_
      rintro e w1 ⟨rfl, hb1v⟩
      have hb1 := hb1u.trans (hb1v.mono hb1u.size)
      have c1 := (Below.at_ hb1 w.heap.size (by omega) 0).trans e0
      have c2 := (Below.at_ hb1 w.heap.size (by omega) 1).trans e1
      have r1 := r0.below hb1 (by omega)
      have hb2 := b0.trans (hb1.mono (by omega))
      clear hw0
      go_wp2_with (first | (go_at_call 51; refine (rwithin_any _ _ _ _).mono ?_; rintro e w' ⟨rfl, rfl⟩) | fail)
      refine (HCL.out w1 hb2 HRIGHT.out).mono ?_
      rintro e w2 ⟨v, rfl, g, cap, g', cap', rfl, hg, hgg, hrow, hrow', hb3⟩
      unfold bankV
      have hs1 := hb1.size
      have hs2 := hb2.size
      have hs3 := hb3.size
      have g2 := hrow.lt
      have g2' := hrow'.lt
      generalize hw9 : w2.alloc (.cells #[.slice (some ⟨g, 0, none⟩) l.length cap, .slice (some ⟨g', 0, none⟩) l'.length cap'] 33) = w9
      have b9 : Below w2.heap.size w2 w9 := by rw [← hw9]; exact box_below _ _
      have z9 : w9.heap.size = w2.heap.size + 1 := by rw [← hw9]; simp
      have h9 : HeldB w9 w2.heap.size (.slice (some ⟨g, 0, none⟩) l.length cap) (.slice (some ⟨g', 0, none⟩) l'.length cap') := by rw [← hw9]; exact HeldB.new w2 _ _
      have r9 := hrow.below b9 g2
      have r9' := hrow'.below b9 g2'
      have q9 := (r1.below hb3 (by omega)).below b9 (by omega)
      have HSC := Lib.hid (rscrub_any g l.length cap g' cap' l'.length 0 m ⟨nats l, k, []⟩ w9 HOK.out rfl hfew (by omega) (by rw [HIN.out]; exact r9))
      unfold bankV at HSC
      have HW9 := Lib.hid hw9
      clear hw9
      go_upto_region 9 with fail
      rw [HW9.out]
      obtain ⟨i1, i2⟩ := h9.cells
      go_wp2_with fail
      refine HSC.out.mono ?_
      rintro e w5 ⟨dv, rfl, y2, y3, y4⟩
      generalize hst : scrubT 0 m ⟨nats l, k, []⟩ = s5 at *
      obtain ⟨C5, x5, D5⟩ := s5
      simp only at y2 y3 HR HLN
      obtain ⟨D, ck, rfl, y5, y6⟩ := y3.form
      clear y3 HSC HW9 c1 c2 i1 i2
      have x9 := y4.heldB h9 (by omega) (by omega)
      have xq := y4.heldB q9 (by omega) (by omega)
      have xr := y4.row r9' (by omega) (by omega)
      obtain ⟨i1, i2⟩ := x9.cells
      obtain ⟨j1, j2⟩ := xq.cells
      have j3 := xq.free 0
      have j4 := xq.free 1
      have bw : Below w.heap.size w w5 := (hb2.trans (hb3.mono (by omega))).trans ((b9.mono (by omega)).trans ((y4.to (by omega)).mono (by omega)))
      go_wp2_with fail
      refine bodyPost_ret (v := .tuple #[.agg #[.slice (some ⟨g, 0, .none⟩) l.length cap, .slice (some ⟨g', 0, .none⟩) l'.length cap'], .slice D D5.length ck, .int .i64 0]) (by simp [results, Try.results34, go_sem, j1, j2]) rfl ?_
      rw [HR.out]
      refine ⟨some ⟨g, 0, .none⟩, some ⟨g', 0, .none⟩, cap, cap', D, ck, by simp [bankV, ints_len, HLN.out], ?_, ?_, ?_, ?_, fun ad q => ?_, fun ad q => ?_, fun ad q => ?_⟩
      · exact (((y2.other (by omega)).other (by omega)).ir).lift (Nat.le_refl _)
      · exact (((xr.other (by omega)).other (by omega)).ir).lift (Nat.le_refl _)
      · have hq : SR ((w5.setCell ⟨w.heap.size + 1, 0, .none⟩ (.slice (some ⟨g, 0, .none⟩) l.length cap)).setCell ⟨w.heap.size + 1, 1, .none⟩ (.slice (some ⟨g', 0, .none⟩) l'.length cap')) w5.heap.size D D5 := (y5.other fun ad q => by have := y6 ad q; omega).other fun ad q => by have := y6 ad q; omega
        exact (SR.below (B := w5.heap.size) hq (Below.refl _ _)).lift (by simp [World.setCell])
      · exact ((bw.setCell (p := ⟨w.heap.size + 1, 0, .none⟩) (by simp) _).setCell (p := ⟨w.heap.size + 1, 1, .none⟩) (by simp) _)
      · injection q with q; subst q; exact Nat.le_trans hb2.size hg
      · injection q with q; subst q; exact Nat.le_trans hb2.size (Nat.le_trans hg (Nat.le_of_lt hgg))
      · have := y6 ad q; omega
    · rw [if_neg hz] at HR
      have hd : decide ((0 : Int) ≤ z ∧ z ≤ 5000) = false := by simp; omega
      clear hz HCL
      go_enter Try.func34, Try.ntmps34
      go_wp2_with fail
      refine HCC.out.mono ?_
      rintro e u1 ⟨rfl, hb1u⟩
      have c1u := (Below.at_ hb1u w.heap.size (by omega) 0).trans e0
      have c2u := (Below.at_ hb1u w.heap.size (by omega) 1).trans e1
      go_wp2_with fail
      refine (HPL.out u1 hfew).mono ?_
      rintro e w1 ⟨rfl, hb1v⟩
      have hb1 := hb1u.trans (hb1v.mono hb1u.size)
      have r1 := r0.below hb1 (by omega)
      have hb2 := b0.trans (hb1.mono (by omega))
      obtain ⟨j1, j2⟩ := r1.cells
      have j3 := r1.free 0
      have j4 := r1.free 1
      clear hw0
      go_wp2_with (first | (go_at_call 51; refine (rwithin_any _ _ _ _).mono ?_; rintro e w' ⟨rfl, rfl⟩) | fail)
      refine bodyPost_ret (v := .tuple #[.agg #[.slice .none 0 0, .slice .none 0 0], .slice .none 0 0, .int .i64 1]) (by simp [results, Try.results34, go_sem, j1, j2]) rfl ?_
      rw [HR.out]
      exact scrubPost_none _ ((hb2.setCell (by simp) _).setCell (by simp) _)
  · rw [if_neg (by omega)] at HR
    have hfew := (hrt rfl).few
    have hdp : decide ((0 : Int) ≤ a ∧ a ≤ (l.length : Int) - 1) = false := by simp; omega
    rw [hdp] at HPL
    clear hpr HCL hrt hin hdp
    go_enter Try.func34, Try.ntmps34
    go_wp2_with fail
    refine HCC.out.mono ?_
    rintro e u1 ⟨rfl, hb1u⟩
    have c1u := (Below.at_ hb1u w.heap.size (by omega) 0).trans e0
    have c2u := (Below.at_ hb1u w.heap.size (by omega) 1).trans e1
    go_wp2_with fail
    refine (HPL.out u1 hfew).mono ?_
    rintro e w1 ⟨rfl, hb1v⟩
    have hb1 := hb1u.trans (hb1v.mono hb1u.size)
    have r1 := r0.below hb1 (by omega)
    have hb2 := b0.trans (hb1.mono (by omega))
    obtain ⟨j1, j2⟩ := r1.cells
    have j3 := r1.free 0
    have j4 := r1.free 1
    clear hw0
    go_wp2_with (first | (go_at_call 51; refine (rwithin_any _ _ _ _).mono ?_; rintro e w' ⟨rfl, rfl⟩) | fail)
    refine bodyPost_ret (v := .tuple #[.agg #[.slice .none 0 0, .slice .none 0 0], .slice .none 0 0, .int .i64 9]) (by simp [results, Try.results34, go_sem, j1, j2]) rfl ?_
    rw [HR.out]
    exact scrubPost_none _ ((hb2.setCell (by simp) _).setCell (by simp) _)
  · rw [if_neg hK] at HR
    have hne : (P != 0) = true := by simpa using hK
    clear hpr HCL hrt HPL
    go_enter Try.func34, Try.ntmps34
    go_wp2_with fail
    refine HCC.out.mono ?_
    rintro e w1 ⟨rfl, hb1⟩
    have r1 := r0.below hb1 (by omega)
    have hb2 := b0.trans (hb1.mono (by omega))
    obtain ⟨j1, j2⟩ := r1.cells
    have j3 := r1.free 0
    have j4 := r1.free 1
    clear hw0
    go_wp2_with (first | (go_at_call 51; refine (rwithin_any _ _ _ _).mono ?_; rintro e w' ⟨rfl, rfl⟩) | fail)
    refine bodyPost_ret (v := .tuple #[.agg #[.slice .none 0 0, .slice .none 0 0], .slice .none 0 0, .int .i64 P]) (by simp [results, Try.results34, go_sem, j1, j2]) rfl ?_
    rw [HR.out]
    exact scrubPost_none _ ((hb2.setCell (by simp) _).setCell (by simp) _)
end Go.Proofs.Ytidddoldkedicaa
