/- the walk of the reference's Rounds. -/
import Derived.Test.YtidddoldkedicaaPlay
namespace Go.Proofs.Ytidddoldkedicaa
open Go.RowKit
attribute [local go_sem] setCell_draws alloc_draws

set_option maxRecDepth 100000 in
set_option maxHeartbeats 2000000 in
theorem rrounds_any (A A' Af : Option Addr) (c c' cf : Nat) (l l' : List Int) (e m : Int) (f : List Flp) (u : Int) (B : Nat) (w : World) (hB : B ≤ w.heap.size) (hl : l.length ≤ 9223372036854775807) (hl' : l'.length ≤ 9223372036854775807) (hfl : f.length ≤ cf) (hcf : cf ≤ maxLen) (h : IR w B A l) (h' : IR w B A' l') (hf : FR w B Af f) :
    Calls Try.prog 37 #[bankV A A' l.length l'.length c c', .agg #[.int .i64 e, .int .i64 m], .slice Af f.length cf, .int .i64 u] w (ScrubPost (roundsS l l' e m f u) w) := by
  have hfl2 : f.length ≤ 9223372036854775807 := by unfold maxLen at hcf; omega
  have HC := Lib.hid (fun (w1 : World) (hb : Below w.heap.size w w1) => ask_any A A' Af c c' cf l l' e m f u B w1 (Nat.le_trans hB hb.size) hl hl' hfl2 (h.below (hb.mono hB)) (h'.below (hb.mono hB)) (hf.below (hb.mono hB)))
  obtain ⟨R, hRe⟩ : ∃ R, R = roundsS l l' e m f u := ⟨_, rfl⟩
  rw [← hRe]
  have HR : Hid (R = if chkR l l' e m f u = 0 then ((ints (runEnd e.toNat m.toNat u.toNat ⟨nats l, 0, []⟩ f).C, l'), (runEnd e.toNat m.toNat u.toNat ⟨nats l, 0, []⟩ f).done, 0) else (([], []), [], chkR l l' e m f u)) := Lib.hid hRe
  clear hRe
  have hnm := fun q => chk_nums (l := l) (l' := l') (e := e) (m := m) (u := u) (f := f) q
  have hh := h
  have hh' := h'
  unfold bankV at HC ⊢
  obtain ⟨w0, hw0⟩ : ∃ w0, ((w.alloc (.cells #[.slice A l.length c, .slice A' l'.length c'] 33)).alloc (.cells #[.int .i64 e, .int .i64 m] 48)).alloc (.cells #[.slice none 0 0, .slice none 0 0] 33) = w0 := ⟨_, rfl⟩
  obtain ⟨b0, z0, h0, hx0, r0⟩ := boxes3_held _ _ _ _ w w0 hw0
  have HCC := Lib.hid (HC.out w0 b0)
  have HW0 := Lib.hid hw0
  clear HC hw0
  obtain ⟨p1, p2⟩ := h0.cells
  obtain ⟨p3, p4⟩ := rcells (w := w0) rfl hx0
  generalize chkR l l' e m f u = P at *
  by_cases hP : P = 0
  · subst hP
    obtain ⟨E, M, U, rfl, rfl, rfl, hE, hM, hU, hwk, hr, hf2, hok⟩ := hnm rfl
    rw [if_pos rfl] at HR
    simp only [Int.toNat_natCast] at HR
    have hfew := hr.few
    have HRIGHT := Lib.hid hr
    have HOK := Lib.hid (right_ok hr 0 hr.pos [])
    have HPL := Lib.hid (fun (w1 : World) (hb : Below w.heap.size w w1) => play_any A A' Af c c' cf l l' E M U f B w1 (Nat.le_trans hB hb.size) (hh.below (hb.mono hB)) (hh'.below (hb.mono hB)) (hf.below (hb.mono hB)) hr ⟨hE.1, by omega⟩ hM hU hwk hf2 hok)
    have HLN := Lib.hid (show (runEnd E M U ⟨nats l, 0, []⟩ f).C.length = l.length from (flipU_ok _ _ _ (run_ok HOK.out hok _).1 (run_ok HOK.out hok _).2).1.len)
    clear hnm hr hok
    generalize runEnd E M U ⟨nats l, 0, []⟩ f = s5 at *
    obtain ⟨C5, x5, D5⟩ := s5
    simp only at HR HPL HLN
    unfold bankV at HPL
    go_enter Try.func37, Try.ntmps37
    go_upto_region 1 with fail
    rw [HW0.out]
    go_wp2_with fail
    refine HCC.out.mono ?_
    rintro e' w1 ⟨rfl, hb1⟩
    clear p1 p2 p3 p4 HCC HW0
    have hs1 := hb1.size
    have hb2 := b0.trans (hb1.mono (by omega))
    have hs2 := hb2.size
    have r1 := r0.below hb1 (by omega)
    have hx1 : w1.heap[w.heap.size + 1]? = some (.cells #[.int .i64 (E : Int), .int .i64 (M : Int)] 48 (0, 0)) := (hb1.block (w.heap.size + 1) (by omega)).trans hx0
    obtain ⟨p1, p2⟩ := (h0.below hb1 (by omega)).cells
    obtain ⟨p3, p4⟩ := rcells (w := w1) rfl hx1
    go_wp2_with fail
    refine (HPL.out w1 hb2).mono ?_
    rintro e' w2 ⟨g, cap, g', cap', D, ck, rfl, y2, xr, y5, hg, hg2, y6, hb3⟩
    have hs3 := hb3.size
    have hgl := y2.lt
    have hgl' := xr.lt
    obtain ⟨wq, hwq⟩ : ∃ wq, w2.alloc (.cells #[.slice (some ⟨g, 0, none⟩) l.length cap, .slice (some ⟨g', 0, none⟩) l'.length cap'] 33) = wq := ⟨_, rfl⟩
    have b9 : Below w2.heap.size w2 wq := by rw [← hwq]; exact box_below _ _
    have z9 : wq.heap.size = w2.heap.size + 1 := by rw [← hwq]; simp
    have h9 : HeldB wq w2.heap.size (.slice (some ⟨g, 0, none⟩) l.length cap) (.slice (some ⟨g', 0, none⟩) l'.length cap') := by rw [← hwq]; exact HeldB.new w2 _ _
    have q9 := (r1.below hb3 (by omega)).below b9 (by omega)
    have k2 := y2.below b9 hgl
    have kr := xr.below b9 hgl'
    have k5 : SR wq w2.heap.size D D5 := SR.below y5 b9
    have bw : Below w.heap.size w wq := (hb2.trans (hb3.mono (by omega))).trans (b9.mono (by omega))
    obtain ⟨i1, i2⟩ := h9.cells
    obtain ⟨j1, j2⟩ := q9.cells
    have j3 := q9.free 0
    have j4 := q9.free 1
    have HWQ := Lib.hid hwq
    clear hwq p1 p2 p3 p4
    go_upto_region 5 with fail
    rw [HWQ.out]
    go_wp2_with fail
    refine bodyPost_ret (v := .tuple #[.agg #[.slice (some ⟨g, 0, .none⟩) l.length cap, .slice (some ⟨g', 0, .none⟩) l'.length cap'], .slice D D5.length ck, .int .i64 0]) (by simp [results, Try.results37, go_sem, j1, j2]) rfl ?_
    rw [HR.out]
    refine ⟨some ⟨g, 0, .none⟩, some ⟨g', 0, .none⟩, cap, cap', D, ck, by simp [bankV, ints_len, HLN.out], ?_, ?_, ?_, ?_, fun ad q => ?_, fun ad q => ?_, fun ad q => ?_⟩
    · exact (((k2.other (by omega)).other (by omega)).ir).lift (Nat.le_refl _)
    · exact (((kr.other (by omega)).other (by omega)).ir).lift (Nat.le_refl _)
    · have hq : SR ((wq.setCell ⟨w.heap.size + 2, 0, .none⟩ (.slice (some ⟨g, 0, .none⟩) l.length cap)).setCell ⟨w.heap.size + 2, 1, .none⟩ (.slice (some ⟨g', 0, .none⟩) l'.length cap')) w2.heap.size D D5 := (k5.other fun ad q => by have := y6 ad q; omega).other fun ad q => by have := y6 ad q; omega
      exact SR.lift hq (by simp [World.setCell]; omega)
    · exact (bw.setCell (p := ⟨w.heap.size + 2, 0, .none⟩) (by simp) _).setCell (p := ⟨w.heap.size + 2, 1, .none⟩) (by simp) _
    · injection q with q; subst q; show w.heap.size ≤ g; omega
    · injection q with q; subst q; show w.heap.size ≤ g'; omega
    · have := y6 ad q; omega
  · rw [if_neg hP] at HR
    have hne : (P != 0) = true := by simpa using hP
    clear hnm
    go_enter Try.func37, Try.ntmps37
    go_upto_region 1 with fail
    rw [HW0.out]
    go_wp2_with fail
    refine HCC.out.mono ?_
    rintro e' w1 ⟨rfl, hb1⟩
    have r1 := r0.below hb1 (by omega)
    have hb2 := b0.trans (hb1.mono (by omega))
    obtain ⟨j1, j2⟩ := r1.cells
    have j3 := r1.free 0
    have j4 := r1.free 1
    clear HW0
    go_wp2_with fail
    refine bodyPost_ret (v := .tuple #[.agg #[.slice .none 0 0, .slice .none 0 0], .slice .none 0 0, .int .i64 P]) (by simp [results, Try.results37, go_sem, j1, j2]) rfl ?_
    rw [HR.out]
    exact scrubPost_none _ ((hb2.setCell (p := ⟨w.heap.size + 2, 0, .none⟩) (by simp) _).setCell (p := ⟨w.heap.size + 2, 1, .none⟩) (by simp) _)
end Go.Proofs.Ytidddoldkedicaa
