/- the walk of the program's Rounds. -/
import Derived.Test.YteelepjhlhifhaaRun
import Derived.Test.YteelepjhlhifhaaChkRounds
import Derived.Test.YteelepjhlhifhaaScrubbed
namespace Go.Proofs.Yteelepjhlhifhaa
open Go.RowKit
attribute [local go_sem] setCell_draws alloc_draws

theorem boxes3_held (x1 y1 x2 y2 : Value) (w w0 : World) (hw : ((w.alloc (.cells #[x1, y1] 52)).alloc (.cells #[x2, y2] 68)).alloc (.cells #[.slice none 0 0, .slice none 0 0] 52) = w0) :
    Below w.heap.size w w0 ∧ w0.heap.size = w.heap.size + 3 ∧ HeldB w0 w.heap.size x1 y1 ∧ w0.heap[w.heap.size + 1]? = some (.cells #[x2, y2] 68 (0, 0)) ∧ HeldB w0 (w.heap.size + 2) (.slice none 0 0) (.slice none 0 0) := by
  subst hw
  obtain ⟨b, z, h1, h2⟩ := boxes2_held x1 y1 x2 y2 w _ rfl
  have h3 := HeldB.new ((w.alloc (.cells #[x1, y1] 52)).alloc (.cells #[x2, y2] 68)) (.slice none 0 0) (.slice none 0 0)
  rw [z] at h3
  have b3 : Below (w.heap.size + 2) ((w.alloc (.cells #[x1, y1] 52)).alloc (.cells #[x2, y2] 68)) (((w.alloc (.cells #[x1, y1] 52)).alloc (.cells #[x2, y2] 68)).alloc (.cells #[.slice none 0 0, .slice none 0 0] 52)) := (Below.refl _ _).alloc (by simp) _
  exact ⟨b.trans (b3.mono (by omega)), by simp, h1.below b3 (by omega), (b3.block (w.heap.size + 1) (by omega)).trans h2, h3⟩
theorem chk_nums {l l' : List Int} {e m u : Int} {f : List Flp} (h : chkR l l' e m f u = 0) : ∃ E M U : Nat, e = (E : Int) ∧ m = (M : Int) ∧ u = (U : Int) ∧ (1 ≤ E ∧ E ≤ 1000000000000) ∧ (1 ≤ M ∧ M ≤ 5000) ∧ U ≤ 1000000000000 ∧ U / E * M ≤ 1000000 ∧ Right l l' ∧ f.length ≤ 2000 ∧ ∀ x ∈ f, x.ok l.length := by
  obtain ⟨h1, h2, h3, h4, h5⟩ := chkR_right h
  obtain ⟨r1, r2, r3⟩ := chkF_right h1
  refine ⟨e.toNat, m.toNat, u.toNat, by omega, by omega, by omega, by omega, by omega, by omega, ?_, r1, r2, r3⟩
  have he : e = (e.toNat : Int) := by omega
  have hm : m = (m.toNat : Int) := by omega
  have hu : u = (u.toNat : Int) := by omega
  rw [he, hm, hu] at h5
  generalize e.toNat = E at *
  generalize m.toNat = M at *
  generalize u.toNat = U at *
  have ec : ((U : Int) / (E : Int) * (M : Int)) = ((U / E * M : Nat) : Int) := by simp
  rw [ec] at h5
  omega
set_option maxRecDepth 100000 in
set_option maxHeartbeats 2000000 in
theorem rounds_any (A A' Af : Option Addr) (c c' cf : Nat) (l l' : List Int) (e m : Int) (f : List Flp) (u : Int) (B : Nat) (w : World) (hB : B ≤ w.heap.size) (hl : l.length ≤ 9223372036854775807) (hl' : l'.length ≤ 9223372036854775807) (hfl : f.length ≤ cf) (hcf : cf ≤ maxLen) (h : IR w B A l) (h' : IR w B A' l') (hf : FR w B Af f) :
    Calls Try.prog 76 #[bankV A A' l.length l'.length c c', .agg #[.int .i64 e, .int .i64 m], .slice Af f.length cf, .int .i64 u] w (ScrubPost (roundsS l l' e m f u) w) := by
  have hfl2 : f.length ≤ 9223372036854775807 := by unfold maxLen at hcf; omega
  have HC := Lib.hid (fun (w1 : World) (hb : Below w.heap.size w w1) => checkRounds_any A A' Af c c' cf l l' e m f u B w1 (Nat.le_trans hB hb.size) hl hl' hfl2 (h.below (hb.mono hB)) (h'.below (hb.mono hB)) (hf.below (hb.mono hB)))
  obtain ⟨R, hRe⟩ : ∃ R, R = roundsS l l' e m f u := ⟨_, rfl⟩
  rw [← hRe]
  have HR : Hid (R = if chkR l l' e m f u = 0 then ((ints (runEnd e.toNat m.toNat u.toNat ⟨nats l, 0, []⟩ f).C, l'), (runEnd e.toNat m.toNat u.toNat ⟨nats l, 0, []⟩ f).done, 0) else (([], []), [], chkR l l' e m f u)) := Lib.hid hRe
  clear hRe
  have hnm := fun q => chk_nums (l := l) (l' := l') (e := e) (m := m) (u := u) (f := f) q
  have HCL := Lib.hid (fun (w1 : World) (hb : Below w.heap.size w w1) (hr : Right l l') => cloned_any A A' c c' l l' B w1 (Nat.le_trans hB hb.size) hr (h.below (hb.mono hB)) (h'.below (hb.mono hB)))
  unfold bankV at HC HCL ⊢
  obtain ⟨w0, hw0⟩ : ∃ w0, ((w.alloc (.cells #[.slice A l.length c, .slice A' l'.length c'] 52)).alloc (.cells #[.int .i64 e, .int .i64 m] 68)).alloc (.cells #[.slice none 0 0, .slice none 0 0] 52) = w0 := ⟨_, rfl⟩
  obtain ⟨b0, z0, h0, hx0, r0⟩ := boxes3_held _ _ _ _ w w0 hw0
  have HCC := Lib.hid (HC.out w0 b0)
  have HW0 := Lib.hid hw0
  clear HC hw0
  obtain ⟨p1, p2⟩ := h0.cells
  obtain ⟨p3, p4⟩ := rcells (w := w0) rfl hx0
  generalize chkR l l' e m f u = P at *
  by_cases hP : P = 0
  · subst hP
    obtain ⟨E, M, U, rfl, rfl, rfl, hE, hM, hU, hwk, hr, hf2, hok⟩ := hnm rfl
    rw [if_pos rfl] at HR
    simp only [Int.toNat_natCast] at HR
    have hfew := hr.few
    have HRIGHT := Lib.hid hr
    have HOK := Lib.hid (right_ok hr 0 hr.pos [])
    have HIN := Lib.hid (right_ints hr)
    have HOKF := Lib.hid hok
    clear hnm hr hok
    go_enter Try.func76, Try.ntmps76
    go_upto_region 1 with fail
    rw [HW0.out]
    go_wp2_with fail
    refine HCC.out.mono ?_
    rintro e' w1 ⟨rfl, hb1⟩
    clear p1 p2 p3 p4 HCC HW0
    have hs1 := hb1.size
    have hb2 := b0.trans (hb1.mono (by omega))
    have hs2 := hb2.size
    have r1 := r0.below hb1 (by omega)
    have hx1 : w1.heap[w.heap.size + 1]? = some (.cells #[.int .i64 (E : Int), .int .i64 (M : Int)] 68 (0, 0)) := (hb1.block (w.heap.size + 1) (by omega)).trans hx0
    obtain ⟨p1, p2⟩ := (h0.below hb1 (by omega)).cells
    go_wp2_with fail
    refine (HCL.out w1 hb2 HRIGHT.out).mono ?_
    rintro e' w2 ⟨v, rfl, g, cap, g', cap', rfl, hg, hgg, hrow, hrow', hb3⟩
    unfold bankV
    have hs3 := hb3.size
    have g2 := hrow.lt
    have g2' := hrow'.lt
    obtain ⟨w9, hw9⟩ : ∃ w9, (w2.alloc (.cells #[.slice (some ⟨g, 0, none⟩) l.length cap, .slice (some ⟨g', 0, none⟩) l'.length cap'] 52)).alloc (.cells #[.slice (some ⟨g, 0, none⟩) l.length cap, .int .i64 0, .slice none 0 0] 100) = w9 := ⟨_, rfl⟩
    have b9 : Below w2.heap.size w2 w9 := by rw [← hw9]; exact ((Below.refl _ _).alloc (Nat.le_refl _) _).alloc (by simp) _
    have z9 : w9.heap.size = w2.heap.size + 2 := by rw [← hw9]; simp
    have h9 : HeldB w9 w2.heap.size (.slice (some ⟨g, 0, none⟩) l.length cap) (.slice (some ⟨g', 0, none⟩) l'.length cap') := by
      rw [← hw9]
      exact (HeldB.new w2 _ _).below ((Below.refl _ _).alloc (Nat.le_refl _) _) (by simp)
    have p9 : HeldS w9 (w2.heap.size + 1) (.slice (some ⟨g, 0, none⟩) l.length cap) (.int .i64 0) (.slice none 0 0) := by
      have := HeldS.new (w2.alloc (.cells #[.slice (some ⟨g, 0, none⟩) l.length cap, .slice (some ⟨g', 0, none⟩) l'.length cap'] 52)) (.slice (some ⟨g, 0, none⟩) l.length cap) (.int .i64 0) (.slice none 0 0)
      rw [World.size_alloc] at this
      rw [← hw9]
      exact this
    have r9 := hrow.below b9 g2
    have r9' := hrow'.below b9 g2'
    have b29 : Below w1.heap.size w1 w9 := hb3.trans (b9.mono hs3)
    have q9 := r1.below b29 (by omega)
    have hx9 := (b29.block (w.heap.size + 1) (by omega)).trans hx1
    have hat : RunAt (w2.heap.size + 1) g l.length cap ⟨nats l, 0, []⟩ w9 w9 := ⟨_, p9, by rw [HIN.out]; exact r9, OwnS.nil _ _, Kept.refl _ _ _⟩
    have bx9 := hb2.trans (b29.mono hs2)
    have HRN := Lib.hid (run_any (w2.heap.size + 1) g l.length cap E M U ⟨nats l, 0, []⟩ w9 Af cf f B (by omega) (by omega) hfew hf2 hfl hcf hE hM hU hwk (by simp) HOK.out HOKF.out (hf.below (bx9.mono hB)) hat)
    have HW9 := Lib.hid hw9
    obtain ⟨p3, p4⟩ := rcells (w := w9) rfl hx9
    clear hw9 p1 p2
    go_upto_region 6 with fail
    rw [HW9.out]
    go_wp2_with fail
    refine HRN.out.mono ?_
    rintro e' w5 ⟨rfl, hat5⟩
    generalize hst : runEnd E M U ⟨nats l, 0, []⟩ f = s5 at *
    have hln : s5.C.length = l.length := by rw [← hst]; exact (flipU_ok _ _ _ (run_ok HOK.out HOKF.out _).1 (run_ok HOK.out HOKF.out _).2).1.len
    clear hst
    obtain ⟨C5, x5, D5⟩ := s5
    obtain ⟨dv, y1, y2, y3, y4⟩ := hat5
    simp only at y1 y2 y3 HR hln
    have HLN := Lib.hid hln
    obtain ⟨D, ck, rfl, y5, y6⟩ := y3.form
    clear y3 hat HRN HW9 hln p3 p4
    have x9 := y4.heldB h9 (by omega) (by omega)
    have xq := y4.heldB q9 (by omega) (by omega)
    have xr := y4.row r9' (by omega) (by omega)
    obtain ⟨i1, i2⟩ := x9.cells
    obtain ⟨i3, i4, i5⟩ := y1.cells
    obtain ⟨j1, j2⟩ := xq.cells
    have j3 := xq.free 0
    have j4 := xq.free 1
    have bw : Below w.heap.size w w5 := bx9.trans ((y4.to (by omega)).mono (by omega))
    go_wp2_with fail
    go_region
    go_wp2_with fail
    refine bodyPost_ret (v := .tuple #[.agg #[.slice (some ⟨g, 0, .none⟩) l.length cap, .slice (some ⟨g', 0, .none⟩) l'.length cap'], .slice D D5.length ck, .int .i64 0]) (by simp [results, Try.results76, go_sem, j1, j2]) rfl ?_
    rw [HR.out]
    refine ⟨some ⟨g, 0, .none⟩, some ⟨g', 0, .none⟩, cap, cap', D, ck, by simp [bankV, ints_len, HLN.out], ?_, ?_, ?_, ?_, fun ad q => ?_, fun ad q => ?_, fun ad q => ?_⟩
    · exact (((y2.other (by omega)).other (by omega)).drew.ir).lift (Nat.le_refl _)
    · exact (((xr.other (by omega)).other (by omega)).drew.ir).lift (Nat.le_refl _)
    · have hq : SR ((w5.setCell ⟨w.heap.size + 2, 0, .none⟩ (.slice (some ⟨g, 0, .none⟩) l.length cap)).setCell ⟨w.heap.size + 2, 1, .none⟩ (.slice (some ⟨g', 0, .none⟩) l'.length cap')) w5.heap.size D D5 := (y5.other fun ad q => by have := y6 ad q; omega).other fun ad q => by have := y6 ad q; omega
      exact (SR.below (B := w5.heap.size) hq (Below.drew (Below.refl _ _))).lift (by simp [World.setCell])
    · exact ((bw.setCell (p := ⟨w.heap.size + 2, 0, .none⟩) (by simp) _).setCell (p := ⟨w.heap.size + 2, 1, .none⟩) (by simp) _).drew
    · injection q with q; subst q; exact Nat.le_trans hb2.size hg
    · injection q with q; subst q; exact Nat.le_trans hb2.size (Nat.le_trans hg (Nat.le_of_lt hgg))
    · have := y6 ad q; omega
  · rw [if_neg hP] at HR
    have hne : (P != 0) = true := by simpa using hP
    clear hnm HCL
    go_enter Try.func76, Try.ntmps76
    go_upto_region 1 with fail
    rw [HW0.out]
    go_wp2_with fail
    refine HCC.out.mono ?_
    rintro e' w1 ⟨rfl, hb1⟩
    have r1 := r0.below hb1 (by omega)
    have hb2 := b0.trans (hb1.mono (by omega))
    obtain ⟨j1, j2⟩ := r1.cells
    have j3 := r1.free 0
    have j4 := r1.free 1
    clear HW0
    go_wp2_with fail
    refine bodyPost_ret (v := .tuple #[.agg #[.slice .none 0 0, .slice .none 0 0], .slice .none 0 0, .int .i64 P]) (by simp [results, Try.results76, go_sem, j1, j2]) rfl ?_
    rw [HR.out]
    exact scrubPost_none _ ((hb2.setCell (p := ⟨w.heap.size + 2, 0, .none⟩) (by simp) _).setCell (p := ⟨w.heap.size + 2, 1, .none⟩) (by simp) _)
end Go.Proofs.Yteelepjhlhifhaa
