/- Lost and Wrong of the reference. -/
import Derived.Test.YtidddoldkedicaaRLost
import Derived.Test.YtidddoldkedicaaPlay
namespace Go.Proofs.Ytidddoldkedicaa
open Go.RowKit
attribute [local go_sem] setCell_draws alloc_draws

set_option maxRecDepth 100000 in
set_option maxHeartbeats 2000000 in
theorem rLost_any (A A' Af : Option Addr) (c c' cf : Nat) (l l' : List Int) (e m : Int) (f : List Flp) (u : Int) (B : Nat) (w : World) (hB : B ≤ w.heap.size) (hl : l.length ≤ 9223372036854775807) (hl' : l'.length ≤ 9223372036854775807) (hfl : f.length ≤ cf) (hcf : cf ≤ maxLen) (h : IR w B A l) (h' : IR w B A' l') (hf : FR w B Af f) :
    Calls Try.prog 41 #[bankV A A' l.length l'.length c c', .agg #[.int .i64 e, .int .i64 m], .slice Af f.length cf, .int .i64 u] w (PlacesPost (lostT (roundsS l l' e m f u).1.1 (roundsS l l' e m f u).1.1.length, (roundsS l l' e m f u).2.2) w) := by
  have hfl2 : f.length ≤ 9223372036854775807 := by unfold maxLen at hcf; omega
  have HC := Lib.hid (fun (w1 : World) (hb : Below w.heap.size w w1) => ask_any A A' Af c c' cf l l' e m f u B w1 (Nat.le_trans hB hb.size) hl hl' hfl2 (h.below (hb.mono hB)) (h'.below (hb.mono hB)) (hf.below (hb.mono hB)))
  obtain ⟨Z, hZe⟩ : ∃ Z, Z = roundsS l l' e m f u := ⟨_, rfl⟩
  rw [← hZe]
  have HR : Hid (Z = if chkR l l' e m f u = 0 then ((ints (runEnd e.toNat m.toNat u.toNat ⟨nats l, 0, []⟩ f).C, l'), (runEnd e.toNat m.toNat u.toNat ⟨nats l, 0, []⟩ f).done, 0) else (([], []), [], chkR l l' e m f u)) := Lib.hid hZe
  clear hZe
  have hnm := fun q => chk_nums (l := l) (l' := l') (e := e) (m := m) (u := u) (f := f) q
  have hh := h
  have hh' := h'
  unfold bankV at HC ⊢
  obtain ⟨w0, hw0⟩ : ∃ w0, (w.alloc (.cells #[.slice A l.length c, .slice A' l'.length c'] 33)).alloc (.cells #[.int .i64 e, .int .i64 m] 48) = w0 := ⟨_, rfl⟩
  obtain ⟨b0, z0, h0, hx0⟩ := boxes2_held _ _ _ _ w w0 hw0
  have HCC := Lib.hid (HC.out w0 b0)
  have HW0 := Lib.hid hw0
  clear HC hw0
  obtain ⟨p1, p2⟩ := h0.cells
  obtain ⟨p3, p4⟩ := rcells (w := w0) rfl hx0
  generalize chkR l l' e m f u = P at *
  by_cases hP : P = 0
  · subst hP
    obtain ⟨E, M, U, rfl, rfl, rfl, hE, hM, hU, hwk, hr, hf2, hok⟩ := hnm rfl
    rw [if_pos rfl] at HR
    simp only [Int.toNat_natCast] at HR
    have hfew := hr.few
    have HSAME := Lib.hid hr.same
    have HOK := Lib.hid (right_ok hr 0 hr.pos [])
    have HPL := Lib.hid (fun (w1 : World) (hb : Below w.heap.size w w1) => play_any A A' Af c c' cf l l' E M U f B w1 (Nat.le_trans hB hb.size) (hh.below (hb.mono hB)) (hh'.below (hb.mono hB)) (hf.below (hb.mono hB)) hr ⟨hE.1, by omega⟩ hM hU hwk hf2 hok)
    have HEND := Lib.hid (show (runEnd E M U ⟨nats l, 0, []⟩ f).ok l.length from (flipU_ok _ _ _ (run_ok HOK.out hok _).1 (run_ok HOK.out hok _).2).1)
    clear hnm hr hok HOK
    generalize runEnd E M U ⟨nats l, 0, []⟩ f = s5 at *
    obtain ⟨C5, x5, D5⟩ := s5
    simp only at HR HPL
    have HX := Lib.hid (show (ints C5).length = l.length from by rw [ints_len]; exact HEND.out.len)
    have HCD : Hid (∀ j (h : j < (ints C5).length), 0 ≤ (ints C5)[j] ∧ (ints C5)[j] ≤ 4194303) := Lib.hid (fun j h => by
      have hj : j < C5.length := by rw [ints_len] at h; exact h
      rw [ints_get _ j hj]
      have : C5[j] < 4194304 := HEND.out.codes j hj
      omega)
    clear HEND
    rw [HR.out]
    simp only
    clear HR
    generalize ints C5 = X at *
    unfold bankV at HPL
    go_enter Try.func41, Try.ntmps41
    go_upto_region 1 with fail
    rw [HW0.out]
    go_wp2_with fail
    refine HCC.out.mono ?_
    rintro e' w1 ⟨rfl, hb1⟩
    clear p1 p2 p3 p4 HCC HW0
    have hs1 := hb1.size
    have hb2 := b0.trans (hb1.mono (by omega))
    have hs2 := hb2.size
    have hx1 : w1.heap[w.heap.size + 1]? = some (.cells #[.int .i64 (E : Int), .int .i64 (M : Int)] 48 (0, 0)) := (hb1.block (w.heap.size + 1) (by omega)).trans hx0
    obtain ⟨p1, p2⟩ := (h0.below hb1 (by omega)).cells
    obtain ⟨p3, p4⟩ := rcells (w := w1) rfl hx1
    go_wp2_with fail
    refine (HPL.out w1 hb2).mono ?_
    rintro e' w2 ⟨g, cap, g', cap', D, ck, rfl, y2, xr, y5, hg, hg2, y6, hb3⟩
    have hs3 := hb3.size
    have hgl := y2.lt
    have hgl' := xr.lt
    obtain ⟨wq, hwq⟩ : ∃ wq, w2.alloc (.cells #[.slice (some ⟨g, 0, none⟩) l.length cap, .slice (some ⟨g', 0, none⟩) l'.length cap'] 33) = wq := ⟨_, rfl⟩
    have b9 : Below w2.heap.size w2 wq := by rw [← hwq]; exact box_below _ _
    have z9 : wq.heap.size = w2.heap.size + 1 := by rw [← hwq]; simp
    have h9 : HeldB wq w2.heap.size (.slice (some ⟨g, 0, none⟩) l.length cap) (.slice (some ⟨g', 0, none⟩) l'.length cap') := by rw [← hwq]; exact HeldB.new w2 _ _
    have k2 := y2.below b9 hgl
    have kr := xr.below b9 hgl'
    have bw : Below w.heap.size w wq := (hb2.trans (hb3.mono (by omega))).trans (b9.mono (by omega))
    obtain ⟨i1, i2⟩ := h9.cells
    have HLO := Lib.hid (rlost_any (some ⟨g, 0, none⟩) (some ⟨g', 0, none⟩) cap cap' X l' wq (by have := HX.out; omega) HCD.out (k2.ir.lift (Nat.le_refl _)) (kr.ir.lift (Nat.le_refl _)))
    rw [HX.out] at HLO
    unfold bankV at HLO
    have HWQ := Lib.hid hwq
    clear hwq p1 p2 p3 p4
    go_upto_region 5 with fail
    rw [HWQ.out]
    go_wp2_with fail
    refine HLO.out.mono ?_
    rintro e' w3 ⟨A9, c9, rfl, hI, hb9⟩
    go_wp2_with fail
    refine bodyPost_ret (v := .tuple #[.slice A9 (lostT X l.length).length c9, .int .i64 0]) (by simp [results, Try.results41, go_sem]) rfl ?_
    exact ⟨A9, c9, by simp only [HX.out], by simp only [HX.out]; exact hI, bw.trans (hb9.mono (by omega))⟩
  · rw [if_neg hP] at HR
    have hne : (P != 0) = true := by simpa using hP
    clear hnm
    go_enter Try.func41, Try.ntmps41
    go_upto_region 1 with fail
    rw [HW0.out]
    go_wp2_with fail
    refine HCC.out.mono ?_
    rintro e' w1 ⟨rfl, hb1⟩
    have hb2 := b0.trans (hb1.mono (by omega))
    clear HW0
    go_wp2_with fail
    refine bodyPost_ret (v := .tuple #[.slice .none 0 0, .int .i64 P]) (by simp [results, Try.results41, go_sem]) rfl ?_
    rw [HR.out]
    exact ⟨.none, 0, rfl, .inl rfl, hb2⟩
set_option maxRecDepth 100000 in
set_option maxHeartbeats 2000000 in
theorem rWrong_any (A A' Af : Option Addr) (c c' cf : Nat) (l l' : List Int) (e m : Int) (f : List Flp) (u : Int) (B : Nat) (w : World) (hB : B ≤ w.heap.size) (hl : l.length ≤ 9223372036854775807) (hl' : l'.length ≤ 9223372036854775807) (hfl : f.length ≤ cf) (hcf : cf ≤ maxLen) (h : IR w B A l) (h' : IR w B A' l') (hf : FR w B Af f) :
    Calls Try.prog 44 #[bankV A A' l.length l'.length c c', .agg #[.int .i64 e, .int .i64 m], .slice Af f.length cf, .int .i64 u] w (PlacesPost (wrongT (roundsS l l' e m f u).1.1 (roundsS l l' e m f u).1.2 (roundsS l l' e m f u).1.1.length, (roundsS l l' e m f u).2.2) w) := by
  have hfl2 : f.length ≤ 9223372036854775807 := by unfold maxLen at hcf; omega
  have HC := Lib.hid (fun (w1 : World) (hb : Below w.heap.size w w1) => ask_any A A' Af c c' cf l l' e m f u B w1 (Nat.le_trans hB hb.size) hl hl' hfl2 (h.below (hb.mono hB)) (h'.below (hb.mono hB)) (hf.below (hb.mono hB)))
  obtain ⟨Z, hZe⟩ : ∃ Z, Z = roundsS l l' e m f u := ⟨_, rfl⟩
  rw [← hZe]
  have HR : Hid (Z = if chkR l l' e m f u = 0 then ((ints (runEnd e.toNat m.toNat u.toNat ⟨nats l, 0, []⟩ f).C, l'), (runEnd e.toNat m.toNat u.toNat ⟨nats l, 0, []⟩ f).done, 0) else (([], []), [], chkR l l' e m f u)) := Lib.hid hZe
  clear hZe
  have hnm := fun q => chk_nums (l := l) (l' := l') (e := e) (m := m) (u := u) (f := f) q
  have hh := h
  have hh' := h'
  unfold bankV at HC ⊢
  obtain ⟨w0, hw0⟩ : ∃ w0, (w.alloc (.cells #[.slice A l.length c, .slice A' l'.length c'] 33)).alloc (.cells #[.int .i64 e, .int .i64 m] 48) = w0 := ⟨_, rfl⟩
  obtain ⟨b0, z0, h0, hx0⟩ := boxes2_held _ _ _ _ w w0 hw0
  have HCC := Lib.hid (HC.out w0 b0)
  have HW0 := Lib.hid hw0
  clear HC hw0
  obtain ⟨p1, p2⟩ := h0.cells
  obtain ⟨p3, p4⟩ := rcells (w := w0) rfl hx0
  generalize chkR l l' e m f u = P at *
  by_cases hP : P = 0
  · subst hP
    obtain ⟨E, M, U, rfl, rfl, rfl, hE, hM, hU, hwk, hr, hf2, hok⟩ := hnm rfl
    rw [if_pos rfl] at HR
    simp only [Int.toNat_natCast] at HR
    have hfew := hr.few
    have HSAME := Lib.hid hr.same
    have HOK := Lib.hid (right_ok hr 0 hr.pos [])
    have HPL := Lib.hid (fun (w1 : World) (hb : Below w.heap.size w w1) => play_any A A' Af c c' cf l l' E M U f B w1 (Nat.le_trans hB hb.size) (hh.below (hb.mono hB)) (hh'.below (hb.mono hB)) (hf.below (hb.mono hB)) hr ⟨hE.1, by omega⟩ hM hU hwk hf2 hok)
    have HEND := Lib.hid (show (runEnd E M U ⟨nats l, 0, []⟩ f).ok l.length from (flipU_ok _ _ _ (run_ok HOK.out hok _).1 (run_ok HOK.out hok _).2).1)
    clear hnm hr hok HOK
    generalize runEnd E M U ⟨nats l, 0, []⟩ f = s5 at *
    obtain ⟨C5, x5, D5⟩ := s5
    simp only at HR HPL
    have HX := Lib.hid (show (ints C5).length = l.length from by rw [ints_len]; exact HEND.out.len)
    have HCD : Hid (∀ j (h : j < (ints C5).length), 0 ≤ (ints C5)[j] ∧ (ints C5)[j] ≤ 4194303) := Lib.hid (fun j h => by
      have hj : j < C5.length := by rw [ints_len] at h; exact h
      rw [ints_get _ j hj]
      have : C5[j] < 4194304 := HEND.out.codes j hj
      omega)
    clear HEND
    rw [HR.out]
    simp only
    clear HR
    generalize ints C5 = X at *
    unfold bankV at HPL
    go_enter Try.func44, Try.ntmps44
    go_upto_region 1 with fail
    rw [HW0.out]
    go_wp2_with fail
    refine HCC.out.mono ?_
    rintro e' w1 ⟨rfl, hb1⟩
    clear p1 p2 p3 p4 HCC HW0
    have hs1 := hb1.size
    have hb2 := b0.trans (hb1.mono (by omega))
    have hs2 := hb2.size
    have hx1 : w1.heap[w.heap.size + 1]? = some (.cells #[.int .i64 (E : Int), .int .i64 (M : Int)] 48 (0, 0)) := (hb1.block (w.heap.size + 1) (by omega)).trans hx0
    obtain ⟨p1, p2⟩ := (h0.below hb1 (by omega)).cells
    obtain ⟨p3, p4⟩ := rcells (w := w1) rfl hx1
    go_wp2_with fail
    refine (HPL.out w1 hb2).mono ?_
    rintro e' w2 ⟨g, cap, g', cap', D, ck, rfl, y2, xr, y5, hg, hg2, y6, hb3⟩
    have hs3 := hb3.size
    have hgl := y2.lt
    have hgl' := xr.lt
    obtain ⟨wq, hwq⟩ : ∃ wq, w2.alloc (.cells #[.slice (some ⟨g, 0, none⟩) l.length cap, .slice (some ⟨g', 0, none⟩) l'.length cap'] 33) = wq := ⟨_, rfl⟩
    have b9 : Below w2.heap.size w2 wq := by rw [← hwq]; exact box_below _ _
    have z9 : wq.heap.size = w2.heap.size + 1 := by rw [← hwq]; simp
    have h9 : HeldB wq w2.heap.size (.slice (some ⟨g, 0, none⟩) l.length cap) (.slice (some ⟨g', 0, none⟩) l'.length cap') := by rw [← hwq]; exact HeldB.new w2 _ _
    have k2 := y2.below b9 hgl
    have kr := xr.below b9 hgl'
    have bw : Below w.heap.size w wq := (hb2.trans (hb3.mono (by omega))).trans (b9.mono (by omega))
    obtain ⟨i1, i2⟩ := h9.cells
    have HLO := Lib.hid (rwrong_any (some ⟨g, 0, none⟩) (some ⟨g', 0, none⟩) cap cap' X l' wq (by have := HX.out; omega) (HSAME.out.trans HX.out.symm) HCD.out (k2.ir.lift (Nat.le_refl _)) (kr.ir.lift (Nat.le_refl _)))
    rw [HX.out] at HLO
    unfold bankV at HLO
    have HWQ := Lib.hid hwq
    clear hwq p1 p2 p3 p4
    go_upto_region 5 with fail
    rw [HWQ.out]
    go_wp2_with fail
    refine HLO.out.mono ?_
    rintro e' w3 ⟨A9, c9, rfl, hI, hb9⟩
    go_wp2_with fail
    refine bodyPost_ret (v := .tuple #[.slice A9 (wrongT X l' l.length).length c9, .int .i64 0]) (by simp [results, Try.results44, go_sem]) rfl ?_
    exact ⟨A9, c9, by simp only [HX.out], by simp only [HX.out]; exact hI, bw.trans (hb9.mono (by omega))⟩
  · rw [if_neg hP] at HR
    have hne : (P != 0) = true := by simpa using hP
    clear hnm
    go_enter Try.func44, Try.ntmps44
    go_upto_region 1 with fail
    rw [HW0.out]
    go_wp2_with fail
    refine HCC.out.mono ?_
    rintro e' w1 ⟨rfl, hb1⟩
    have hb2 := b0.trans (hb1.mono (by omega))
    clear HW0
    go_wp2_with fail
    refine bodyPost_ret (v := .tuple #[.slice .none 0 0, .int .i64 P]) (by simp [results, Try.results44, go_sem]) rfl ?_
    rw [HR.out]
    exact ⟨.none, 0, rfl, .inl rfl, hb2⟩
end Go.Proofs.Ytidddoldkedicaa
