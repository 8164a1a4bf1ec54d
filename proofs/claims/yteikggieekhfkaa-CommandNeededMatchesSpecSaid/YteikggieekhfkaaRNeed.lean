/- the reference's Needed. -/
import Derived.Test.YteikggieekhfkaaRRun
import Derived.Test.YteikggieekhfkaaNeedMath
namespace Go.Proofs.Yteikggieekhfkaa
open Go.RowKit

/-- both sides in their blocks, the queue -/
def NS (W : World) (gb B : Nat) (x : LS) (w : World) : Prop :=
  ∃ A c, Blk w gb (uplC x.b.n x.b.v x.b.L x.b.R x.b.T x.b.k) 23 ∧ Blk w (gb + 1) (grdC x.f (x.s : Int) (.slice A x.q.length c) x.wd x.st) 41 ∧ QC w w B A x.q ∧ (x.q ≠ [] → ∀ ad, A = some ad → ad.block < gb ∨ gb + 1 < ad.block) ∧ x.q.length ≤ c ∧ (A = none → c = 0) ∧ Below gb W w
attribute [local go_sem] setCell_draws alloc_draws
set_option maxRecDepth 100000 in
set_option maxHeartbeats 8000000 in
theorem rneeded_any (n v : Int) (L R T : Bool) (k f : Int) (s : Int) (A : Option Addr) (q : List (List UInt8)) (c : Nat) (wd : Int) (st : Bool) (most : Int) (B : Nat) (w : World) (hB : B ≤ w.heap.size) (hl : q.length ≤ 9223372036854775807) (hc : q.length ≤ c) (hA : A = none → c = 0) (h : QR w B A q) :
    Calls Try.prog 28 #[uplV n v L R T k, grdV f s (.slice A q.length c) wd st, .int .i64 most] w
      fun e w' => e = .returned (triV (needR (bothS n v k f s q wd) most ⟨⟨n, v, L, R, T, k⟩, f, s.toNat, q, wd, st, []⟩)) ∧ Below w.heap.size w w' := by
  obtain ⟨w0, hw0⟩ : ∃ w0, (w.alloc (.cells (uplC n v L R T k) 23)).alloc (.cells (grdC f s (.slice A q.length c) wd st) 41) = w0 := ⟨_, rfl⟩
  have b0 : Below w.heap.size w w0 := by rw [← hw0]; exact two_new w _ _
  have z0 : w0.heap.size = w.heap.size + 2 := by rw [← hw0]; simp
  have g0 : Blk w0 w.heap.size (uplC n v L R T k) 23 := by rw [← hw0]; exact (Blk.new w _ _).alloc _
  have g1 : Blk w0 (w.heap.size + 1) (grdC f s (.slice A q.length c) wd st) 41 := by rw [← hw0]; exact Blk.snd w _ _ _
  have HB1 := Lib.hid (r_checkBoard_any n v L R T k w0)
  have HG1 := Lib.hid (fun (w1 : World) (hb : Below w0.heap.size w0 w1) => r_checkGround_any f s A q c wd st B w1 (Nat.le_trans hB (Nat.le_trans b0.size hb.size)) hl (h.below ((b0.trans (hb.mono b0.size)).mono hB)))
  obtain ⟨X, hX⟩ : ∃ X, needR (bothS n v k f s q wd) most ⟨⟨n, v, L, R, T, k⟩, f, s.toNat, q, wd, st, []⟩ = X := ⟨_, rfl⟩
  rw [hX]
  have HX := Lib.hid hX
  have hok := @both_ok n v k f s q wd
  have HE := Lib.hid (show bothS n v k f s q wd = if brdS n v k = 0 then gndS f s q wd else brdS n v k from rfl)
  unfold needR at HX
  generalize bothS n v k f s q wd = C at *
  generalize brdS n v k = F1 at *
  generalize gndS f s q wd = F2 at *
  unfold uplV grdV at *
  unfold uplC grdC at hw0
  clear hX
  obtain ⟨p0, p1, p2, p3, p4, p5⟩ := blk_u g0
  by_cases hF1 : F1 = 0
  · have d1 : (F1 != 0) = false := by simpa using hF1
    have HC : Hid (C = F2) := Lib.hid (by rw [HE.out, if_pos hF1])
    clear HE hF1
    go_enter Try.func28, Try.ntmps28
    go_wp2_with fail
    refine HB1.out.mono ?_
    rintro e w1 ⟨rfl, hb1⟩
    clear hw0 p0 p1 p2 p3 p4 p5 HB1
    have g0 := g0.below hb1 g0.lt
    have g1 := g1.below hb1 g1.lt
    have B1 := b0.trans (hb1.mono b0.size)
    obtain ⟨q0, q1, q2, q3, q4⟩ := blk_g g1
    by_cases hF2 : F2 = 0
    · have d2 : (F2 != 0) = false := by simpa using hF2
      obtain ⟨hbr, hg⟩ := hok (by rw [HC.out]; exact hF2)
      by_cases hm : 0 ≤ most ∧ most ≤ 2000
      · obtain ⟨S, rfl⟩ : ∃ S : Nat, s = (S : Int) := ⟨s.toNat, by have := hg.s0; omega⟩
        obtain ⟨M, rfl⟩ : ∃ M : Nat, most = (M : Int) := ⟨most.toNat, by omega⟩
        have HX2 : Hid (X = needS ⟨⟨n, v, L, R, T, k⟩, f, S, q, wd, st, []⟩ 0 M) := Lib.hid (by rw [← HX.out, if_neg (by simpa [HC.out] using hF2), if_neg (by simpa using hm), Int.toNat_natCast, Int.toNat_natCast])
        obtain ⟨x0, hx0⟩ : ∃ x0 : LS, x0 = ⟨⟨n, v, L, R, T, k⟩, f, S, q, wd, st, []⟩ := ⟨_, rfl⟩
        rw [← hx0] at HX2
        have hok0 : LOk x0 := by rw [hx0]; exact ⟨hbr, hg⟩
        have hM : M ≤ 2000 := by omega
        have m0 : (0 : Int) ≤ (M : Int) := by omega
        have m1 : (M : Int) ≤ 2000 := by omega
        clear HX hok hF2 hbr hg hm
        go_wp2_with fail
        refine (HG1.out _ hb1).mono ?_
        rintro e w2 ⟨rfl, hb2⟩
        clear q0 q1 q2 q3 q4 HG1
        have g0 := g0.below hb2 g0.lt
        have g1 := g1.below hb2 g1.lt
        have B2 := B1.trans (hb2.mono B1.size)
        have z2 : w.heap.size + 2 ≤ w2.heap.size := by have := hb1.size; have := hb2.size; omega
        have hq2 := QC.of (h.below (B2.mono hB)) (show B ≤ w2.heap.size by omega)
        have hqb : q ≠ [] → ∀ ad, A = some ad → ad.block < w.heap.size := fun hne ad e => by
          obtain ⟨ds, y1, y2, -⟩ := h
          rcases y2 with y | ⟨ad', y, hl', -⟩
          · have := rcells_len Bd.one ds
            rw [y] at this
            simp at this
            exact absurd (List.eq_nil_of_length_eq_zero (by omega)) hne
          · rw [e] at y
            injection y with y
            subst y
            omega
        clear hb1 hb2 B1 b0 h
        have hN0 : NS w w.heap.size B x0 w2 := by
          rw [hx0]
          exact ⟨A, c, g0, g1, hq2, fun hne ad e => .inl (hqb hne ad e), hc, hA, B2⟩
        have ht0 : x0.tk = [] := by rw [hx0]
        have HT0 := Lib.hid ht0
        have hPw : w.heap.size < w2.heap.size := by omega
        clear hx0 ht0 g0 g1 hq2 hqb
        go_wp2_with (first | (go_at_call 56; refine (r_within_any _ _ _ _).mono ?_; rintro e w' ⟨rfl, rfl⟩) | fail)
        go_loopw [11] (fun i wr => ∃ (j : Nat) (x : LS), j ≤ M ∧ i = .int .i64 j ∧ NS w w.heap.size B x wr ∧ LOk x ∧ x.tk = [] ∧ needS x0 0 M = needS x j (M - j)) (fun i _ => M + 1 - (intOf i).toNat)
        case atStart => exact ⟨0, x0, Nat.zero_le _, rfl, hN0, hok0, HT0.out, rfl⟩
        case round =>
          obtain ⟨j, x, hj, rfl, ⟨A9, c9, gU, gG, hQC, hqa, hcx, hax, hBW⟩, hokx, htk, hrun⟩ := hrel
          have hPl := gG.lt
          obtain ⟨q0, q1, q2, q3, q4⟩ := blk_g gG
          by_cases hq0 : x.q.length = 0
          · have i0 : ((x.q.length : Int) == 0) = true := by rw [beq_iff_eq]; omega
            have HX3 : Hid (X = ((j : Int), true, 0)) := Lib.hid (by rw [HX2.out, hrun, need_none (by omega)])
            clear hrun hq0 gU gG hQC hqa hokx htk hcx
            go_wp2_with fail
            go_ret3
            rw [HX3.out]
            exact ⟨rfl, hBW⟩
          · have i0 : ((x.q.length : Int) == 0) = false := by rw [beq_eq_false_iff_ne]; omega
            by_cases hjM : j = M
            · have i1 : ((j : Int) == (M : Int)) = true := by rw [beq_iff_eq]; omega
              have HX3 : Hid (X = (0, false, 0)) := Lib.hid (by rw [HX2.out, hrun, hjM, Nat.sub_self, needS, if_neg (by omega)])
              clear hrun hq0 gU gG hQC hqa hokx htk hcx hjM
              go_wp2_with fail
              go_ret3
              rw [HX3.out]
              exact ⟨rfl, hBW⟩
            · have i1 : ((j : Int) == (M : Int)) = false := by rw [beq_eq_false_iff_ne]; omega
              have hstep : needS x j (M - j) = if (beatS x fullB).2 ≠ 0 then (0, false, (beatS x fullB).2) else needS (beatS x fullB).1 (j + 1) (M - (j + 1)) := by
                rw [show M - j = (M - (j + 1)) + 1 by omega, needS, if_neg (by omega)]
              have hxe : (⟨⟨x.b.n, x.b.v, x.b.L, x.b.R, x.b.T, x.b.k⟩, x.f, ((x.s : Int)).toNat, x.q, x.wd, x.st, []⟩ : LS) = x := by
                rw [Int.toNat_natCast, ← htk]
              obtain ⟨wl, hwl⟩ : ∃ wl, wr.alloc (.cells #[.bool true, .bool false, .bool true, .bool false, .int .i64 0] 50) = wl := ⟨_, rfl⟩
              have bl : Below wr.heap.size wr wl := by rw [← hwl]; exact (Below.refl _ _).alloc (Nat.le_refl _) _
              have zl : wl.heap.size = wr.heap.size + 1 := by rw [← hwl]; simp
              have hbs : SR Bt.cells wl wl.heap.size (some ⟨wr.heap.size, 0, none⟩) [fullB] := by rw [zl, ← hwl]; exact Cells.fresh wr _ 50 _ _ rfl
              have hBr : B ≤ wr.heap.size := by omega
              have hqf : x.q.length ≤ 9223372036854775807 := by have := hokx.g.few; omega
              have HRN0 := rrun_any x.b.n x.b.v x.b.L x.b.R x.b.T x.b.k x.f x.s A9 x.q c9 x.wd x.st (some ⟨wr.heap.size, 0, none⟩) [fullB] 1 B wl (by omega) hqf hcx hax (hQC.next bl hBr) hbs
              rw [runC_full hokx, hxe, runR_full] at HRN0
              have hbok := @beat_ok x fullB hokx
              obtain ⟨Y, hY⟩ : ∃ Y, beatS x fullB = Y := ⟨_, rfl⟩
              rw [hY] at HRN0 hbok hstep
              obtain ⟨y, F⟩ := Y
              simp only at HRN0 hbok hstep
              have HR := Lib.hid (hrun.trans hstep)
              have HOKB := Lib.hid hbok
              have hjl : j + 1 ≤ M := by omega
              have hxne : x.q ≠ [] := fun e => hq0 (by rw [e]; rfl)
              have hqa2 := hqa hxne
              have HWL := Lib.hid hwl
              obtain ⟨l0, l1, l2, l3, l4, l5⟩ := blk_u gU
              have gU := gU.below bl gU.lt
              have gG := gG.below bl gG.lt
              have hBW := hBW.trans (bl.mono (by omega))
              have hPw2 : w.heap.size + 1 < wl.heap.size := by omega
              have HQA := Lib.hid hqa2
              clear hY hrun hstep hbok hokx htk hjM hq0 hwl hxe hbs hqf hqa hqa2 hxne hcx hax hQC
              by_cases hF : F = 0
              · have d3 : (F != 0) = false := by simpa using hF
                rw [if_neg (by simpa using hF)] at HRN0
                simp only at HRN0
                have HRN := Lib.hid HRN0
                have HOKY := Lib.hid (HOKB.out hF)
                have HRY : Hid (needS x0 0 M = needS (noTk y) (j + 1) (M - (j + 1))) := Lib.hid (by rw [HR.out, if_neg (by simpa using hF), need_noTk])
                unfold uplV grdV at HRN
                clear hF HRN0 HOKB HR
                go_upto_region 16 with fail
                go_wp2_with fail
                rw [HWL.out]
                refine HRN.out.mono ?_
                rintro e w3 ⟨A3, c3, AT, cT, he, hq3, hc3, hn3, hfr, -, hb3⟩
                unfold Upl.val uplV grdV at he
                subst he
                have hU := gU.below hb3 gU.lt
                have hG := gG.below hb3 gG.lt
                have hz3 := hb3.size
                have hf := ((Frg.refl w.heap.size (w.heap.size + 1) w3).six (.inl rfl) (.int .i64 y.b.n) (.int .i64 y.b.v) (.bool y.b.L) (.bool y.b.R) (.bool y.b.T) (.int .i64 y.b.k)).five (.inr (.inl rfl)) (.int .i64 y.f) (.int .i64 (y.s : Int)) (.slice A3 y.q.length c3) (.int .i64 y.wd) (.bool y.st)
                have hav : ∀ ad, A3 = some ad → ad.block < w.heap.size ∨ w.heap.size + 1 < ad.block := fun ad e => by
                  rcases hfr with rfl | hfr
                  · exact HQA.out ad e
                  · have := hfr ad e
                    exact .inr (by omega)
                have hNS : NS w w.heap.size B (noTk y) _ := ⟨A3, c3, (hU.set6 y.b.n y.b.v y.b.L y.b.R y.b.T y.b.k).oth5 (by omega) _ _ _ _ _, (hG.oth6 (by omega) _ _ _ _ _ _).grd5 y.f (y.s : Int) (.slice A3 y.q.length c3) y.wd y.st, hq3.frame (fun g hg => hf.block g (by omega) (by omega) (by omega)) (fun _ ad e hl => hf.block _ hl (by have := hav ad e; omega) (by have := hav ad e; omega)) hf.size, fun _ ad e => hav ad e, hc3, hn3,
                  five_set (six_set (hBW.trans (hb3.mono (by omega))) (Nat.le_refl _) _ _ _ _ _ _) (by omega) _ _ _ _ _⟩
                have HNS := Lib.hid hNS
                clear hNS hav hfr hf hq3 l0 l1 l2 l3 l4 l5 q0 q1 q2 q3 q4 HWL HRN hBW
                obtain ⟨l0, l1, l2, l3, l4, l5⟩ := blk_u hU
                obtain ⟨f0, f1, f2, f3, f4, f5⟩ := blk_f hU
                obtain ⟨q0, q1, q2, q3, q4⟩ := blk_g hG
                obtain ⟨e0, e1, e2, e3, e4, -⟩ := blk_f hG
                go_wp2_with fail
                go_roundw
                case rel => exact ⟨j + 1, noTk y, hjl, by go_num, HNS.out, ⟨HOKY.out.b, HOKY.out.g⟩, rfl, HRY.out⟩
                case measure => simp [intOf]; omega
              · have d3 : (F != 0) = true := by simpa using hF
                rw [if_pos (by simpa using hF)] at HRN0
                simp only at HRN0
                have HRN := Lib.hid HRN0
                have HX3 : Hid (X = (0, false, F)) := Lib.hid (by rw [HX2.out, HR.out, if_pos hF])
                unfold uplV grdV at HRN
                clear hF HRN0 HOKB HR
                go_upto_region 16 with fail
                go_wp2_with fail
                rw [HWL.out]
                refine HRN.out.mono ?_
                rintro e w3 ⟨A3, c3, AT, cT, he, hq3, hc3, hn3, hfr, -, hb3⟩
                unfold zeroLS zeroU Upl.val uplV grdV at he
                simp only [List.length_nil] at he
                subst he
                have hU := gU.below hb3 gU.lt
                have hG := gG.below hb3 gG.lt
                have HZ := Lib.hid (five_set (six_set (hBW.trans (hb3.mono (by omega))) (Nat.le_refl _) (.int .i64 0) (.int .i64 0) (.bool false) (.bool false) (.bool false) (.int .i64 0)) (show w.heap.size ≤ w.heap.size + 1 by omega) (.int .i64 0) (.int .i64 0) (.slice A3 0 c3) (.int .i64 0) (.bool false))
                clear hfr hq3 l0 l1 l2 l3 l4 l5 q0 q1 q2 q3 q4 HWL HRN hBW hc3 hn3
                obtain ⟨l0, l1, l2, l3, l4, l5⟩ := blk_u hU
                obtain ⟨f0, f1, f2, f3, f4, f5⟩ := blk_f hU
                obtain ⟨q0, q1, q2, q3, q4⟩ := blk_g hG
                obtain ⟨e0, e1, e2, e3, e4, -⟩ := blk_f hG
                go_wp2_with fail
                go_ret3
                rw [HX3.out]
                exact ⟨rfl, HZ.out⟩
      · have dm : decide (0 ≤ most ∧ most ≤ 2000) = false := by simpa using hm
        have HX3 : Hid (X = (0, false, 1)) := Lib.hid (by rw [← HX.out, if_neg (by simpa [HC.out] using hF2), if_pos hm])
        clear HX hok hF2 hbr hg hm
        go_wp2_with fail
        refine (HG1.out _ hb1).mono ?_
        rintro e w2 ⟨rfl, hb2⟩
        clear q0 q1 q2 q3 q4 HG1
        have B2 := B1.trans (hb2.mono B1.size)
        go_wp2_with (first | (go_at_call 56; refine (r_within_any _ _ _ _).mono ?_; rintro e w' ⟨rfl, rfl⟩) | fail)
        go_ret3
        rw [HX3.out]
        exact ⟨rfl, B2⟩
    · have d2 : (F2 != 0) = true := by simpa using hF2
      have HX3 : Hid (X = (0, false, F2)) := Lib.hid (by rw [← HX.out, if_pos (by rw [HC.out]; exact hF2), HC.out])
      clear HX hok hF2
      go_wp2_with fail
      refine (HG1.out _ hb1).mono ?_
      rintro e w2 ⟨rfl, hb2⟩
      clear q0 q1 q2 q3 q4 HG1
      have B2 := B1.trans (hb2.mono B1.size)
      go_wp2_with fail
      go_ret3
      rw [HX3.out]
      exact ⟨rfl, B2⟩
  · have d1 : (F1 != 0) = true := by simpa using hF1
    have HX3 : Hid (X = (0, false, F1)) := Lib.hid (by rw [← HX.out, if_pos (by rw [HE.out, if_neg hF1]; exact hF1), HE.out, if_neg hF1])
    clear HX hok HE hF1
    go_enter Try.func28, Try.ntmps28
    go_wp2_with fail
    refine HB1.out.mono ?_
    rintro e w1 ⟨rfl, hb1⟩
    have B1 := b0.trans (hb1.mono b0.size)
    clear hw0 p0 p1 p2 p3 p4 p5 HB1 hb1
    go_wp2_with fail
    go_ret3
    rw [HX3.out]
    exact ⟨rfl, B1⟩
end Go.Proofs.Yteikggieekhfkaa
