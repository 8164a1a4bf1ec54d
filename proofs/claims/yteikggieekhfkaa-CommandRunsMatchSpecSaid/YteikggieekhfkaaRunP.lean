/- the walk of the program's Run. -/
import Derived.Test.YteikggieekhfkaaRunMath2
import Derived.Test.YteikggieekhfkaaClBods
namespace Go.Proofs.Yteikggieekhfkaa
open Go.RowKit

attribute [local go_sem] setCell_draws alloc_draws
theorem OwnC.qs {w : World} {base n c : Nat} {A : Option Addr} {q : List (List UInt8)} (h : OwnC w base (.slice A n c) q) : QR w w.heap.size A q := by
  obtain ⟨A', c', e, hq, -, -⟩ := h.qr
  injection e with e1 e2 e3
  subst e1
  exact hq
theorem own_c11 {w : World} {base g g' : Nat} {v : Value} {q : List (List UInt8)} (h : OwnC w base v q) (hg : g < base) (hg' : g' < base) (a0 a1 a2 a3 a4 a5 b0 b1 b2 b3 b4 : Value) :
    OwnC (((((((((((w.setCell ⟨g, 0, none⟩ a0).setCell ⟨g, 1, none⟩ a1).setCell ⟨g, 2, none⟩ a2).setCell ⟨g, 3, none⟩ a3).setCell ⟨g, 4, none⟩ a4).setCell ⟨g, 5, none⟩ a5).setCell ⟨g', 0, none⟩ b0).setCell ⟨g', 1, none⟩ b1).setCell ⟨g', 2, none⟩ b2).setCell ⟨g', 3, none⟩ b3).setCell ⟨g', 4, none⟩ b4) base v q :=
  ((((((((((h.other hg).other hg).other hg).other hg).other hg).other hg).other hg').other hg').other hg').other hg').other hg'
theorem own_drew {w : World} {base : Nat} {v : Value} {q : List (List UInt8)} (h : OwnC w base v q) : OwnC w.drew base v q := h
theorem qr_drew {w : World} {A : Option Addr} {q : List (List UInt8)} (h : QR w w.heap.size A q) : QR w.drew w.drew.heap.size A q := h
theorem four_new (w : World) (a b c d : Obj) : Below w.heap.size w ((((w.alloc a).alloc b).alloc c).alloc d) := (three_new w a b c).alloc (by simp; omega) _
theorem Blk.fth (w : World) (a b c : Obj) (C : Array Value) (t : TypeId) : Blk ((((w.alloc a).alloc b).alloc c).alloc (.cells C t)) (w.heap.size + 1 + 1 + 1) C t := by
  have := Blk.new (((w.alloc a).alloc b).alloc c) C t
  rw [World.size_alloc, World.size_alloc, World.size_alloc] at this
  exact this
set_option maxRecDepth 100000 in
set_option maxHeartbeats 8000000 in
theorem run_any (n v : Int) (L R T : Bool) (k f : Int) (s : Int) (A : Option Addr) (q : List (List UInt8)) (c : Nat) (wd : Int) (st : Bool) (Al : Option Addr) (l : List Bt) (cl : Nat) (B : Nat) (w : World) (hB : B ≤ w.heap.size) (hl : q.length ≤ 9223372036854775807) (hc : q.length ≤ c) (hA : A = none → c = 0) (h : QR w B A q) (hs : SR Bt.cells w B Al l) :
    Calls Try.prog 22 #[uplV n v L R T k, grdV f s (.slice A q.length c) wd st, .slice Al l.length cl] w
      (RunPost (runR ⟨⟨n, v, L, R, T, k⟩, f, s.toNat, q, wd, st, []⟩ (runC n v k f s q wd l) l).1 (runR ⟨⟨n, v, L, R, T, k⟩, f, s.toNat, q, wd, st, []⟩ (runC n v k f s q wd l) l).2 w) := by
  obtain ⟨w0, hw0⟩ : ∃ w0, (((w.alloc (.cells (uplC n v L R T k) 23)).alloc (.cells (grdC f s (.slice A q.length c) wd st) 41)).alloc (.cells (uplC 0 0 false false false 0) 23)).alloc (.cells (grdC 0 0 (.slice none 0 0) 0 false) 41) = w0 := ⟨_, rfl⟩
  have b0 : Below w.heap.size w w0 := by rw [← hw0]; exact four_new w _ _ _ _
  have z0 : w0.heap.size = w.heap.size + 4 := by rw [← hw0]; simp
  have g0 : Blk w0 w.heap.size (uplC n v L R T k) 23 := by rw [← hw0]; exact (((Blk.new w _ _).alloc _).alloc _).alloc _
  have g1 : Blk w0 (w.heap.size + 1) (grdC f s (.slice A q.length c) wd st) 41 := by rw [← hw0]; exact ((Blk.snd w _ _ _).alloc _).alloc _
  have g2 : Blk w0 (w.heap.size + 1 + 1) (uplC 0 0 false false false 0) 23 := by rw [← hw0]; exact (Blk.thd w _ _ _ _).alloc _
  have g3 : Blk w0 (w.heap.size + 1 + 1 + 1) (grdC 0 0 (.slice none 0 0) 0 false) 41 := by rw [← hw0]; exact Blk.fth w _ _ _ _ _
  have HC := Lib.hid (checkRun_any n v L R T k f s A q c wd st Al l cl B w0 (by omega) hl (h.below (b0.mono hB)) (hs.below (b0.mono hB)))
  obtain ⟨X, hX⟩ : ∃ X, runR ⟨⟨n, v, L, R, T, k⟩, f, s.toNat, q, wd, st, []⟩ (runC n v k f s q wd l) l = X := ⟨_, rfl⟩
  rw [hX]
  have HX := Lib.hid hX
  have hok := @runC_ok n v k f s q wd l
  unfold runR at HX
  generalize runC n v k f s q wd l = C at *
  unfold uplV grdV at *
  unfold uplC grdC at hw0
  clear hX
  obtain ⟨p0, p1, p2, p3, p4, p5⟩ := blk_u g0
  obtain ⟨q0, q1, q2, q3, q4⟩ := blk_g g1
  by_cases hC : C = 0
  · obtain ⟨hbr, hg, hll, hall⟩ := hok hC
    have d1 : (C != 0) = false := by simpa using hC
    obtain ⟨S, rfl⟩ : ∃ S : Nat, s = (S : Int) := ⟨s.toNat, by have := hg.s0; omega⟩
    rw [Int.toNat_natCast] at HX
    have HX2 : Hid (X = if (runS ⟨⟨n, v, L, R, T, k⟩, f, S, q, wd, st, []⟩ l).2 ≠ 0 then (zeroLS, (runS ⟨⟨n, v, L, R, T, k⟩, f, S, q, wd, st, []⟩ l).2) else runS ⟨⟨n, v, L, R, T, k⟩, f, S, q, wd, st, []⟩ l) := Lib.hid (by rw [← HX.out, if_neg (by simpa using hC)])
    obtain ⟨x0, hx0⟩ : ∃ x0 : LS, x0 = ⟨⟨n, v, L, R, T, k⟩, f, S, q, wd, st, []⟩ := ⟨_, rfl⟩
    rw [← hx0] at HX2
    have hok0 : LOk x0 := by rw [hx0]; exact ⟨hbr, hg⟩
    have HALL := Lib.hid hall
    have hlI : (l.length : Int) ≤ 2000 := by omega
    have hqI : q.length ≤ 500 := hg.few
    clear HX hok hC hbr hg hall
    go_enter Try.func22, Try.ntmps22
    go_wp2_with fail
    refine HC.out.mono ?_
    rintro e w1 ⟨rfl, hb1⟩
    clear hw0 p0 p1 p2 p3 p4 p5 q0 q1 q2 q3 q4 HC
    have g0 := g0.below hb1 g0.lt
    have g1 := g1.below hb1 g1.lt
    have g2 := g2.below hb1 g2.lt
    have g3 := g3.below hb1 g3.lt
    have B1 := b0.trans (hb1.mono b0.size)
    have z1 : w.heap.size + 4 ≤ w1.heap.size := by have := hb1.size; omega
    obtain ⟨p0, p1, p2, p3, p4, p5⟩ := blk_u g0
    obtain ⟨q0, q1, q2, q3, q4⟩ := blk_g g1
    obtain ⟨wP, hwP⟩ : ∃ wP, w1.alloc (.cells (linC n v L R T k f S (.slice A q.length c) wd st (.slice none 0 0)) 90) = wP := ⟨_, rfl⟩
    have bP : Below w1.heap.size w1 wP := by rw [← hwP]; exact (Below.refl _ _).alloc (Nat.le_refl _) _
    have gP : Blk wP w1.heap.size (linC n v L R T k f S (.slice A q.length c) wd st (.slice none 0 0)) 90 := by rw [← hwP]; exact Blk.new w1 _ _
    have hH0 : Holds wP w1.heap.size B x0 := by
      rw [hx0]
      exact ⟨A, c, _, gP, (h.below (B1.mono hB)).below (bP.mono (by omega)), hc, hA, OwnT.nil _ _ _⟩
    have h2P := g2.below bP g2.lt
    have h3P := g3.below bP g3.lt
    have hsP := (hs.below (B1.mono hB)).below (bP.mono (show B ≤ w1.heap.size by omega))
    have BP := B1.trans (bP.mono B1.size)
    have ht0 : x0.tk = [] := by rw [hx0]
    have HT0 := Lib.hid ht0
    unfold linC at hwP
    have HWP := Lib.hid hwP
    clear hwP hb1 g0 g1 g2 g3 gP bP hx0 ht0 B1 b0
    go_wp2_with fail
    have hwP := HWP.out
    rw [hwP]
    clear hwP p0 p1 p2 p3 p4 p5 q0 q1 q2 q3 q4
    go_loopw [29] (fun i wr => ∃ (j : Nat) (x : LS), j ≤ l.length ∧ i = .int .i64 j ∧ Holds wr w1.heap.size B x ∧ LOk x ∧ runS x0 l = runS x (l.drop j) ∧ x.tk.length ≤ j ∧ (∀ y ∈ x.tk, y.length ≤ 200) ∧ Below w1.heap.size wP wr) (fun i _ => l.length - (intOf i).toNat)
    case atStart => exact ⟨0, x0, Nat.zero_le _, rfl, hH0, hok0, rfl, by rw [HT0.out]; exact Nat.le_refl _, by rw [HT0.out]; simp, Below.refl _ _⟩
    case round =>
      obtain ⟨j, x, hj, rfl, hH, hokx, hrun, htl, htb, hbr⟩ := hrel
      by_cases hlt : j < l.length
      · obtain ⟨ad, hAd, hbk, c0, c1, c2, c3, c4⟩ := bts_get (hsP.below (hbr.mono (by omega))) j hlt
        subst hAd
        have hi0 : (0 : Int) ≤ (j : Int) := by omega
        have hi1 : (j : Int) < (l.length : Int) := by omega
        have htk : l[j].okB = true := List.all_eq_true.1 HALL.out _ (List.getElem_mem hlt)
        have hstep := run_step x l j hlt
        obtain ⟨A9, c9, TV9, gx, qx, hcx, hax, tx⟩ := hH
        have hPl := gx.lt
        have ba := (Below.refl wr.heap.size wr).alloc (Nat.le_refl _) (.cells (btC l[j].send l[j].lost l[j].rep l[j].deaf l[j].room) 50)
        have HBT := Lib.hid (beat_any x l[j] w1.heap.size B (wr.alloc (.cells (btC l[j].send l[j].lost l[j].rep l[j].deaf l[j].room) 50)) ⟨A9, c9, TV9, gx.below ba hPl, qx.below (ba.mono (by omega)), hcx, hax, tx.after ba (by omega)⟩ (by omega) hokx (by omega) htk)
        have hbok := @beat_ok x l[j] hokx
        have hbtk := @beat_tk x l[j] hokx htb
        unfold Bt.val btV at HBT
        unfold btC at HBT
        generalize l[j] = t at *
        obtain ⟨ts, tl, tr, td, tm⟩ := t
        simp only at c0 c1 c2 c3 c4 HBT
        obtain ⟨Y, hY⟩ : ∃ Y, beatS x ⟨ts, tl, tr, td, tm⟩ = Y := ⟨_, rfl⟩
        rw [hY] at HBT hbok hbtk hstep
        obtain ⟨y, F⟩ := Y
        simp only at HBT hbok hbtk hstep
        have HR := Lib.hid (hrun.trans hstep)
        have HOKB := Lib.hid hbok
        have HTKB := Lib.hid hbtk
        clear hY hrun hstep hbok hbtk hokx htk htb gx qx tx ba
        by_cases hF : F = 0
        · have d2 : (F != 0) = false := by simpa using hF
          have HF := Lib.hid hF
          clear hF
          go_wp2_with fail
          refine HBT.out.mono ?_
          rintro e w2 ⟨rfl, hh2, hb2⟩
          have hh3 := Lib.hid (hh2 HF.out)
          clear hh2
          go_wp2_with fail
          go_roundw
          case rel => exact ⟨j + 1, y, by omega, by go_num, hh3.out, HOKB.out HF.out, by rw [HR.out, if_neg (by simpa using HF.out)], by have := HTKB.out.2; omega, HTKB.out.1, (hbr.alloc (by omega) _).trans hb2⟩
          case measure => simp [intOf]; omega
        · have d2 : (F != 0) = true := by simpa using hF
          have HX3 : Hid (X = (zeroLS, F)) := Lib.hid (by rw [HX2.out, HR.out, if_pos hF, if_pos hF])
          clear hF
          go_wp2_with fail
          refine HBT.out.mono ?_
          rintro e w2 ⟨rfl, hh2, hb2⟩
          have bb := (hbr.alloc (by omega) (.cells (btC ts tl tr td tm) 50)).trans hb2
          have g2 := h2P.below bb (by omega)
          have g3 := h3P.below bb (by omega)
          have BZ := BP.trans (bb.mono (by omega))
          obtain ⟨p0, p1, p2, p3, p4, p5⟩ := blk_u g2
          obtain ⟨q0, q1, q2, q3, q4⟩ := blk_g g3
          obtain ⟨e0, e1, e2, e3, e4, e5⟩ := blk_f g2
          obtain ⟨f0, f1, f2, f3, f4, -⟩ := blk_f g3
          clear hh2 hb2 bb
          go_wp2_with fail
          refine bodyPost_ret (v := .tuple #[.agg #[.int .i64 0, .int .i64 0, .bool false, .bool false, .bool false, .int .i64 0], .agg #[.int .i64 0, .int .i64 0, .slice none 0 0, .int .i64 0, .bool false], .slice none 0 0, .int .i64 F]) (by simp [results, Try.results22, go_sem, p0, p1, p2, p3, p4, p5, q0, q1, q2, q3, q4]) rfl ?_
          rw [HX3.out]
          exact ⟨none, 0, none, 0, rfl, QR.nil, QR.nil, five_set (six_set BZ (by omega) _ _ _ _ _ _) (by omega) _ _ _ _ _⟩
      · obtain rfl : j = l.length := by omega
        have hrun2 : runS x0 l = (x, 0) := by rw [hrun, List.drop_length]; rfl
        have HX3 : Hid (X = (x, 0)) := Lib.hid (by rw [HX2.out, hrun2]; rfl)
        clear hrun hrun2
        obtain ⟨A9, c9, TV9, gx, qx, hcx, hax, tx⟩ := hH
        have hPl := gx.lt
        obtain ⟨AT, cT, rfl, qT⟩ := tx.qr (by omega)
        have hq200 : ∀ y ∈ x.q, y.length ≤ 1000 := fun y hy => by
          have := hokx.g.bod y hy
          unfold bodS at this
          split at this
          · simp at this
          · split at this
            · simp at this
            · omega
        have hqf := hokx.g.few
        have hH9 : B ≤ wr.heap.size := by omega
        have HCL : Hid (∀ w1', Below wr.heap.size wr w1' → Calls Try.prog 61 #[grdV x.f (x.s : Int) (.slice A9 x.q.length c9) x.wd x.st] w1' fun e w' => ∃ v, e = .returned (grdV x.f (x.s : Int) v x.wd x.st) ∧ OwnC w' wr.heap.size v x.q ∧ Below wr.heap.size wr w') :=
          Lib.hid fun w1' hb => (cloned_any x.f x.s A9 x.q c9 x.wd x.st B w1' (Nat.le_trans hH9 hb.size) (by omega) hq200 (qx.below (hb.mono hH9))).mono fun e w' ⟨v, he, ho, h2⟩ => ⟨v, he, ho.lower hb.size, hb.trans (h2.mono hb.size)⟩
        have HCB : Hid (∀ w1', Below wr.heap.size wr w1' → Calls Try.prog 62 #[.slice AT x.tk.length cT] w1' fun e w' => ∃ v, e = .returned v ∧ OwnC w' wr.heap.size v x.tk ∧ Below wr.heap.size wr w' ∧ Below w1'.heap.size w1' w') :=
          Lib.hid fun w1' hb => (clonedBodies_any AT x.tk cT wr.heap.size w1' hb.size (by omega) (fun y hy => by have := htb y hy; omega) (qT.below hb)).mono fun e w' ⟨v, he, ho, h2⟩ => ⟨v, he, ho.lower hb.size, hb.trans (h2.mono hb.size), h2⟩
        have g2 := Lib.hid (h2P.below hbr (by omega))
        have g3 := Lib.hid (h3P.below hbr (by omega))
        have GX := Lib.hid gx
        have hbb : Below wr.heap.size wr wr := Below.refl _ _
        have BZ := Lib.hid (BP.trans (hbr.mono (by omega)))
        obtain ⟨⟨l0, l1, l2, l3, l4, l5⟩, ⟨l6, l7, l8, l9, l10⟩, l11⟩ := blk_l gx
        unfold grdV at HCL
        clear gx qx tx qT hq200 hokx htb HALL HT0 hok0 hH0
        go_upto_region 12 with fail
        go_region_law ((first
          | (go_simp; go_at_call 61; refine (HCL.out _ ?_).mono ?_; (first | exact hbb.drew | exact hbb); rintro e w3 ⟨v1, rfl, o1, hb3⟩; obtain ⟨A1, c1, rfl, -, -, -⟩ := o1.qr; have gx3 := GX.out.below hb3 hPl; obtain ⟨⟨m0, m1, m2, m3, m4, m5⟩, ⟨m6, m7, m8, m9, m10⟩, m11⟩ := blk_l gx3)
          | (go_simp; go_at_call 62; refine (HCB.out _ ?_).mono ?_; (first | exact hb3 | exact hb3.drew); rintro e w4 ⟨v2, rfl, o2, hb4, hb4'⟩; obtain ⟨A2, c2, rfl, -, -, -⟩ := o2.qr; have gx4 := GX.out.below hb4 hPl; have g24 := g2.out.below hb4 (Nat.lt_of_lt_of_le g2.out.lt (Nat.le_refl _)); have g34 := g3.out.below hb4 g3.out.lt; obtain ⟨p0, p1, p2, p3, p4, p5⟩ := blk_u g24; obtain ⟨q0, q1, q2, q3, q4⟩ := blk_g g34; obtain ⟨e0, e1, e2, e3, e4, e5⟩ := blk_f g24; obtain ⟨f0, f1, f2, f3, f4, -⟩ := blk_f g34; obtain ⟨⟨m0, m1, m2, m3, m4, m5⟩, -, -⟩ := blk_l gx4)))
        all_goals
          have o14 : OwnC w4 wr.heap.size (.slice A1 x.q.length c1) x.q := by first | exact o1.after hb4' | exact (own_drew o1).after hb4'
          have B4 := BZ.out.trans (hb4.mono (by have := BZ.out.size; omega))
          have x1 := OwnC.qs (own_c11 o14 (show w.heap.size + 1 + 1 < wr.heap.size by omega) (show w.heap.size + 1 + 1 + 1 < wr.heap.size by omega) (.int .i64 x.b.n) (.int .i64 x.b.v) (.bool x.b.L) (.bool x.b.R) (.bool x.b.T) (.int .i64 x.b.k) (.int .i64 x.f) (.int .i64 (x.s : Int)) (.slice A1 x.q.length c1) (.int .i64 x.wd) (.bool x.st))
          have x2 := OwnC.qs (own_c11 o2 (show w.heap.size + 1 + 1 < wr.heap.size by omega) (show w.heap.size + 1 + 1 + 1 < wr.heap.size by omega) (.int .i64 x.b.n) (.int .i64 x.b.v) (.bool x.b.L) (.bool x.b.R) (.bool x.b.T) (.int .i64 x.b.k) (.int .i64 x.f) (.int .i64 (x.s : Int)) (.slice A1 x.q.length c1) (.int .i64 x.wd) (.bool x.st))
          have x3 := five_set (six_set B4 (show w.heap.size ≤ w.heap.size + 1 + 1 by omega) (.int .i64 x.b.n) (.int .i64 x.b.v) (.bool x.b.L) (.bool x.b.R) (.bool x.b.T) (.int .i64 x.b.k)) (show w.heap.size ≤ w.heap.size + 1 + 1 + 1 by omega) (.int .i64 x.f) (.int .i64 (x.s : Int)) (.slice A1 x.q.length c1) (.int .i64 x.wd) (.bool x.st)
          have X1 := Lib.hid x1
          have X2 := Lib.hid x2
          have X3 := Lib.hid x3
          clear x1 x2 x3 o14 o1 o2 B4
          go_wp2_with fail
          refine bodyPost_ret (v := .tuple #[.agg #[.int .i64 x.b.n, .int .i64 x.b.v, .bool x.b.L, .bool x.b.R, .bool x.b.T, .int .i64 x.b.k], .agg #[.int .i64 x.f, .int .i64 (x.s : Int), .slice A1 x.q.length c1, .int .i64 x.wd, .bool x.st], .slice A2 x.tk.length c2, .int .i64 0]) (by simp [results, Try.results22, go_sem, p0, p1, p2, p3, p4, p5, q0, q1, q2, q3, q4]) rfl ?_
          rw [HX3.out]
          first
          | exact ⟨A1, c1, A2, c2, rfl, X1.out, X2.out, X3.out⟩
          | exact ⟨A1, c1, A2, c2, rfl, qr_drew X1.out, qr_drew X2.out, X3.out.drew⟩
  · have d1 : (C != 0) = true := by simpa using hC
    have HX2 : Hid (X = (zeroLS, C)) := Lib.hid (by rw [← HX.out, if_pos hC])
    clear HX hok hC
    go_enter Try.func22, Try.ntmps22
    go_wp2_with fail
    refine HC.out.mono ?_
    rintro e w1 ⟨rfl, hb1⟩
    clear hw0 p0 p1 p2 p3 p4 p5 q0 q1 q2 q3 q4 HC
    have g2 := g2.below hb1 g2.lt
    have g3 := g3.below hb1 g3.lt
    have B1 := b0.trans (hb1.mono b0.size)
    obtain ⟨p0, p1, p2, p3, p4, p5⟩ := blk_u g2
    obtain ⟨q0, q1, q2, q3, q4⟩ := blk_g g3
    obtain ⟨e0, e1, e2, e3, e4, e5⟩ := blk_f g2
    obtain ⟨f0, f1, f2, f3, f4, -⟩ := blk_f g3
    clear hb1
    go_wp2_with fail
    refine bodyPost_ret (v := .tuple #[.agg #[.int .i64 0, .int .i64 0, .bool false, .bool false, .bool false, .int .i64 0], .agg #[.int .i64 0, .int .i64 0, .slice none 0 0, .int .i64 0, .bool false], .slice none 0 0, .int .i64 C]) (by simp [results, Try.results22, go_sem, p0, p1, p2, p3, p4, p5, q0, q1, q2, q3, q4]) rfl ?_
    rw [HX2.out]
    exact ⟨none, 0, none, 0, rfl, QR.nil, QR.nil, five_set (six_set B1 (by omega) _ _ _ _ _ _) (by omega) _ _ _ _ _⟩
end Go.Proofs.Yteikggieekhfkaa
