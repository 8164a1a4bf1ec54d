/- the reference's Run: what the program's answers. -/
import Derived.Test.YteikggieekhfkaaRunFr
import Derived.Test.YteikggieekhfkaaRNxt
import Derived.Test.YteikggieekhfkaaRunP
import Derived.Deep.RegionLaw
import Derived.Deep.RegionHeld3
import Derived.Deep.DeepCutAuto
namespace Go.Proofs.Yteikggieekhfkaa
open Go.RowKit

attribute [local go_sem] setCell_draws alloc_draws
theorem four_newR (w : World) (a b c d : Obj) : Below w.heap.size w ((((w.alloc a).alloc b).alloc c).alloc d) := (three_new w a b c).alloc (by simp; omega) _
theorem Blk.fthR (w : World) (a b c : Obj) (C : Array Value) (t : TypeId) : Blk ((((w.alloc a).alloc b).alloc c).alloc (.cells C t)) (w.heap.size + 1 + 1 + 1) C t := by
  have := Blk.new (((w.alloc a).alloc b).alloc c) C t
  rw [World.size_alloc, World.size_alloc, World.size_alloc] at this
  exact this
theorem rpost_zero {B : Nat} {A0 : Option Addr} {F : Int} {w w' : World} (hb : Below w.heap.size w w') :
    RunPostR B A0 zeroLS F w (.returned (.tuple #[.agg #[.int .i64 0, .int .i64 0, .bool false, .bool false, .bool false, .int .i64 0], .agg #[.int .i64 0, .int .i64 0, .slice none 0 0, .int .i64 0, .bool false], .slice none 0 0, .int .i64 F])) w' :=
  ⟨none, 0, none, 0, rfl, QC.nil, Nat.le_refl _, fun _ => rfl, .inr (fun ad e => by cases e), QR.nil, hb⟩
/-- what the last statement leaves -/
structure RFin (B : Nat) (A0 : Option Addr) (x : LS) (A : Option Addr) (c : Nat) (AT : Option Addr) (w w' : World) : Prop where
  q : QC w' w' B A x.q
  l : x.q.length ≤ c
  n : A = none → c = 0
  f : A = A0 ∨ ∀ ad, A = some ad → w.heap.size ≤ ad.block
  t : QR w' w'.heap.size AT x.tk
  b : Below w.heap.size w w'
theorem RFin.post {B : Nat} {A0 : Option Addr} {x : LS} {A : Option Addr} {c : Nat} {AT : Option Addr} {cT : Nat} {w w' : World} (h : RFin B A0 x A c AT w w') :
    RunPostR B A0 x 0 w (.returned (.tuple #[.agg #[.int .i64 x.b.n, .int .i64 x.b.v, .bool x.b.L, .bool x.b.R, .bool x.b.T, .int .i64 x.b.k], .agg #[.int .i64 x.f, .int .i64 (x.s : Int), .slice A x.q.length c, .int .i64 x.wd, .bool x.st], .slice AT x.tk.length cT, .int .i64 0])) w' :=
  ⟨A, c, AT, cT, rfl, h.q, h.l, h.n, h.f, h.t, h.b⟩
theorem RFin.drew {B : Nat} {A0 : Option Addr} {x : LS} {A : Option Addr} {c : Nat} {AT : Option Addr} {w w' : World} (h : RFin B A0 x A c AT w w') : RFin B A0 x A c AT w w'.drew :=
  ⟨h.q.dr, h.l, h.n, h.f, qr_drew h.t, h.b.drew⟩
set_option maxRecDepth 100000 in
set_option maxHeartbeats 8000000 in
theorem rrun_any (n v : Int) (L R T : Bool) (k f : Int) (s : Int) (A : Option Addr) (q : List (List UInt8)) (c : Nat) (wd : Int) (st : Bool) (Al : Option Addr) (l : List Bt) (cl : Nat) (B : Nat) (w : World) (hB : B ≤ w.heap.size) (hl : q.length ≤ 9223372036854775807) (hc : q.length ≤ c) (hA : A = none → c = 0) (h : QC w w B A q) (hs : SR Bt.cells w w.heap.size Al l) :
    Calls Try.prog 23 #[uplV n v L R T k, grdV f s (.slice A q.length c) wd st, .slice Al l.length cl] w
      (RunPostR B A (runR ⟨⟨n, v, L, R, T, k⟩, f, s.toNat, q, wd, st, []⟩ (runC n v k f s q wd l) l).1 (runR ⟨⟨n, v, L, R, T, k⟩, f, s.toNat, q, wd, st, []⟩ (runC n v k f s q wd l) l).2 w) := by
  obtain ⟨w0, hw0⟩ : ∃ w0, (((w.alloc (.cells (uplC n v L R T k) 23)).alloc (.cells (grdC f s (.slice A q.length c) wd st) 41)).alloc (.cells (uplC 0 0 false false false 0) 23)).alloc (.cells (grdC 0 0 (.slice none 0 0) 0 false) 41) = w0 := ⟨_, rfl⟩
  have b0 : Below w.heap.size w w0 := by rw [← hw0]; exact four_newR w _ _ _ _
  have z0 : w0.heap.size = w.heap.size + 4 := by rw [← hw0]; simp
  have g0 : Blk w0 w.heap.size (uplC n v L R T k) 23 := by rw [← hw0]; exact (((Blk.new w _ _).alloc _).alloc _).alloc _
  have g1 : Blk w0 (w.heap.size + 1) (grdC f s (.slice A q.length c) wd st) 41 := by rw [← hw0]; exact ((Blk.snd w _ _ _).alloc _).alloc _
  have g2 : Blk w0 (w.heap.size + 1 + 1) (uplC 0 0 false false false 0) 23 := by rw [← hw0]; exact (Blk.thd w _ _ _ _).alloc _
  have g3 : Blk w0 (w.heap.size + 1 + 1 + 1) (grdC 0 0 (.slice none 0 0) 0 false) 41 := by rw [← hw0]; exact Blk.fthR w _ _ _ _ _
  have HB1 := Lib.hid (r_checkBoard_any n v L R T k w0)
  have HG1 := Lib.hid (fun (w1 : World) (hb : Below w0.heap.size w0 w1) => r_checkGround_any f s A q c wd st w1.heap.size w1 (Nat.le_refl _) hl (QC.qr (h.next (b0.trans (hb.mono b0.size)) hB) (Below.refl _ _) (Nat.le_trans hB (Nat.le_trans b0.size hb.size))))
  obtain ⟨XR, hX⟩ : ∃ XR, runR ⟨⟨n, v, L, R, T, k⟩, f, s.toNat, q, wd, st, []⟩ (runC n v k f s q wd l) l = XR := ⟨_, rfl⟩
  rw [hX]
  have HX := Lib.hid hX
  have hok := @runC_ok n v k f s q wd l
  have HE := Lib.hid (show runC n v k f s q wd l = if (if brdS n v k = 0 then gndS f s q wd else brdS n v k) = 0 then (if 2000 < l.length then 2 else if l.all Bt.okB = true then 0 else 1) else (if brdS n v k = 0 then gndS f s q wd else brdS n v k) from rfl)
  have HBAD : Hid (∀ F : Int, runC n v k f s q wd l = F → F ≠ 0 → XR = (zeroLS, F)) := Lib.hid (fun F e1 e2 => by
    rw [← HX.out, e1]
    unfold runR
    rw [if_pos e2])
  generalize runC n v k f s q wd l = C at *
  generalize brdS n v k = F1 at *
  generalize gndS f s q wd = F2 at *
  unfold uplV grdV at *
  unfold uplC grdC at hw0
  clear hX
  obtain ⟨p0, p1, p2, p3, p4, p5⟩ := blk_u g0
  by_cases hF1 : F1 = 0
  · have d1 : (F1 != 0) = false := by simpa using hF1
    have HE2 : Hid (C = if F2 = 0 then (if 2000 < l.length then 2 else if l.all Bt.okB = true then 0 else 1) else F2) := Lib.hid (by rw [HE.out, if_pos hF1])
    clear HE hF1
    by_cases hF2 : F2 = 0
    · have d2 : (F2 != 0) = false := by simpa using hF2
      have HE3 : Hid (C = if 2000 < l.length then 2 else if l.all Bt.okB = true then 0 else 1) := Lib.hid (by rw [HE2.out, if_pos hF2])
      clear HE2 hF2
      go_enter Try.func23, Try.ntmps23
      go_wp2_with fail
      refine HB1.out.mono ?_
      rintro e w1 ⟨rfl, hb1⟩
      clear hw0 p0 p1 p2 p3 p4 p5 HB1
      have g0 := g0.below hb1 g0.lt
      have g1 := g1.below hb1 g1.lt
      have g2 := g2.below hb1 g2.lt
      have g3 := g3.below hb1 g3.lt
      have B1 := b0.trans (hb1.mono b0.size)
      obtain ⟨q0, q1, q2, q3, q4⟩ := blk_g g1
      go_wp2_with fail
      refine (HG1.out _ hb1).mono ?_
      rintro e w2 ⟨rfl, hb2⟩
      clear q0 q1 q2 q3 q4 HG1
      have g0 := g0.below hb2 g0.lt
      have g1 := g1.below hb2 g1.lt
      have g2 := g2.below hb2 g2.lt
      have g3 := g3.below hb2 g3.lt
      have B2 := B1.trans (hb2.mono B1.size)
      have z2 : w.heap.size + 4 ≤ w2.heap.size := by have := hb1.size; have := hb2.size; omega
      clear hb1 hb2 B1 b0
      by_cases h2 : 2000 < l.length
      · have d3 : decide ((2000 : Int) < (l.length : Int)) = true := decide_eq_true (by omega)
        have HZ : Hid (XR = (zeroLS, 2)) := Lib.hid (HBAD.out 2 (by rw [HE3.out, if_pos h2]) (by omega))
        clear h2
        have hbx := Below.refl w2.heap.size w2
        have gz := g2.below hbx (by first | exact g2.lt | omega)
        have gy := g3.below hbx (by first | exact g3.lt | omega)
        have BZ := B2
        obtain ⟨p0, p1, p2, p3, p4, p5⟩ := blk_u gz
        obtain ⟨q0, q1, q2, q3, q4⟩ := blk_g gy
        obtain ⟨e0, e1, e2, e3, e4, e5⟩ := blk_f gz
        obtain ⟨f0, f1, f2, f3, f4, -⟩ := blk_f gy
        have HP := Lib.hid (five_set (six_set BZ (show w.heap.size ≤ w.heap.size + 1 + 1 by omega) (.int .i64 0) (.int .i64 0) (.bool false) (.bool false) (.bool false) (.int .i64 0)) (show w.heap.size ≤ w.heap.size + 1 + 1 + 1 by omega) (.int .i64 0) (.int .i64 0) (.slice none 0 0) (.int .i64 0) (.bool false))
        clear hbx BZ
        go_wp2_with fail
        refine bodyPost_ret (v := .tuple #[.agg #[.int .i64 0, .int .i64 0, .bool false, .bool false, .bool false, .int .i64 0], .agg #[.int .i64 0, .int .i64 0, .slice none 0 0, .int .i64 0, .bool false], .slice none 0 0, .int .i64 2]) (by simp [results, Try.results23, go_sem, p0, p1, p2, p3, p4, p5, q0, q1, q2, q3, q4]) rfl ?_
        rw [HZ.out]
        exact rpost_zero HP.out
      · have HX0 : Hid (C = if l.all Bt.okB = true then 0 else 1) := Lib.hid (by rw [HE3.out, if_neg h2])
        have d3 : decide ((2000 : Int) < (l.length : Int)) = false := decide_eq_false (by omega)
        have hll : (l.length : Int) ≤ 2000 := by omega
        clear HE3 h2
        go_wp2_with fail
        go_loopw [41] (fun i wr => ∃ j : Nat, j ≤ l.length ∧ i = .int .i64 j ∧ (l.take j).all Bt.okB = true ∧ Below w2.heap.size w2 wr) (fun i _ => l.length - (intOf i).toNat)
        case atStart => exact ⟨0, Nat.zero_le _, rfl, rfl, Below.refl _ _⟩
        case round =>
          obtain ⟨j, hj, rfl, hall, hbr⟩ := hrel
          have BRR := B2.trans (hbr.mono B2.size)
          by_cases hlt : j < l.length
          · obtain ⟨ad, hAd, hbk, c0, c1, c2, c3, c4⟩ := bts_get (hs.below BRR) j hlt
            subst hAd
            have hi0 : (0 : Int) ≤ (j : Int) := by omega
            have hi1 : (j : Int) < (l.length : Int) := by omega
            have HT : Hid ((l.take (j + 1)).all Bt.okB = (l[j]).okB) := Lib.hid (by rw [List.take_succ_eq_append_getElem hlt, List.all_append, hall]; simp)
            have HB1 : Hid ((l[j]).okB = false → C = 1) := Lib.hid (fun e => by
              rw [HX0.out, if_neg]
              intro q2
              have := List.all_eq_true.1 q2 l[j] (List.getElem_mem hlt)
              rw [e] at this
              cases this)
            have HO := Lib.hid (show (l[j]).okB = decide (0 ≤ (l[j]).room ∧ (l[j]).room ≤ 2) from rfl)
            generalize l[j] = t at *
            obtain ⟨ts, tl, tr, td, tm⟩ := t
            simp only at c0 c1 c2 c3 c4 HO
            clear hall
            by_cases hm : 0 ≤ tm ∧ tm ≤ 2
            · have d4 : decide (0 ≤ tm ∧ tm ≤ 2) = true := decide_eq_true hm
              have HN : Hid ((l.take (j + 1)).all Bt.okB = true) := Lib.hid (by rw [HT.out, HO.out, d4])
              clear hm
              go_wp2_with (first | (go_at_call 56; refine (r_within_any _ _ _ _).mono ?_; rintro e w' ⟨rfl, rfl⟩) | fail)
              go_roundw
              case rel => exact ⟨j + 1, by omega, by go_num, HN.out, hbr.alloc hbr.size _⟩
              case measure => simp [intOf]; omega
            · have d4 : decide (0 ≤ tm ∧ tm ≤ 2) = false := decide_eq_false hm
              have HZ : Hid (XR = (zeroLS, 1)) := Lib.hid (HBAD.out 1 (HB1.out (by rw [HO.out, d4])) (by omega))
              clear hm
              have hbx := hbr.alloc hbr.size (.cells (btC ts tl tr td tm) 50)
              have gz := g2.below hbx (by first | exact g2.lt | omega)
              have gy := g3.below hbx (by first | exact g3.lt | omega)
              have BZ := BRR.alloc (by have := hbr.size; omega) (.cells (btC ts tl tr td tm) 50)
              obtain ⟨p0, p1, p2, p3, p4, p5⟩ := blk_u gz
              obtain ⟨q0, q1, q2, q3, q4⟩ := blk_g gy
              obtain ⟨e0, e1, e2, e3, e4, e5⟩ := blk_f gz
              obtain ⟨f0, f1, f2, f3, f4, -⟩ := blk_f gy
              have HP := Lib.hid (five_set (six_set BZ (show w.heap.size ≤ w.heap.size + 1 + 1 by omega) (.int .i64 0) (.int .i64 0) (.bool false) (.bool false) (.bool false) (.int .i64 0)) (show w.heap.size ≤ w.heap.size + 1 + 1 + 1 by omega) (.int .i64 0) (.int .i64 0) (.slice none 0 0) (.int .i64 0) (.bool false))
              clear hbx BZ
              unfold btC at p0 p1 p2 p3 p4 p5 q0 q1 q2 q3 q4 e0 e1 e2 e3 e4 e5 f0 f1 f2 f3 f4 HP
              go_wp2_with (first | (go_at_call 56; refine (r_within_any _ _ _ _).mono ?_; rintro e w' ⟨rfl, rfl⟩) | fail)
              refine bodyPost_ret (v := .tuple #[.agg #[.int .i64 0, .int .i64 0, .bool false, .bool false, .bool false, .int .i64 0], .agg #[.int .i64 0, .int .i64 0, .slice none 0 0, .int .i64 0, .bool false], .slice none 0 0, .int .i64 1]) (by simp [results, Try.results23, go_sem, p0, p1, p2, p3, p4, p5, q0, q1, q2, q3, q4]) rfl ?_
              rw [HZ.out]
              exact rpost_zero HP.out
          · have HC0 : Hid (C = 0) := Lib.hid (by
              rw [HX0.out, if_pos]
              rw [List.take_of_length_le (by omega)] at hall
              exact hall)
            obtain ⟨hbr0, hg, -, hallB⟩ := hok HC0.out
            obtain ⟨S, rfl⟩ : ∃ S : Nat, s = (S : Int) := ⟨s.toNat, by have := hg.s0; omega⟩
            have HX2 : Hid (XR = if (runS ⟨⟨n, v, L, R, T, k⟩, f, S, q, wd, st, []⟩ l).2 ≠ 0 then (zeroLS, (runS ⟨⟨n, v, L, R, T, k⟩, f, S, q, wd, st, []⟩ l).2) else runS ⟨⟨n, v, L, R, T, k⟩, f, S, q, wd, st, []⟩ l) := Lib.hid (by
              rw [← HX.out]
              unfold runR
              rw [if_neg (by rw [HC0.out]; simp), Int.toNat_natCast])
            obtain ⟨x0, hx0⟩ : ∃ x0 : LS, x0 = ⟨⟨n, v, L, R, T, k⟩, f, S, q, wd, st, []⟩ := ⟨_, rfl⟩
            rw [← hx0] at HX2
            have hok0 : LOk x0 := by rw [hx0]; exact ⟨hbr0, hg⟩
            have HALL := Lib.hid hallB
            have hqI : q.length ≤ 500 := hg.few
            have hqb : q ≠ [] → ∀ ad, A = some ad → ad.block < w.heap.size := fun hne ad e => by
              obtain ⟨ds, y1, y2, -⟩ := h
              rcases y2 with y | ⟨ad', y, hl', -⟩
              · have := rcells_len Bd.one ds
                rw [y] at this
                simp at this
                exact absurd (List.eq_nil_of_length_eq_zero (by omega)) hne
              · rw [e] at y
                injection y with y
                subst y
                exact hl'
            have g0 := g0.below hbr g0.lt
            have g1 := g1.below hbr g1.lt
            have g2 := g2.below hbr g2.lt
            have g3 := g3.below hbr g3.lt
            have hR0 : RS w w.heap.size B (w.heap.size + 4) A x0 (.slice none 0 0) wr := by
              rw [hx0]
              exact ⟨A, c, g0, g1, g2, g3, ⟨h.next BRR hB, fun hne ad e => .inl (hqb hne ad e), hc, hA, .inl rfl, OwnC.nil _ _⟩, BRR, by have := hbr.size; omega⟩
            have ht0 : x0.tk.length = 0 := by rw [hx0]; rfl
            have HT0 := Lib.hid ht0
            clear HX HC0 HX0 hok HBAD hall hbr0 hg hallB hx0 ht0 g0 g1 g2 g3 hqb
            go_wp2_with fail
            go_loopw [14, 54] (fun u i wr => ∃ (j : Nat) (x : LS), j ≤ l.length ∧ i = .int .i64 j ∧ RS w w.heap.size B (w.heap.size + 4) A x u wr ∧ LOk x ∧ runS x0 l = runS x (l.drop j) ∧ x.tk.length ≤ j) (fun _ i _ => l.length - (intOf i).toNat)
            case atStart => exact ⟨0, x0, Nat.zero_le _, rfl, hR0, hok0, rfl, by rw [HT0.out]; exact Nat.le_refl _⟩
            case round =>
              obtain ⟨j, x, hj, rfl, hRS, hokx, hrun, htl⟩ := hrel
              obtain ⟨A9, c9, gU, gG, gZ, gY, hQT, hBW, hsz⟩ := hRS
              by_cases hlt : j < l.length
              · obtain ⟨ad, hAd, hbk, c0, c1, c2, c3, c4⟩ := bts_get (hs.below hBW) j hlt
                subst hAd
                have hi0 : (0 : Int) ≤ (j : Int) := by omega
                have hi1 : (j : Int) < (l.length : Int) := by omega
                have htk : l[j].okB = true := List.all_eq_true.1 HALL.out _ (List.getElem_mem hlt)
                have hstep := run_step x l j hlt
                generalize l[j] = t at *
                obtain ⟨ts, tl, tr, td, tm⟩ := t
                simp only at c0 c1 c2 c3 c4
                have hr : tm = 0 ∨ tm = 1 ∨ tm = 2 := by
                  unfold Bt.okB at htk
                  simp only [decide_eq_true_eq] at htk
                  omega
                have HR := Lib.hid (hrun.trans hstep)
                have HLA := Lib.hid (fun g (hg : u14.ownBlock = some g) => (hQT.2.2.2.2.2.lt g hg).2)
                obtain ⟨wa, hwa⟩ : ∃ wa, wr.alloc (.cells (btC ts tl tr td tm) 50) = wa := ⟨_, rfl⟩
                have ba : Below wr.heap.size wr wa := by rw [← hwa]; exact (Below.refl _ _).alloc (Nat.le_refl _) _
                have gB : Blk wa wr.heap.size (btC ts tl tr td tm) 50 := by rw [← hwa]; exact Blk.new wr _ _
                have gU := gU.below ba gU.lt
                have gG := gG.below ba gG.lt
                have gZ := gZ.below ba gZ.lt
                have gY := gY.below ba gY.lt
                have hQT := hQT.frame (Frg.of (g1 := w.heap.size) (g2 := w.heap.size + 1) ba) hB (Nat.le_refl _) (by omega) (by omega) (by omega) hsz
                have hBW := hBW.trans (ba.mono (by omega))
                have hsa : wr.heap.size < wa.heap.size := gB.lt
                obtain ⟨xb, hxb⟩ : ∃ xb, wr.heap.size = xb := ⟨_, rfl⟩
                have hsz := Nat.le_trans hsz (Nat.le_of_lt hsa)
                have hxz : w.heap.size + 4 ≤ xb := by omega
                unfold btC at hwa
                have HWA := Lib.hid hwa
                have HXB := Lib.hid hxb
                rw [hxb] at gB hsa
                clear hwa hxb htk hrun hstep ba
                go_upto_if 59 with fail
                rw [HWA.out]
                rw [HXB.out]
                clear c0 c1 c2 c3 c4
                obtain ⟨e0, e1, e2, e3, e4⟩ := blk_b gB
                go_cut [14] (fun s14 wx => ∃ y : LS, RS w w.heap.size B (w.heap.size + 4) A y s14 wx ∧ Blk wx xb (btC ts tl tr td tm) 50 ∧ AFT x ⟨ts, tl, tr, td, tm⟩ y)
                case first =>
                  cases ts
                  · go_wp2_with fail
                    go_meet
                    exact ⟨x, ⟨A9, c9, gU, gG, gZ, gY, hQT, hBW, hsz⟩, gB, fun q2 => by simp at q2, fun _ => rfl⟩
                  · obtain ⟨wc, hwc⟩ : ∃ wc, wa.alloc (.cells (ordC 0 0 none 0 0) 26) = wc := ⟨_, rfl⟩
                    have bc : Below wa.heap.size wa wc := by rw [← hwc]; exact (Below.refl _ _).alloc (Nat.le_refl _) _
                    have gC : Blk wc wa.heap.size (ordC 0 0 none 0 0) 26 := by rw [← hwc]; exact Blk.new wa _ _
                    have hS1 : x.s ≤ x.q.length := by have := hokx.g.s2; omega
                    unfold ordC at hwc
                    have HWC := Lib.hid hwc
                    clear hwc
                    by_cases hn : noNext x
                    · have HN := Lib.hid (fun w1 => r_next_no x.f x.s A9 x.q.length c9 x.wd x.st w1 hn hS1)
                      have HSD : Hid (sendS x tl = (x, 0)) := Lib.hid (by unfold sendS; rw [if_pos hn])
                      unfold grdV ordV at HN
                      obtain ⟨p0, p1, p2, p3, p4⟩ := blk_g gG
                      clear hn e0 e1 e2 e3 e4
                      have gGc := gG.below bc gG.lt
                      clear p0 p1 p2 p3 p4
                      obtain ⟨p0, p1, p2, p3, p4⟩ := blk_g gGc
                      go_upto_region 21 with fail
                      rw [HWC.out]
                      go_wp2_with fail
                      refine (HN.out _).mono ?_
                      rintro e w1 ⟨rfl, hb1⟩
                      have b1 : Below wa.heap.size wa w1 := bc.trans (hb1.mono bc.size)
                      have hU := gU.below b1 gU.lt
                      have hG := gG.below b1 gG.lt
                      have hZ := gZ.below b1 gZ.lt
                      have hY := gY.below b1 gY.lt
                      have hBb := gB.below b1 gB.lt
                      have hC := gC.below hb1 gC.lt
                      have hQ1 := hQT.frame (((Frg.of (g1 := w.heap.size) (g2 := w.heap.size + 1) b1).five (p := w.heap.size + 1) (by omega) (.int .i64 x.f) (.int .i64 (x.s : Int)) (.slice A9 x.q.length c9) (.int .i64 x.wd) (.bool x.st)).three (p := wa.heap.size) (by omega) (.int .i64 0) (.int .i64 0) (.slice none 0 0)) hB (Nat.le_refl _) (by omega) (by omega) (by omega) hsz
                      have hBW1 := three_set (five_set (hBW.trans (b1.mono (by omega))) (show w.heap.size ≤ w.heap.size + 1 by omega) (.int .i64 x.f) (.int .i64 (x.s : Int)) (.slice A9 x.q.length c9) (.int .i64 x.wd) (.bool x.st)) (show w.heap.size ≤ wa.heap.size by omega) (.int .i64 0) (.int .i64 0) (.slice none 0 0)
                      have hz1 := b1.size
                      clear p0 p1 p2 p3 p4
                      obtain ⟨p0, p1, p2, p3, p4⟩ := blk_g hG
                      obtain ⟨f0, f1, f2, f3, f4, -⟩ := blk_f hG
                      obtain ⟨o0, o1, o2⟩ := blk_o hC
                      obtain ⟨i0, i1, i2, -, -, -⟩ := blk_f hC
                      go_wp2_with fail
                      go_meet
                      exact ⟨x, ⟨A9, c9, (hU.oth5 (by omega) _ _ _ _ _).oth3 (by omega) _ _ _, (hG.grd5 _ _ _ _ _).oth3 (by omega) _ _ _, (hZ.oth5 (by omega) _ _ _ _ _).oth3 (by omega) _ _ _, (hY.oth5 (by omega) _ _ _ _ _).oth3 (by omega) _ _ _, hQ1, hBW1, by simp; omega⟩, (hBb.oth5 (by omega) _ _ _ _ _).oth3 (by omega) _ _ _, fun _ => HSD.out, fun q2 => by simp at q2⟩
                    · have hn2 := hn
                      unfold noNext at hn2
                      simp only [not_or] at hn2
                      obtain ⟨h1, h2, h3⟩ := hn2
                      have hst : x.st = false := by simpa using h1
                      have hS : x.s < x.q.length := by omega
                      have hw : (x.s : Int) < x.wd := by have := hokx.g.s1; omega
                      have hbod := hokx.g.bod _ (List.getElem_mem hS)
                      have h200 : x.q[x.s].length ≤ 200 := by
                        unfold bodS at hbod
                        split at hbod
                        · simp at hbod
                        · split at hbod
                          · simp at hbod
                          · omega
                      have hBa : B ≤ wa.heap.size := by omega
                      have HN := Lib.hid (r_next_yes x.f x.s A9 x.q c9 x.wd wc.heap.size wc (Nat.le_refl _) (QC.qr (hQT.1.next bc hBa) (Below.refl _ _) (Nat.le_trans hBa bc.size)) hokx.g.f0 hokx.g.f1 hokx.g.few hS hw hokx.g.w1 h200)
                      obtain ⟨m, hm⟩ : ∃ m, (x.f + (x.s : Int)) % 256 = m := ⟨_, rfl⟩
                      have hm01 : 0 ≤ m ∧ m ≤ 255 := by omega
                      have hno : numOf x = m := hm
                      obtain ⟨bd, hbd⟩ : ∃ bd, x.q[x.s] = bd := ⟨_, rfl⟩
                      have hbo : bodyOf x = bd := by
                        unfold bodyOf
                        simp [List.getD, hS, hbd]
                      rw [hm, hbd] at HN
                      rw [hst] at gG
                      unfold grdV ordV at HN
                      have gGc := gG.below bc gG.lt
                      have HSN : Hid (¬ noNext x) := Lib.hid hn
                      have HNO := Lib.hid hno
                      have HBO := Lib.hid hbo
                      have HST := Lib.hid hst
                      clear e0 e1 e2 e3 e4 hn h1 h2 h3 hm hno hbo hbd hst hbod h200
                      obtain ⟨p0, p1, p2, p3, p4⟩ := blk_g gGc
                      go_upto_region 21 with fail
                      rw [HWC.out]
                      go_wp2_with fail
                      refine HN.out.mono ?_
                      rintro e w1 ⟨X, kx, rfl, hrx, hb1, hfx⟩
                      have b1 : Below wa.heap.size wa w1 := bc.trans (hb1.mono bc.size)
                      have hU := gU.below b1 gU.lt
                      have hG := gG.below b1 gG.lt
                      have hZ := gZ.below b1 gZ.lt
                      have hY := gY.below b1 gY.lt
                      have hBb := gB.below b1 gB.lt
                      have hC := gC.below hb1 gC.lt
                      have hcl := gC.lt
                      have hz1 := b1.size
                      clear p0 p1 p2 p3 p4 gGc gC HN HWC
                      obtain ⟨p0, p1, p2, p3, p4⟩ := blk_g hG
                      obtain ⟨f0, f1, f2, f3, f4, -⟩ := blk_f hG
                      obtain ⟨o0, o1, o2⟩ := blk_o hC
                      obtain ⟨i0, i1, i2, -, -, -⟩ := blk_f hC
                      have hQ1 := hQT.frame (((Frg.of (g1 := w.heap.size) (g2 := w.heap.size + 1) b1).five (p := w.heap.size + 1) (by omega) (.int .i64 x.f) (.int .i64 ((x.s : Int) + 1)) (.slice A9 x.q.length c9) (.int .i64 x.wd) (.bool false)).three (p := wa.heap.size) (by omega) (.int .i64 1) (.int .i64 m) (.slice X bd.length kx)) hB (Nat.le_refl _) (by omega) (by omega) (by omega) hsz
                      have hBW1 := three_set (five_set (hBW.trans (b1.mono (by omega))) (show w.heap.size ≤ w.heap.size + 1 by omega) (.int .i64 x.f) (.int .i64 ((x.s : Int) + 1)) (.slice A9 x.q.length c9) (.int .i64 x.wd) (.bool false)) (show w.heap.size ≤ wa.heap.size by omega) (.int .i64 1) (.int .i64 m) (.slice X bd.length kx)
                      have xx := three_br (five_br hrx (g := w.heap.size + 1) (fun ad e => by have := hfx ad e; omega) (.int .i64 x.f) (.int .i64 ((x.s : Int) + 1)) (.slice A9 x.q.length c9) (.int .i64 x.wd) (.bool false)) (g := wa.heap.size) (fun ad e => by have := hfx ad e; omega) (.int .i64 1) (.int .i64 m) (.slice X bd.length kx)
                      have yU := (hU.oth5 (p := w.heap.size + 1) (by omega) (.int .i64 x.f) (.int .i64 ((x.s : Int) + 1)) (.slice A9 x.q.length c9) (.int .i64 x.wd) (.bool false)).oth3 (p := wa.heap.size) (by omega) (.int .i64 1) (.int .i64 m) (.slice X bd.length kx)
                      have yG := (hG.grd5 x.f ((x.s : Int) + 1) (.slice A9 x.q.length c9) x.wd false).oth3 (p := wa.heap.size) (by omega) (.int .i64 1) (.int .i64 m) (.slice X bd.length kx)
                      have yZ := (hZ.oth5 (p := w.heap.size + 1) (by omega) (.int .i64 x.f) (.int .i64 ((x.s : Int) + 1)) (.slice A9 x.q.length c9) (.int .i64 x.wd) (.bool false)).oth3 (p := wa.heap.size) (by omega) (.int .i64 1) (.int .i64 m) (.slice X bd.length kx)
                      have yY := (hY.oth5 (p := w.heap.size + 1) (by omega) (.int .i64 x.f) (.int .i64 ((x.s : Int) + 1)) (.slice A9 x.q.length c9) (.int .i64 x.wd) (.bool false)).oth3 (p := wa.heap.size) (by omega) (.int .i64 1) (.int .i64 m) (.slice X bd.length kx)
                      have yB := (hBb.oth5 (p := w.heap.size + 1) (by omega) (.int .i64 x.f) (.int .i64 ((x.s : Int) + 1)) (.slice A9 x.q.length c9) (.int .i64 x.wd) (.bool false)).oth3 (p := wa.heap.size) (by omega) (.int .i64 1) (.int .i64 m) (.slice X bd.length kx)
                      have yC := (hC.oth5 (p := w.heap.size + 1) (by omega) (.int .i64 x.f) (.int .i64 ((x.s : Int) + 1)) (.slice A9 x.q.length c9) (.int .i64 x.wd) (.bool false)).ord3 1 m X bd.length kx
                      obtain ⟨wy, hwy⟩ : ∃ wy, (((((((w1.setCell ⟨w.heap.size + 1, 0, none⟩ (.int .i64 x.f)).setCell ⟨w.heap.size + 1, 1, none⟩ (.int .i64 ((x.s : Int) + 1))).setCell ⟨w.heap.size + 1, 2, none⟩ (.slice A9 x.q.length c9)).setCell ⟨w.heap.size + 1, 3, none⟩ (.int .i64 x.wd)).setCell ⟨w.heap.size + 1, 4, none⟩ (.bool false)).setCell ⟨wa.heap.size, 0, none⟩ (.int .i64 1)).setCell ⟨wa.heap.size, 1, none⟩ (.int .i64 m)).setCell ⟨wa.heap.size, 2, none⟩ (.slice X bd.length kx) = wy := ⟨_, rfl⟩
                      have zy : wy.heap.size = w1.heap.size := by rw [← hwy]; simp
                      rw [hwy] at hQ1 hBW1 xx yU yG yZ yY yB yC
                      have HWY := Lib.hid hwy
                      clear hwy hU hG hZ hY hBb hC hrx hb1 bc b1
                      go_upto_region 23 with fail
                      rw [HWY.out]
                      clear p0 p1 p2 p3 p4 f0 f1 f2 f3 f4 o0 o1 o2 i0 i1 i2 HWY
                      obtain ⟨e0, e1, e2, e3, e4⟩ := blk_b yB
                      have hfy : ∀ ad, X = some ad → wa.heap.size < ad.block := fun ad e => by have := hfx ad e; omega
                      have HFY := Lib.hid hfy
                      have HZY := Lib.hid zy
                      clear hfx hfy
                      cases tl
                      · obtain ⟨Z, hZe⟩ : ∃ Z, plainS x.b m = Z := ⟨_, rfl⟩
                        have hTZ : tookS ⟨x.b.n, x.b.v, x.b.L, x.b.R, x.b.T, x.b.k⟩ 1 m = Z := by rw [← hZe]; simp [tookS]
                        have HSD : Hid (sendS x false = if 1000000 < Z.1.k then (⟨x.b, x.f, x.s + 1, x.q, x.wd, x.st, x.tk⟩, 16) else (⟨Z.1, x.f, x.s + 1, x.q, x.wd, x.st, if Z.2 = 1 then x.tk ++ [bd] else x.tk⟩, 0)) := Lib.hid (by
                          unfold sendS
                          rw [if_neg HSN.out, if_neg (by simp), HNO.out, HBO.out, hZe])
                        have HTK := Lib.hid (fun w1 => by have := r_take_any x.b.n x.b.v x.b.L x.b.R x.b.T x.b.k 1 m X bd.length kx w1 hokx.b hm01.1 hm01.2 (by omega) (by omega); rw [hTZ] at this; exact this)
                        obtain ⟨⟨n', v', L', R', T', k'⟩, u⟩ := Z
                        simp only at HSD HTK
                        unfold Upl.val uplV ordV at HTK
                        clear hZe hTZ HSN HNO HBO hm01
                        obtain ⟨a0, a1, a2, a3, a4, a5⟩ := blk_u yU
                        obtain ⟨o0, o1, o2⟩ := blk_o yC
                        go_wp2_with fail
                        refine (HTK.out _).mono ?_
                        rintro e w2 ⟨rfl, hb2⟩
                        have hU := yU.below hb2 yU.lt
                        have hG := yG.below hb2 yG.lt
                        have hZ := yZ.below hb2 yZ.lt
                        have hY := yY.below hb2 yY.lt
                        have hBb := yB.below hb2 yB.lt
                        have hC := yC.below hb2 yC.lt
                        have hz2 := hb2.size
                        have zy := HZY.out
                        have hwy1 : w.heap.size + 4 ≤ wy.heap.size := by omega
                        have hx2 := (xx.lift (show w1.heap.size ≤ wy.heap.size by omega) |>.below hb2).lift hb2.size
                        have hQ2 := hQ1.frame ((Frg.of (g1 := w.heap.size) (g2 := w.heap.size + 1) hb2).six (p := w.heap.size) (by omega) (.int .i64 n') (.int .i64 v') (.bool L') (.bool R') (.bool T') (.int .i64 k')) hB (Nat.le_refl _) (by omega) (by omega) (by omega) hwy1
                        have hBW2 := six_set (hBW1.trans (hb2.mono (by omega))) (Nat.le_refl w.heap.size) (.int .i64 n') (.int .i64 v') (.bool L') (.bool R') (.bool T') (.int .i64 k')
                        have tU := hU.set6 n' v' L' R' T' k'
                        have tG := hG.oth6 (p := w.heap.size) (by omega) (.int .i64 n') (.int .i64 v') (.bool L') (.bool R') (.bool T') (.int .i64 k')
                        have tZ := hZ.oth6 (p := w.heap.size) (by omega) (.int .i64 n') (.int .i64 v') (.bool L') (.bool R') (.bool T') (.int .i64 k')
                        have tY := hY.oth6 (p := w.heap.size) (by omega) (.int .i64 n') (.int .i64 v') (.bool L') (.bool R') (.bool T') (.int .i64 k')
                        have tB := hBb.oth6 (p := w.heap.size) (by omega) (.int .i64 n') (.int .i64 v') (.bool L') (.bool R') (.bool T') (.int .i64 k')
                        have tC := hC.oth6 (p := w.heap.size) (by omega) (.int .i64 n') (.int .i64 v') (.bool L') (.bool R') (.bool T') (.int .i64 k')
                        have hx3 : BR _ w2.heap.size X bd := (((((hx2.other (g := w.heap.size) (k := 0) (u := .int .i64 n') (fun ad e => by have := HFY.out ad e; omega)).other (g := w.heap.size) (k := 1) (u := .int .i64 v') (fun ad e => by have := HFY.out ad e; omega)).other (g := w.heap.size) (k := 2) (u := .bool L') (fun ad e => by have := HFY.out ad e; omega)).other (g := w.heap.size) (k := 3) (u := .bool R') (fun ad e => by have := HFY.out ad e; omega)).other (g := w.heap.size) (k := 4) (u := .bool T') (fun ad e => by have := HFY.out ad e; omega)).other (g := w.heap.size) (k := 5) (u := .int .i64 k') (fun ad e => by have := HFY.out ad e; omega)
                        clear a0 a1 a2 a3 a4 a5 o0 o1 o2 e0 e1 e2 e3 e4
                        obtain ⟨a0, a1, a2, a3, a4, a5⟩ := blk_u hU
                        obtain ⟨f0, f1, f2, f3, f4, f5⟩ := blk_f hU
                        obtain ⟨wz, hwz⟩ : ∃ wz, (((((w2.setCell ⟨w.heap.size, 0, none⟩ (.int .i64 n')).setCell ⟨w.heap.size, 1, none⟩ (.int .i64 v')).setCell ⟨w.heap.size, 2, none⟩ (.bool L')).setCell ⟨w.heap.size, 3, none⟩ (.bool R')).setCell ⟨w.heap.size, 4, none⟩ (.bool T')).setCell ⟨w.heap.size, 5, none⟩ (.int .i64 k') = wz := ⟨_, rfl⟩
                        have zz : wz.heap.size = w2.heap.size := by rw [← hwz]; simp
                        rw [hwz] at hQ2 hBW2 tU tG tZ tY tB tC hx3
                        have HWZ := Lib.hid hwz
                        have HZZ := Lib.hid zz
                        clear hwz zz hU hG hZ hY hBb hC xx yU yG yZ yY yB yC hx2 HTK zy
                        go_upto_region 26 with fail
                        rw [HWZ.out]
                        clear a0 a1 a2 a3 a4 a5 f0 f1 f2 f3 f4 f5 HWZ
                        obtain ⟨a0, a1, a2, a3, a4, a5⟩ := blk_u tU
                        obtain ⟨o0, o1, o2⟩ := blk_o tC
                        by_cases hk : 1000000 < k'
                        · have dk : decide ((1000000 : Int) < k') = true := decide_eq_true hk
                          have HX3 : Hid (XR = (zeroLS, 16)) := Lib.hid (by
                            have e1 : sendS x false = (⟨x.b, x.f, x.s + 1, x.q, x.wd, x.st, x.tk⟩, 16) := by rw [HSD.out, if_pos hk]
                            have e2 : beatS x ⟨true, false, tr, td, tm⟩ = (⟨x.b, x.f, x.s + 1, x.q, x.wd, x.st, x.tk⟩, 16) := by
                              unfold beatS
                              rw [if_pos rfl, e1, if_pos (by simp)]
                            have e3 := HR.out
                            rw [e2, if_pos (by simp)] at e3
                            rw [HX2.out, e3, if_pos (by simp)])
                          obtain ⟨p0, p1, p2, p3, p4, p5⟩ := blk_u tZ
                          obtain ⟨q0, q1, q2, q3, q4⟩ := blk_g tY
                          obtain ⟨e0, e1, e2, e3, e4, e5⟩ := blk_f tZ
                          obtain ⟨f0, f1, f2, f3, f4, -⟩ := blk_f tY
                          have hP := five_set (six_set hBW2 (show w.heap.size ≤ w.heap.size + 1 + 1 by omega) (.int .i64 0) (.int .i64 0) (.bool false) (.bool false) (.bool false) (.int .i64 0)) (show w.heap.size ≤ w.heap.size + 1 + 1 + 1 by omega) (.int .i64 0) (.int .i64 0) (.slice none 0 0) (.int .i64 0) (.bool false)
                          have HP := Lib.hid hP
                          clear hk hP
                          go_wp2_with fail
                          refine bodyPost_ret (v := .tuple #[.agg #[.int .i64 0, .int .i64 0, .bool false, .bool false, .bool false, .int .i64 0], .agg #[.int .i64 0, .int .i64 0, .slice none 0 0, .int .i64 0, .bool false], .slice none 0 0, .int .i64 16]) (by simp [results, Try.results23, go_sem, p0, p1, p2, p3, p4, p5, q0, q1, q2, q3, q4]) rfl ?_
                          rw [HX3.out]
                          exact rpost_zero HP.out
                        · have dk : decide ((1000000 : Int) < k') = false := decide_eq_false hk
                          have hkk : k' ≤ 1000000 := by omega
                          have HSD2 : Hid (sendS x false = (⟨⟨n', v', L', R', T', k'⟩, x.f, x.s + 1, x.q, x.wd, x.st, if u = 1 then x.tk ++ [bd] else x.tk⟩, 0)) := Lib.hid (by rw [HSD.out, if_neg hk])
                          clear hk HSD
                          by_cases hu : u = 1
                          · have d5 : (u == 1) = true := by simpa using hu
                            have HSD3 : Hid (sendS x false = (⟨⟨n', v', L', R', T', k'⟩, x.f, x.s + 1, x.q, x.wd, x.st, x.tk ++ [bd]⟩, 0)) := Lib.hid (by rw [HSD2.out, if_pos hu])
                            clear hu HSD2
                            have hown := hQ2.2.2.2.2.2
                            obtain ⟨ds, d1, d2, d3⟩ := hown
                            have hzz : w.heap.size + 4 ≤ wz.heap.size := by have := HZZ.out; omega
                            have hown1 := World.ownsRow.alloc d2 (.cells #[.slice X bd.length kx] 24)
                            have HD1 := Lib.hid d1
                            have HD3 := Lib.hid d3
                            have HLT := Lib.hid (fun g (hg : u14.ownBlock = some g) => World.ownsRow.lt d2 g hg)
                            have HQ2 := Lib.hid hQ2
                            have HX3 := Lib.hid hx3
                            have HBW := Lib.hid hBW2
                            have hx30 : (wz.alloc (.cells #[.slice X bd.length kx] 24)).heap.size = wz.heap.size + 1 := by simp
                            have HX30 := Lib.hid hx30
                            clear d1 d3 hQ2 hx3 hBW2 hx30
                            go_wp2_with (first | (at_builtin; refine wpList_app _ rfl (.tmp 85) (.tmp 88) 39 24 1 24 rfl elemQ (w.heap.size + 4) u14 x.tk.length (rcells Bd.cells ds) rfl hown1 (wz.heap.size + 1) _ 1 1 (rcells Bd.cells [⟨X, bd.length, kx⟩]) rfl rfl (Cells.fresh wz _ 24 _ _ rfl) (ds_one _) (by unfold maxLen; omega) (by omega) (by simp; omega) ?_; intro v3 w3 hown3 hgrow3 hat3) | fail)
                            go_meet
                            have hb3 : Below (w.heap.size + 4) wz w3 := ((Below.refl _ _).alloc hzz _).grown hgrow3 (by rw [HX30.out]; omega) (fun k hk => (HLT.out k hk).1)
                            have hz3 := hgrow3.size
                            rw [HX30.out] at hz3
                            exact ⟨⟨⟨n', v', L', R', T', k'⟩, x.f, x.s + 1, x.q, x.wd, x.st, x.tk ++ [bd]⟩, ⟨A9, c9, tU.below hb3 (by omega), by rw [HST.out]; exact tG.below hb3 (by omega), tZ.below hb3 (by omega), tY.below hb3 (by omega), HQ2.out.snoc (by omega) (by omega) hzz HD1.out HD3.out rfl (HX3.out.lift (by have := HZZ.out; omega)) (fun ad e => ⟨fun q => by have := HLA.out _ q; have := HXB.out; have := HFY.out ad e; omega, by have := HFY.out ad e; omega⟩) ((Below.refl _ _).alloc (Nat.le_refl _) _) hown3 hgrow3 hat3, HBW.out.trans (hb3.mono (by omega)), by omega⟩, (hgrow3.block xb (by rw [HX30.out]; have := tB.lt; omega) (fun e => by have := HLA.out _ e.symm; have := HXB.out; omega)).trans (tB.alloc _), fun _ => HSD3.out, fun q2 => by simp at q2⟩
                          · have d5 : (u == 1) = false := by simpa using hu
                            have HSD3 : Hid (sendS x false = (⟨⟨n', v', L', R', T', k'⟩, x.f, x.s + 1, x.q, x.wd, x.st, x.tk⟩, 0)) := Lib.hid (by rw [HSD2.out, if_neg hu])
                            clear hu HSD2
                            go_wp2_with fail
                            go_meet
                            exact ⟨⟨⟨n', v', L', R', T', k'⟩, x.f, x.s + 1, x.q, x.wd, x.st, x.tk⟩, ⟨A9, c9, tU, by rw [HST.out]; exact tG, tZ, tY, hQ2, hBW2, by have := HZZ.out; omega⟩, tB, fun _ => HSD3.out, fun q2 => by simp at q2⟩
                      · have HSD : Hid (sendS x true = (⟨x.b, x.f, x.s + 1, x.q, x.wd, x.st, x.tk⟩, 0)) := Lib.hid (by unfold sendS; rw [if_neg HSN.out, if_pos rfl])
                        go_wp2_with fail
                        go_meet
                        exact ⟨⟨x.b, x.f, x.s + 1, x.q, x.wd, x.st, x.tk⟩, ⟨A9, c9, yU, by rw [HST.out]; exact yG, yZ, yY, hQ1, hBW1, by rw [HZY.out]; omega⟩, yB, fun _ => HSD.out, fun q2 => by simp at q2⟩
                case rest =>
                  obtain ⟨y, ⟨A9, c9, gU, gG, gZ, gY, hQT, hBW, hsz⟩, gB, hAFT⟩ := hcut
                  have hoky := aft_ok hAFT hokx
                  have htky : y.tk.length ≤ j + 1 := Nat.le_trans (aft_tk hAFT) (by omega)
                  have HBT := Lib.hid (aft_beat hAFT)
                  clear e0 e1 e2 e3 e4 hAFT htl hokx HLA
                  obtain ⟨e0, e1, e2, e3, e4⟩ := blk_b gB
                  have hxl := gB.lt
                  have hUl := gU.lt
                  go_upto_if 92 with fail
                  go_cut [] (fun wx => RS w w.heap.size B (w.heap.size + 4) A ⟨roomS y.b tm, y.f, y.s, y.q, y.wd, y.st, y.tk⟩ u14 wx ∧ Blk wx xb (btC ts tl tr td tm) 50)
                  case first =>
                    obtain ⟨a0, a1, a2, a3, a4, a5⟩ := blk_u gU
                    obtain ⟨f0, f1, f2, f3, f4, f5⟩ := blk_f gU
                    have zs : ∀ T', RS w w.heap.size B (w.heap.size + 4) A ⟨⟨y.b.n, y.b.v, y.b.L, y.b.R, T', y.b.k⟩, y.f, y.s, y.q, y.wd, y.st, y.tk⟩ u14 (wc.setCell ⟨w.heap.size, 4, none⟩ (.bool T')) := fun T' =>
                      ⟨A9, c9, gU.set1 4 (.bool T'), gG.other (by omega), gZ.other (by omega), gY.other (by omega), hQT.frame ((Frg.refl w.heap.size (w.heap.size + 1) wc).set (.inl rfl)) hB (Nat.le_refl _) (by omega) (by omega) (by omega) hsz, hBW.setCell (Nat.le_refl _) _, by simpa using hsz⟩
                    have ZS := Lib.hid zs
                    clear zs
                    rcases hr with rfl | rfl | rfl
                    · have d7 : ((0 : Int) != 0) = false := rfl
                      go_wp2_with fail
                      go_meet
                      exact ⟨⟨A9, c9, gU, gG, gZ, gY, hQT, hBW, hsz⟩, gB⟩
                    · have d7 : ((1 : Int) != 0) = true := rfl
                      have d8 : ((1 : Int) == 2) = false := rfl
                      go_wp2_with fail
                      go_meet
                      exact ⟨ZS.out false, gB.other (by omega)⟩
                    · have d7 : ((2 : Int) != 0) = true := rfl
                      have d8 : ((2 : Int) == 2) = true := rfl
                      go_wp2_with fail
                      go_meet
                      exact ⟨ZS.out true, gB.other (by omega)⟩
                  case rest =>
                    obtain ⟨hRS, gB⟩ := hcut
                    obtain ⟨z, hz⟩ : ∃ z : LS, (⟨roomS y.b tm, y.f, y.s, y.q, y.wd, y.st, y.tk⟩ : LS) = z := ⟨_, rfl⟩
                    rw [hz] at hRS
                    have hokz : LOk z := by rw [← hz]; exact ⟨room_ok hoky.b, hoky.g⟩
                    have htkz : z.tk.length ≤ j + 1 := by rw [← hz]; exact htky
                    have HRZ : Hid (restS y ⟨ts, tl, tr, td, tm⟩ = if tr = true ∧ td = false then repS z else z) := Lib.hid (by rw [← hz]; rfl)
                    have HOKR : Hid (LOk (restS y ⟨ts, tl, tr, td, tm⟩)) := Lib.hid (rest_ok hoky)
                    have HRUN : Hid (runS x0 l = runS (restS y ⟨ts, tl, tr, td, tm⟩) (l.drop (j + 1))) := Lib.hid (by
                      rw [HR.out, HBT.out, if_neg (by simp)])
                    clear e0 e1 e2 e3 e4 gU gG gZ gY hQT hBW hsz hoky htky hz hr HBT HR hxl hUl
                    obtain ⟨A9, c9, gU, gG, gZ, gY, hQT, hBW, hsz⟩ := hRS
                    obtain ⟨e0, e1, e2, e3, e4⟩ := blk_b gB
                    have hjl : j + 1 ≤ l.length := hlt
                    have H1 := Lib.hid (show RS w w.heap.size B (w.heap.size + 4) A z u14 wc from ⟨A9, c9, gU, gG, gZ, gY, hQT, hBW, hsz⟩)
                    have HOKZ := Lib.hid hokz
                    have HTKZ := Lib.hid htkz
                    clear hokz htkz
                    cases tr
                    · have HRZ2 : Hid (restS y ⟨ts, tl, false, td, tm⟩ = z) := Lib.hid (by rw [HRZ.out, if_neg (by simp)])
                      clear HRZ gU gG gZ gY hQT hBW hsz
                      go_wp2_with fail
                      go_roundw
                      case rel => exact ⟨j + 1, z, hjl, by go_num, H1.out, HOKZ.out, by rw [HRUN.out, HRZ2.out], HTKZ.out⟩
                      case measure => simp [intOf]; omega
                    · cases td
                      · have HRZ2 : Hid (restS y ⟨ts, tl, true, false, tm⟩ = repS z) := Lib.hid (by rw [HRZ.out, if_pos ⟨rfl, rfl⟩])
                        have hPb := gU.lt
                        have hBb : B ≤ wc.heap.size := by omega
                        have hz2 : z.s ≤ z.q.length := by have := HOKZ.out.g.s2; omega
                        have HRp := Lib.hid (fun (w1 : World) (hb : Below wc.heap.size wc w1) => (r_report_any z.b.n z.b.v z.b.L z.b.R z.b.T z.b.k w1).mono fun e w' ⟨he, h2⟩ => (⟨he, hb.trans (h2.mono hb.size)⟩ : e = Ending.returned (ackV z.b.n z.b.L z.b.R z.b.T) ∧ Below wc.heap.size wc w'))
                        have HHd := Lib.hid (fun (w1 : World) (hb : Below wc.heap.size wc w1) => (rheard_any z.f z.s A9 z.q c9 z.wd z.st z.b.n z.b.L z.b.R z.b.T B w1 (Nat.le_trans hBb hb.size) (hQT.1.next hb hBb) hQT.2.2.1 hQT.2.2.2.1 HOKZ.out.g.f0 HOKZ.out.g.f1 HOKZ.out.b.n0 HOKZ.out.b.n1 hz2 HOKZ.out.g.few).mono fun e w' ⟨A', c', he, hq, hc', hA', h2, hfr⟩ =>
                          (⟨A', c', he, hq, hc', hA', hb.trans (h2.mono hb.size), hfr.imp id (fun (h : ∀ ad, A' = some ad → w1.heap.size ≤ ad.block) ad e => Nat.le_trans hb.size (h ad e))⟩ : ∃ A' c', e = Ending.returned (grdV (heardS ⟨z.f, z.s, z.q, z.wd, z.st⟩ z.b.n z.b.L z.b.R).f (heardS ⟨z.f, z.s, z.q, z.wd, z.st⟩ z.b.n z.b.L z.b.R).s (.slice A' (heardS ⟨z.f, z.s, z.q, z.wd, z.st⟩ z.b.n z.b.L z.b.R).q.length c') (heardS ⟨z.f, z.s, z.q, z.wd, z.st⟩ z.b.n z.b.L z.b.R).wd (heardS ⟨z.f, z.s, z.q, z.wd, z.st⟩ z.b.n z.b.L z.b.R).st) ∧ QC w' w' B A' (heardS ⟨z.f, z.s, z.q, z.wd, z.st⟩ z.b.n z.b.L z.b.R).q ∧ (heardS ⟨z.f, z.s, z.q, z.wd, z.st⟩ z.b.n z.b.L z.b.R).q.length ≤ c' ∧ (A' = none → c' = 0) ∧ Below wc.heap.size wc w' ∧ (A' = A9 ∨ ∀ ad, A' = some ad → wc.heap.size ≤ ad.block)))
                        have hgs := (heard_ok (st := z.st) (L := z.b.L) (R := z.b.R) HOKZ.out.g HOKZ.out.b.n0 HOKZ.out.b.n1).s0
                        have HNE := Lib.hid (@heard_ne ⟨z.f, z.s, z.q, z.wd, z.st⟩ z.b.n z.b.L z.b.R)
                        have HRES : Hid (repS z = ⟨z.b, (heardS ⟨z.f, z.s, z.q, z.wd, z.st⟩ z.b.n z.b.L z.b.R).f, (heardS ⟨z.f, z.s, z.q, z.wd, z.st⟩ z.b.n z.b.L z.b.R).s.toNat, (heardS ⟨z.f, z.s, z.q, z.wd, z.st⟩ z.b.n z.b.L z.b.R).q, (heardS ⟨z.f, z.s, z.q, z.wd, z.st⟩ z.b.n z.b.L z.b.R).wd, (heardS ⟨z.f, z.s, z.q, z.wd, z.st⟩ z.b.n z.b.L z.b.R).st, z.tk⟩) := Lib.hid rfl
                        generalize heardS ⟨z.f, z.s, z.q, z.wd, z.st⟩ z.b.n z.b.L z.b.R = g at *
                        obtain ⟨gf, gs, gq, gwd, gst⟩ := g
                        simp only at HHd HRES hgs HNE
                        obtain ⟨GS, rfl⟩ : ∃ GS : Nat, gs = (GS : Int) := ⟨gs.toNat, by omega⟩
                        have HRES2 : Hid (restS y ⟨ts, tl, true, false, tm⟩ = ⟨z.b, gf, GS, gq, gwd, gst, z.tk⟩) := Lib.hid (by rw [HRZ2.out, HRES.out, Int.toNat_natCast])
                        unfold ackV at HRp HHd
                        unfold grdV at HHd
                        have hbb : Below wc.heap.size wc wc := Below.refl _ _
                        have GU := Lib.hid gU
                        have GG := Lib.hid gG
                        have GZ := Lib.hid gZ
                        have GY := Lib.hid gY
                        have HQT := Lib.hid hQT
                        have HBW := Lib.hid hBW
                        have hGl := gG.lt
                        obtain ⟨l0, l1, l2, l3, l4, l5⟩ := blk_u gU
                        obtain ⟨q0, q1, q2, q3, q4⟩ := blk_g gG
                        clear HRZ HRZ2 HRES hgs H1 gU gG gZ gY hQT hBW hz2
                        go_upto_region 33 with fail
                        go_region_law ((first
                          | (go_simp; go_at_call 58; refine (HRp.out _ ?_).mono ?_; (first | exact hbb.drew | exact hbb); rintro e w3 ⟨rfl, hb3⟩; have g3 := GU.out.below hb3 hPb; have g3g := GG.out.below hb3 hGl; obtain ⟨m0, m1, m2, m3, m4, m5⟩ := blk_u g3; obtain ⟨n0, n1, n2, n3, n4⟩ := blk_g g3g)
                          | (go_simp; go_at_call 65; refine (HHd.out _ ?_).mono ?_; (first | exact hb3 | exact hb3.drew); rintro e w4 ⟨A4, c4, rfl, q4, hc4, hA4, hb4, hfr4⟩; have g4 := GG.out.below hb4 hGl; obtain ⟨i0, i1, i2, i3, i4⟩ := blk_g g4; obtain ⟨f0, f1, f2, f3, f4, -⟩ := blk_f g4)))
                        all_goals
                          have hz4 := hb4.size
                          have hne4 : gq ≠ [] → ∀ ad, A4 = some ad → ad.block ≠ w.heap.size + 1 := fun hq ad e => by
                            rcases hfr4 with rfl | hfr4
                            · rcases HQT.out.2.1 (HNE.out hq) ad e with h | h
                              · omega
                              · omega
                            · have := hfr4 ad e
                              omega
                          have RSF : RS w w.heap.size B (w.heap.size + 4) A ⟨z.b, gf, GS, gq, gwd, gst, z.tk⟩ u14 (((((w4.setCell ⟨w.heap.size + 1, 0, none⟩ (.int .i64 gf)).setCell ⟨w.heap.size + 1, 1, none⟩ (.int .i64 (GS : Int))).setCell ⟨w.heap.size + 1, 2, none⟩ (.slice A4 gq.length c4)).setCell ⟨w.heap.size + 1, 3, none⟩ (.int .i64 gwd)).setCell ⟨w.heap.size + 1, 4, none⟩ (.bool gst)) :=
                            ⟨A4, c4, (GU.out.below hb4 hPb).oth5 (by omega) _ _ _ _ _, g4.grd5 gf GS (.slice A4 gq.length c4) gwd gst, (GZ.out.below hb4 (by omega)).oth5 (by omega) _ _ _ _ _, (GY.out.below hb4 (by omega)).oth5 (by omega) _ _ _ _ _,
                              HQT.out.anew ((Frg.of (g1 := w.heap.size) (g2 := w.heap.size + 1) hb4).five (.inr (.inl rfl)) _ _ _ _ _) (by omega) (by omega) hsz (q4.put5 (by omega) (by omega) hne4 _ _ _ _ _) hc4 hA4 hfr4 HNE.out,
                              five_set (HBW.out.trans (hb4.mono (by omega))) (by omega) _ _ _ _ _, by simp; omega⟩
                          have HRSF := Lib.hid RSF
                          clear RSF hne4 hfr4
                          go_wp2_with fail
                          go_roundw
                          case rel => exact ⟨j + 1, ⟨z.b, gf, GS, gq, gwd, gst, z.tk⟩, hjl, by go_num, by first | exact HRSF.out | exact HRSF.out.drew hB (by omega), by rw [← HRES2.out]; exact HOKR.out, by rw [HRUN.out, HRES2.out], HTKZ.out⟩
                          case measure => simp [intOf]; omega
                      · have HRZ2 : Hid (restS y ⟨ts, tl, true, true, tm⟩ = z) := Lib.hid (by rw [HRZ.out, if_neg (by simp)])
                        clear HRZ gU gG gZ gY hQT hBW hsz
                        go_wp2_with fail
                        go_roundw
                        case rel => exact ⟨j + 1, z, hjl, by go_num, H1.out, HOKZ.out, by rw [HRUN.out, HRZ2.out], HTKZ.out⟩
                        case measure => simp [intOf]; omega
              · obtain rfl : j = l.length := by omega
                have hrun2 : runS x0 l = (x, 0) := by rw [hrun, List.drop_length]; rfl
                have HX3 : Hid (XR = (x, 0)) := Lib.hid (by rw [HX2.out, hrun2]; rfl)
                have hbb := HT0.out
                obtain ⟨AT, cT, rfl, qT, hlT, hnT⟩ := hQT.2.2.2.2.2.qr
                have HU := Lib.hid gU
                have HG := Lib.hid gG
                have HQT := Lib.hid hQT
                have HBW := Lib.hid hBW
                obtain ⟨a0, a1, a2, a3, a4, a5⟩ := blk_u gU
                obtain ⟨b0, b1, b2, b3, b4⟩ := blk_g gG
                obtain ⟨p0, p1, p2, p3, p4, p5⟩ := blk_u gZ
                obtain ⟨q0, q1, q2, q3, q4⟩ := blk_g gY
                obtain ⟨e0, e1, e2, e3, e4, e5⟩ := blk_f gZ
                obtain ⟨f0, f1, f2, f3, f4, -⟩ := blk_f gY
                clear hrun hrun2 gU gG gZ gY hQT hBW qT hbb
                go_upto_region 35 with fail
                go_region
                all_goals
                  have hQF := HQT.out.frame (((Frg.refl (w.heap.size + 1 + 1) (w.heap.size + 1 + 1 + 1) wr).six (.inl rfl) (.int .i64 x.b.n) (.int .i64 x.b.v) (.bool x.b.L) (.bool x.b.R) (.bool x.b.T) (.int .i64 x.b.k)).five (.inr (.inl rfl)) (.int .i64 x.f) (.int .i64 (x.s : Int)) (.slice A9 x.q.length c9) (.int .i64 x.wd) (.bool x.st)) hB (by omega) (by omega) (by omega) (by omega) hsz
                  have hBF := five_set (six_set HBW.out (show w.heap.size ≤ w.heap.size + 1 + 1 by omega) (.int .i64 x.b.n) (.int .i64 x.b.v) (.bool x.b.L) (.bool x.b.R) (.bool x.b.T) (.int .i64 x.b.k)) (show w.heap.size ≤ w.heap.size + 1 + 1 + 1 by omega) (.int .i64 x.f) (.int .i64 (x.s : Int)) (.slice A9 x.q.length c9) (.int .i64 x.wd) (.bool x.st)
                  obtain ⟨y1, y2, y3, y4, y5, y6⟩ := hQF
                  have YY := Lib.hid (RFin.mk y1 y3 y4 (y5.imp id (fun (h : ∀ ad, A9 = some ad → w.heap.size + 4 ≤ ad.block) ad e => by have := h ad e; omega)) (OwnC.qs y6) hBF : RFin B A x A9 c9 AT w _)
                  clear y1 y2 y3 y4 y5 y6 hBF
                  go_wp2_with fail
                  refine bodyPost_ret (v := .tuple #[.agg #[.int .i64 x.b.n, .int .i64 x.b.v, .bool x.b.L, .bool x.b.R, .bool x.b.T, .int .i64 x.b.k], .agg #[.int .i64 x.f, .int .i64 (x.s : Int), .slice A9 x.q.length c9, .int .i64 x.wd, .bool x.st], .slice AT x.tk.length cT, .int .i64 0]) (by simp [results, Try.results23, go_sem, p0, p1, p2, p3, p4, p5, q0, q1, q2, q3, q4]) rfl ?_
                  rw [HX3.out]
                  dsimp only
                  first
                  | with_reducible exact RFin.post YY.out
                  | with_reducible exact RFin.post YY.out.drew
    · have d2 : (F2 != 0) = true := by simpa using hF2
      have HZ : Hid (XR = (zeroLS, F2)) := Lib.hid (HBAD.out F2 (by rw [HE2.out, if_neg hF2]) hF2)
      clear HE2 hF2
      go_enter Try.func23, Try.ntmps23
      go_wp2_with fail
      refine HB1.out.mono ?_
      rintro e w1 ⟨rfl, hb1⟩
      clear hw0 p0 p1 p2 p3 p4 p5 HB1
      have g1 := g1.below hb1 g1.lt
      have g2 := g2.below hb1 g2.lt
      have g3 := g3.below hb1 g3.lt
      have B1 := b0.trans (hb1.mono b0.size)
      obtain ⟨q0, q1, q2, q3, q4⟩ := blk_g g1
      go_wp2_with fail
      refine (HG1.out _ hb1).mono ?_
      rintro e w2 ⟨rfl, hb2⟩
      clear q0 q1 q2 q3 q4 HG1
      have gz := g2.below hb2 (by first | exact g2.lt | omega)
      have gy := g3.below hb2 (by first | exact g3.lt | omega)
      have BZ := B1.trans (hb2.mono B1.size)
      obtain ⟨p0, p1, p2, p3, p4, p5⟩ := blk_u gz
      obtain ⟨q0, q1, q2, q3, q4⟩ := blk_g gy
      obtain ⟨e0, e1, e2, e3, e4, e5⟩ := blk_f gz
      obtain ⟨f0, f1, f2, f3, f4, -⟩ := blk_f gy
      have HP := Lib.hid (five_set (six_set BZ (show w.heap.size ≤ w.heap.size + 1 + 1 by omega) (.int .i64 0) (.int .i64 0) (.bool false) (.bool false) (.bool false) (.int .i64 0)) (show w.heap.size ≤ w.heap.size + 1 + 1 + 1 by omega) (.int .i64 0) (.int .i64 0) (.slice none 0 0) (.int .i64 0) (.bool false))
      clear BZ hb2
      go_wp2_with fail
      refine bodyPost_ret (v := .tuple #[.agg #[.int .i64 0, .int .i64 0, .bool false, .bool false, .bool false, .int .i64 0], .agg #[.int .i64 0, .int .i64 0, .slice none 0 0, .int .i64 0, .bool false], .slice none 0 0, .int .i64 F2]) (by simp [results, Try.results23, go_sem, p0, p1, p2, p3, p4, p5, q0, q1, q2, q3, q4]) rfl ?_
      rw [HZ.out]
      exact rpost_zero HP.out
  · have d1 : (F1 != 0) = true := by simpa using hF1
    have HZ : Hid (XR = (zeroLS, F1)) := Lib.hid (HBAD.out F1 (by rw [HE.out, if_neg hF1, if_neg hF1]) hF1)
    clear HE hF1
    go_enter Try.func23, Try.ntmps23
    go_wp2_with fail
    refine HB1.out.mono ?_
    rintro e w1 ⟨rfl, hb1⟩
    clear hw0 p0 p1 p2 p3 p4 p5 HB1
    have gz := g2.below hb1 (by first | exact g2.lt | omega)
    have gy := g3.below hb1 (by first | exact g3.lt | omega)
    have BZ := b0.trans (hb1.mono b0.size)
    obtain ⟨p0, p1, p2, p3, p4, p5⟩ := blk_u gz
    obtain ⟨q0, q1, q2, q3, q4⟩ := blk_g gy
    obtain ⟨e0, e1, e2, e3, e4, e5⟩ := blk_f gz
    obtain ⟨f0, f1, f2, f3, f4, -⟩ := blk_f gy
    have HP := Lib.hid (five_set (six_set BZ (show w.heap.size ≤ w.heap.size + 1 + 1 by omega) (.int .i64 0) (.int .i64 0) (.bool false) (.bool false) (.bool false) (.int .i64 0)) (show w.heap.size ≤ w.heap.size + 1 + 1 + 1 by omega) (.int .i64 0) (.int .i64 0) (.slice none 0 0) (.int .i64 0) (.bool false))
    clear BZ hb1
    go_wp2_with fail
    refine bodyPost_ret (v := .tuple #[.agg #[.int .i64 0, .int .i64 0, .bool false, .bool false, .bool false, .int .i64 0], .agg #[.int .i64 0, .int .i64 0, .slice none 0 0, .int .i64 0, .bool false], .slice none 0 0, .int .i64 F1]) (by simp [results, Try.results23, go_sem, p0, p1, p2, p3, p4, p5, q0, q1, q2, q3, q4]) rfl ?_
    rw [HZ.out]
    exact rpost_zero HP.out
end Go.Proofs.Yteikggieekhfkaa
