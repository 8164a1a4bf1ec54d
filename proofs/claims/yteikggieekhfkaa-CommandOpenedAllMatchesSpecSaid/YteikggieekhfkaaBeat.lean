/- the walk of the program's beat. -/
import Derived.Test.YteikggieekhfkaaSend
import Derived.Test.YteikggieekhfkaaHrd
import Derived.Deep.RegionWith
namespace Go.Proofs.Yteikggieekhfkaa
open Go.RowKit

attribute [local go_sem] setCell_draws alloc_draws
theorem send_any (x : LS) (A : Option Addr) (c : Nat) (TV : Value) (lost : Bool) (P B : Nat) (w : World)
    (hP : Blk w P (linC x.b.n x.b.v x.b.L x.b.R x.b.T x.b.k x.f (x.s : Int) (.slice A x.q.length c) x.wd x.st TV) 90) (hQ : QR w B A x.q) (hc : x.q.length ≤ c) (hA : A = none → c = 0) (hT : OwnT w (P + 1) B TV x.tk) (hB : B ≤ P) (hx : LOk x) (htk : x.tk.length ≤ 100000) :
    Calls Try.prog 90 #[.pointer (some ⟨P, 0, none⟩), .bool lost] w (fun e w' => SidePost P B (sendS x lost).1 (sendS x lost).2 w e w' ∧ Fr P TV w w') := by
  obtain ⟨⟨n, v, L, R, T, k⟩, f, S, q, wd, st, tk⟩ := x
  obtain ⟨hb, hg⟩ := hx
  simp only at hP hQ hc hT hb hg htk
  by_cases hn : noNext ⟨⟨n, v, L, R, T, k⟩, f, S, q, wd, st, tk⟩
  · have e : sendS ⟨⟨n, v, L, R, T, k⟩, f, S, q, wd, st, tk⟩ lost = (⟨⟨n, v, L, R, T, k⟩, f, S, q, wd, st, tk⟩, 0) := by
      unfold sendS; rw [if_pos hn]
    rw [e]
    exact send_no n v L R T k f S A q c wd st TV tk P B lost w hP hQ hc hA hT hB hn
  · have hn2 := hn
    unfold noNext at hn2
    simp only [not_or] at hn2
    obtain ⟨h1, h2, h3⟩ := hn2
    obtain rfl : st = false := by simpa using h1
    have hS : S < q.length := by have := hg.s2; omega
    have hw : (S : Int) < wd := by have := hg.s1; omega
    have hbo : bodyOf ⟨⟨n, v, L, R, T, k⟩, f, S, q, wd, false, tk⟩ = q[S] := by
      unfold bodyOf
      simp [List.getD, hS]
    refine (send_yes n v L R T k f S A q c wd TV tk P B lost w hP hQ hc hA hT hB hb hg hS hw htk (numOf ⟨⟨n, v, L, R, T, k⟩, f, S, q, wd, false, tk⟩) rfl _ _ (Lib.hid rfl) (Lib.hid rfl)).mono ?_
    rintro e w' ⟨⟨he, hh, hbw⟩, hfr⟩
    refine ⟨?_, hfr⟩
    unfold sendS
    rw [if_neg hn, hbo]
    cases lost
    · simp only [Bool.false_eq_true, if_false] at he hh ⊢
      split
      · rename_i hk
        rw [if_pos hk] at he hh
        exact ⟨he, fun q => by simp at q, hbw⟩
      · rename_i hk
        rw [if_neg hk] at he hh
        exact ⟨he, hh, hbw⟩
    · simp only [if_true] at he hh ⊢
      exact ⟨he, fun _ => hh trivial, hbw⟩
def btC (a b c d : Bool) (r : Int) : Array Value := #[.bool a, .bool b, .bool c, .bool d, .int .i64 r]
def btV (a b c d : Bool) (r : Int) : Value := .agg #[.bool a, .bool b, .bool c, .bool d, .int .i64 r]
theorem blk_b {w : World} {g : Nat} {a b c d : Bool} {r : Int} {t : TypeId} (h : Blk w g (btC a b c d r) t) : w.cell? ⟨g, 0, none⟩ = some (.bool a) ∧ w.cell? ⟨g, 1, none⟩ = some (.bool b) ∧ w.cell? ⟨g, 2, none⟩ = some (.bool c) ∧ w.cell? ⟨g, 3, none⟩ = some (.bool d) ∧ w.cell? ⟨g, 4, none⟩ = some (.int .i64 r) :=
  ⟨h.cell 0 _ rfl, h.cell 1 _ rfl, h.cell 2 _ rfl, h.cell 3 _ rfl, h.cell 4 _ rfl⟩
theorem heldT_room {w : World} {P : Nat} {n v : Int} {L R T : Bool} {k f s : Int} {Q : Value} {wd : Int} {st : Bool} {TV : Value} {t : TypeId} (h : Blk w P (linC n v L R T k f s Q wd st TV) t) (T' : Bool) : Blk (w.setCell ⟨P, 4, none⟩ (.bool T')) P (linC n v L R T' k f s Q wd st TV) t := h.set1 4 _
set_option maxRecDepth 100000 in
set_option maxHeartbeats 8000000 in
theorem beat_still (n v : Int) (L R T : Bool) (k f : Int) (S : Nat) (q : List (List UInt8)) (wd : Int) (st : Bool) (tk : List (List UInt8)) (lost rep deaf : Bool) (room : Int) (P B : Nat) (w : World) (xr : LS)
    (h : Holds w P B ⟨⟨n, v, L, R, T, k⟩, f, S, q, wd, st, tk⟩) (hB : B ≤ P) (hbr : BrdOk n v k) (hg : GndOk f S q wd) (hr : room = 0 ∨ room = 1 ∨ room = 2)
    (HX : Hid (xr = restS ⟨⟨n, v, L, R, T, k⟩, f, S, q, wd, st, tk⟩ ⟨false, lost, rep, deaf, room⟩)) (PP : Ending → World → Prop) (HPOST : Hid (PP = SidePost P B xr 0 w)) :
    Calls Try.prog 60 #[.pointer (some ⟨P, 0, none⟩), btV false lost rep deaf room] w PP := by
  obtain ⟨A, c, TV, hP, hQ, hc, hA, hT⟩ := h
  simp only at hP hQ hc hT
  have hPl := hP.lt
  unfold btV
  unfold restS roomS at HX
  simp only at HX
  obtain ⟨wa, hwa⟩ : ∃ wa, w.alloc (.cells (btC false lost rep deaf room) 50) = wa := ⟨_, rfl⟩
  have ba : Below w.heap.size w wa := by rw [← hwa]; exact (Below.refl _ _).alloc (Nat.le_refl _) _
  have Ba : Below P w wa := ba.mono (by omega)
  have gP := hP.below ba hPl
  have qA := hQ.below (Ba.mono hB)
  have tA := hT.after ba (by omega)
  have gB : Blk wa w.heap.size (btC false lost rep deaf room) 50 := by rw [← hwa]; exact Blk.new w _ _
  have HG := Lib.hid hg
  have HBR := Lib.hid hbr
  unfold btC at hwa
  clear hP hQ hT ba hg hbr
  rcases hr with rfl | rfl | rfl
  · have d1 : ((0 : Int) == 1) = false := rfl
    have d2 : ((0 : Int) == 2) = false := rfl
    obtain ⟨T', hT'⟩ : ∃ T', T' = T := ⟨_, rfl⟩
    have HXR : Hid (xr = if rep = true ∧ deaf = false then repS ⟨⟨n, v, L, R, T', k⟩, f, S, q, wd, st, tk⟩ else ⟨⟨n, v, L, R, T', k⟩, f, S, q, wd, st, tk⟩) := Lib.hid (by rw [hT', HX.out]; rfl)
    obtain ⟨wb, hwb⟩ : ∃ wb, wa = wb := ⟨_, rfl⟩
    have GB : Hid (Blk wb P (linC n v L R T' k f S (.slice A q.length c) wd st TV) 90) := Lib.hid (by rw [hT', ← hwb]; exact gP)
    have QB : Hid (QR wb B A q) := Lib.hid (by rw [← hwb]; exact qA)
    have TB : Hid (OwnT wb (P + 1) B TV tk) := Lib.hid (by rw [← hwb]; exact tA)
    have BB : Hid (Below P w wb) := Lib.hid (by rw [← hwb]; exact Ba)
    have gW : Blk wb w.heap.size (btC false lost rep deaf 0) 50 := by rw [← hwb]; exact gB
    have hwb2 := hwb.symm
    subst hwb2
    obtain ⟨e0, e1, e2, e3, e4⟩ := blk_b gW
    obtain ⟨b0, b1, b2, b3, b4⟩ := blk_b gB
    clear hT'
    cases rep
    · have HRES : Hid (xr = ⟨⟨n, v, L, R, T', k⟩, f, S, q, wd, st, tk⟩) := Lib.hid (by rw [HXR.out]; rfl)
      go_enter Try.func60, Try.ntmps60
      go_wp2_with fail
      rw [HPOST.out]
      refine ⟨rfl, fun _ => ?_, BB.out⟩
      rw [HRES.out]
      exact ⟨A, c, TV, GB.out, QB.out, hc, hA, TB.out⟩
    · cases deaf
      · have HRES : Hid (xr = repS ⟨⟨n, v, L, R, T', k⟩, f, S, q, wd, st, tk⟩) := Lib.hid (by rw [HXR.out]; rfl)
        go_enter Try.func60, Try.ntmps60
        go_upto_region 11 with fail
        clear e0 e1 e2 e3 e4 d1 d2
        try clear hwb
        have hPb := GB.out.lt
        have hBb : B ≤ wb.heap.size := Nat.le_trans hB (Nat.le_of_lt hPb)
        have HRp := Lib.hid (fun (w1 : World) (hb : Below wb.heap.size wb w1) => (p_report_any n v L R T' k w1).mono fun e w' ⟨he, h2⟩ => (⟨he, hb.trans (h2.mono hb.size)⟩ : e = Ending.returned (ackV n L R T') ∧ Below wb.heap.size wb w'))
        have HHd := Lib.hid (fun (w1 : World) (hb : Below wb.heap.size wb w1) => (p_heard_any f S A q c wd st n L R T' B w1 (Nat.le_trans hBb hb.size) (QB.out.below (hb.mono hBb)) hc hA HG.out.f0 HG.out.f1 HBR.out.n0 HBR.out.n1 (by have := HG.out.s2; omega) HG.out.few).mono fun e w' ⟨A', c', he, hq, hc', hA', h2⟩ => (⟨A', c', he, hq, hc', hA', hb.trans (h2.mono hb.size)⟩ : ∃ A' c', e = Ending.returned (grdV (heardS ⟨f, S, q, wd, st⟩ n L R).f (heardS ⟨f, S, q, wd, st⟩ n L R).s (.slice A' (heardS ⟨f, S, q, wd, st⟩ n L R).q.length c') (heardS ⟨f, S, q, wd, st⟩ n L R).wd (heardS ⟨f, S, q, wd, st⟩ n L R).st) ∧ QR w' B A' (heardS ⟨f, S, q, wd, st⟩ n L R).q ∧ (heardS ⟨f, S, q, wd, st⟩ n L R).q.length ≤ c' ∧ (A' = none → c' = 0) ∧ Below wb.heap.size wb w'))
        have hgs := (heard_ok (st := st) (L := L) (R := R) HG.out HBR.out.n0 HBR.out.n1).s0
        have HRES2 := Lib.hid (HRES.out)
        unfold repS at HRES2
        simp only at HRES2
        generalize heardS ⟨f, S, q, wd, st⟩ n L R = g at *
        obtain ⟨gf, gs, gq, gwd, gst⟩ := g
        simp only at HHd HRES2 hgs
        obtain ⟨GS, rfl⟩ : ∃ GS : Nat, gs = (GS : Int) := ⟨gs.toNat, by omega⟩
        unfold ackV at HRp HHd
        unfold grdV at HHd
        have hbb : Below wb.heap.size wb wb := Below.refl _ _
        obtain ⟨⟨l0, l1, l2, l3, l4, l5⟩, ⟨l6, l7, l8, l9, l10⟩, l11⟩ := blk_l GB.out
        clear HRES hgs
        go_region_law ((first
          | (go_simp; go_at_call 57; refine (HRp.out _ ?_).mono ?_; (first | exact hbb.drew | exact hbb); rintro e w3 ⟨rfl, hb3⟩; have g3 := GB.out.below hb3 hPb; obtain ⟨⟨m0, m1, m2, m3, m4, m5⟩, ⟨m6, m7, m8, m9, m10⟩, m11⟩ := blk_l g3)
          | (go_simp; go_at_call 91; refine (HHd.out _ ?_).mono ?_; (first | exact hb3 | exact hb3.drew); rintro e w4 ⟨A4, c4, rfl, q4, hc4, hA4, hb4⟩; have g4 := GB.out.below hb4 hPb; obtain ⟨-, ⟨i6, i7, i8, i9, i10⟩, -⟩ := blk_l g4; obtain ⟨-, f6, f7, f8, f9, f10, -⟩ := blk_f12 g4)))
        all_goals
          go_wp2_with fail
          rw [HPOST.out]
          have hb4P : Below P wb w4 := hb4.mono (Nat.le_of_lt hPb)
          refine ⟨rfl, fun _ => ?_, five_at (BB.out.trans hb4P) (Nat.le_refl P) _ _ _ _ _ _ _ _ _ _⟩
          rw [HRES2.out]
          exact ⟨A4, c4, TV, g4.ground gf GS (.slice A4 gq.length c4) gwd gst, q4.below (five_at (Below.refl B w4) hB _ _ _ _ _ _ _ _ _ _), hc4, hA4, own_five (TB.out.after hb4 (by omega)) hB _ _ _ _ _ _ _ _ _ _⟩
      · have HRES : Hid (xr = ⟨⟨n, v, L, R, T', k⟩, f, S, q, wd, st, tk⟩) := Lib.hid (by rw [HXR.out]; rfl)
        go_enter Try.func60, Try.ntmps60
        go_wp2_with fail
        rw [HPOST.out]
        refine ⟨rfl, fun _ => ?_, BB.out⟩
        rw [HRES.out]
        exact ⟨A, c, TV, GB.out, QB.out, hc, hA, TB.out⟩
  · have d1 : ((1 : Int) == 1) = true := rfl
    have d2 : ((1 : Int) == 2) = false := rfl
    obtain ⟨T', hT'⟩ : ∃ T', T' = false := ⟨_, rfl⟩
    have HXR : Hid (xr = if rep = true ∧ deaf = false then repS ⟨⟨n, v, L, R, T', k⟩, f, S, q, wd, st, tk⟩ else ⟨⟨n, v, L, R, T', k⟩, f, S, q, wd, st, tk⟩) := Lib.hid (by rw [hT', HX.out]; rfl)
    obtain ⟨wb, hwb⟩ : ∃ wb, wa.setCell ⟨P, 4, none⟩ (.bool false) = wb := ⟨_, rfl⟩
    have GB : Hid (Blk wb P (linC n v L R T' k f S (.slice A q.length c) wd st TV) 90) := Lib.hid (by rw [hT', ← hwb]; exact gP.set1 4 _)
    have QB : Hid (QR wb B A q) := Lib.hid (by rw [← hwb]; exact qA.below ((Below.refl _ _).setCell hB _))
    have TB : Hid (OwnT wb (P + 1) B TV tk) := Lib.hid (by rw [← hwb]; exact tA.set (Nat.lt_succ_self P) hB)
    have BB : Hid (Below P w wb) := Lib.hid (by rw [← hwb]; exact Ba.setCell (Nat.le_refl P) _)
    have gW : Blk wb w.heap.size (btC false lost rep deaf 1) 50 := by rw [← hwb]; exact gB.other (by omega)
    have z4 := (blk_l gP).1.2.2.2.2.1
    have y4 := gP.free 4
    obtain ⟨e0, e1, e2, e3, e4⟩ := blk_b gW
    obtain ⟨b0, b1, b2, b3, b4⟩ := blk_b gB
    clear hT'
    cases rep
    · have HRES : Hid (xr = ⟨⟨n, v, L, R, T', k⟩, f, S, q, wd, st, tk⟩) := Lib.hid (by rw [HXR.out]; rfl)
      go_enter Try.func60, Try.ntmps60
      go_wp2_with fail
      rw [HPOST.out]
      refine ⟨rfl, fun _ => ?_, BB.out⟩
      rw [HRES.out]
      exact ⟨A, c, TV, GB.out, QB.out, hc, hA, TB.out⟩
    · cases deaf
      · have HRES : Hid (xr = repS ⟨⟨n, v, L, R, T', k⟩, f, S, q, wd, st, tk⟩) := Lib.hid (by rw [HXR.out]; rfl)
        go_enter Try.func60, Try.ntmps60
        go_upto_region 11 with fail
        clear e0 e1 e2 e3 e4 d1 d2
        try clear hwb
        have hPb := GB.out.lt
        have hBb : B ≤ wb.heap.size := Nat.le_trans hB (Nat.le_of_lt hPb)
        have HRp := Lib.hid (fun (w1 : World) (hb : Below wb.heap.size wb w1) => (p_report_any n v L R T' k w1).mono fun e w' ⟨he, h2⟩ => (⟨he, hb.trans (h2.mono hb.size)⟩ : e = Ending.returned (ackV n L R T') ∧ Below wb.heap.size wb w'))
        have HHd := Lib.hid (fun (w1 : World) (hb : Below wb.heap.size wb w1) => (p_heard_any f S A q c wd st n L R T' B w1 (Nat.le_trans hBb hb.size) (QB.out.below (hb.mono hBb)) hc hA HG.out.f0 HG.out.f1 HBR.out.n0 HBR.out.n1 (by have := HG.out.s2; omega) HG.out.few).mono fun e w' ⟨A', c', he, hq, hc', hA', h2⟩ => (⟨A', c', he, hq, hc', hA', hb.trans (h2.mono hb.size)⟩ : ∃ A' c', e = Ending.returned (grdV (heardS ⟨f, S, q, wd, st⟩ n L R).f (heardS ⟨f, S, q, wd, st⟩ n L R).s (.slice A' (heardS ⟨f, S, q, wd, st⟩ n L R).q.length c') (heardS ⟨f, S, q, wd, st⟩ n L R).wd (heardS ⟨f, S, q, wd, st⟩ n L R).st) ∧ QR w' B A' (heardS ⟨f, S, q, wd, st⟩ n L R).q ∧ (heardS ⟨f, S, q, wd, st⟩ n L R).q.length ≤ c' ∧ (A' = none → c' = 0) ∧ Below wb.heap.size wb w'))
        have hgs := (heard_ok (st := st) (L := L) (R := R) HG.out HBR.out.n0 HBR.out.n1).s0
        have HRES2 := Lib.hid (HRES.out)
        unfold repS at HRES2
        simp only at HRES2
        generalize heardS ⟨f, S, q, wd, st⟩ n L R = g at *
        obtain ⟨gf, gs, gq, gwd, gst⟩ := g
        simp only at HHd HRES2 hgs
        obtain ⟨GS, rfl⟩ : ∃ GS : Nat, gs = (GS : Int) := ⟨gs.toNat, by omega⟩
        unfold ackV at HRp HHd
        unfold grdV at HHd
        have hbb : Below wb.heap.size wb wb := Below.refl _ _
        obtain ⟨⟨l0, l1, l2, l3, l4, l5⟩, ⟨l6, l7, l8, l9, l10⟩, l11⟩ := blk_l GB.out
        clear HRES hgs
        go_region_law ((first
          | (go_simp; go_at_call 57; refine (HRp.out _ ?_).mono ?_; (first | exact hbb.drew | exact hbb); rintro e w3 ⟨rfl, hb3⟩; have g3 := GB.out.below hb3 hPb; obtain ⟨⟨m0, m1, m2, m3, m4, m5⟩, ⟨m6, m7, m8, m9, m10⟩, m11⟩ := blk_l g3)
          | (go_simp; go_at_call 91; refine (HHd.out _ ?_).mono ?_; (first | exact hb3 | exact hb3.drew); rintro e w4 ⟨A4, c4, rfl, q4, hc4, hA4, hb4⟩; have g4 := GB.out.below hb4 hPb; obtain ⟨-, ⟨i6, i7, i8, i9, i10⟩, -⟩ := blk_l g4; obtain ⟨-, f6, f7, f8, f9, f10, -⟩ := blk_f12 g4)))
        all_goals
          go_wp2_with fail
          rw [HPOST.out]
          have hb4P : Below P wb w4 := hb4.mono (Nat.le_of_lt hPb)
          refine ⟨rfl, fun _ => ?_, five_at (BB.out.trans hb4P) (Nat.le_refl P) _ _ _ _ _ _ _ _ _ _⟩
          rw [HRES2.out]
          exact ⟨A4, c4, TV, g4.ground gf GS (.slice A4 gq.length c4) gwd gst, q4.below (five_at (Below.refl B w4) hB _ _ _ _ _ _ _ _ _ _), hc4, hA4, own_five (TB.out.after hb4 (by omega)) hB _ _ _ _ _ _ _ _ _ _⟩
      · have HRES : Hid (xr = ⟨⟨n, v, L, R, T', k⟩, f, S, q, wd, st, tk⟩) := Lib.hid (by rw [HXR.out]; rfl)
        go_enter Try.func60, Try.ntmps60
        go_wp2_with fail
        rw [HPOST.out]
        refine ⟨rfl, fun _ => ?_, BB.out⟩
        rw [HRES.out]
        exact ⟨A, c, TV, GB.out, QB.out, hc, hA, TB.out⟩
  · have d1 : ((2 : Int) == 1) = false := rfl
    have d2 : ((2 : Int) == 2) = true := rfl
    obtain ⟨T', hT'⟩ : ∃ T', T' = true := ⟨_, rfl⟩
    have HXR : Hid (xr = if rep = true ∧ deaf = false then repS ⟨⟨n, v, L, R, T', k⟩, f, S, q, wd, st, tk⟩ else ⟨⟨n, v, L, R, T', k⟩, f, S, q, wd, st, tk⟩) := Lib.hid (by rw [hT', HX.out]; rfl)
    obtain ⟨wb, hwb⟩ : ∃ wb, wa.setCell ⟨P, 4, none⟩ (.bool true) = wb := ⟨_, rfl⟩
    have GB : Hid (Blk wb P (linC n v L R T' k f S (.slice A q.length c) wd st TV) 90) := Lib.hid (by rw [hT', ← hwb]; exact gP.set1 4 _)
    have QB : Hid (QR wb B A q) := Lib.hid (by rw [← hwb]; exact qA.below ((Below.refl _ _).setCell hB _))
    have TB : Hid (OwnT wb (P + 1) B TV tk) := Lib.hid (by rw [← hwb]; exact tA.set (Nat.lt_succ_self P) hB)
    have BB : Hid (Below P w wb) := Lib.hid (by rw [← hwb]; exact Ba.setCell (Nat.le_refl P) _)
    have gW : Blk wb w.heap.size (btC false lost rep deaf 2) 50 := by rw [← hwb]; exact gB.other (by omega)
    have z4 := (blk_l gP).1.2.2.2.2.1
    have y4 := gP.free 4
    obtain ⟨e0, e1, e2, e3, e4⟩ := blk_b gW
    obtain ⟨b0, b1, b2, b3, b4⟩ := blk_b gB
    clear hT'
    cases rep
    · have HRES : Hid (xr = ⟨⟨n, v, L, R, T', k⟩, f, S, q, wd, st, tk⟩) := Lib.hid (by rw [HXR.out]; rfl)
      go_enter Try.func60, Try.ntmps60
      go_wp2_with fail
      rw [HPOST.out]
      refine ⟨rfl, fun _ => ?_, BB.out⟩
      rw [HRES.out]
      exact ⟨A, c, TV, GB.out, QB.out, hc, hA, TB.out⟩
    · cases deaf
      · have HRES : Hid (xr = repS ⟨⟨n, v, L, R, T', k⟩, f, S, q, wd, st, tk⟩) := Lib.hid (by rw [HXR.out]; rfl)
        go_enter Try.func60, Try.ntmps60
        go_upto_region 11 with fail
        clear e0 e1 e2 e3 e4 d1 d2
        try clear hwb
        have hPb := GB.out.lt
        have hBb : B ≤ wb.heap.size := Nat.le_trans hB (Nat.le_of_lt hPb)
        have HRp := Lib.hid (fun (w1 : World) (hb : Below wb.heap.size wb w1) => (p_report_any n v L R T' k w1).mono fun e w' ⟨he, h2⟩ => (⟨he, hb.trans (h2.mono hb.size)⟩ : e = Ending.returned (ackV n L R T') ∧ Below wb.heap.size wb w'))
        have HHd := Lib.hid (fun (w1 : World) (hb : Below wb.heap.size wb w1) => (p_heard_any f S A q c wd st n L R T' B w1 (Nat.le_trans hBb hb.size) (QB.out.below (hb.mono hBb)) hc hA HG.out.f0 HG.out.f1 HBR.out.n0 HBR.out.n1 (by have := HG.out.s2; omega) HG.out.few).mono fun e w' ⟨A', c', he, hq, hc', hA', h2⟩ => (⟨A', c', he, hq, hc', hA', hb.trans (h2.mono hb.size)⟩ : ∃ A' c', e = Ending.returned (grdV (heardS ⟨f, S, q, wd, st⟩ n L R).f (heardS ⟨f, S, q, wd, st⟩ n L R).s (.slice A' (heardS ⟨f, S, q, wd, st⟩ n L R).q.length c') (heardS ⟨f, S, q, wd, st⟩ n L R).wd (heardS ⟨f, S, q, wd, st⟩ n L R).st) ∧ QR w' B A' (heardS ⟨f, S, q, wd, st⟩ n L R).q ∧ (heardS ⟨f, S, q, wd, st⟩ n L R).q.length ≤ c' ∧ (A' = none → c' = 0) ∧ Below wb.heap.size wb w'))
        have hgs := (heard_ok (st := st) (L := L) (R := R) HG.out HBR.out.n0 HBR.out.n1).s0
        have HRES2 := Lib.hid (HRES.out)
        unfold repS at HRES2
        simp only at HRES2
        generalize heardS ⟨f, S, q, wd, st⟩ n L R = g at *
        obtain ⟨gf, gs, gq, gwd, gst⟩ := g
        simp only at HHd HRES2 hgs
        obtain ⟨GS, rfl⟩ : ∃ GS : Nat, gs = (GS : Int) := ⟨gs.toNat, by omega⟩
        unfold ackV at HRp HHd
        unfold grdV at HHd
        have hbb : Below wb.heap.size wb wb := Below.refl _ _
        obtain ⟨⟨l0, l1, l2, l3, l4, l5⟩, ⟨l6, l7, l8, l9, l10⟩, l11⟩ := blk_l GB.out
        clear HRES hgs
        go_region_law ((first
          | (go_simp; go_at_call 57; refine (HRp.out _ ?_).mono ?_; (first | exact hbb.drew | exact hbb); rintro e w3 ⟨rfl, hb3⟩; have g3 := GB.out.below hb3 hPb; obtain ⟨⟨m0, m1, m2, m3, m4, m5⟩, ⟨m6, m7, m8, m9, m10⟩, m11⟩ := blk_l g3)
          | (go_simp; go_at_call 91; refine (HHd.out _ ?_).mono ?_; (first | exact hb3 | exact hb3.drew); rintro e w4 ⟨A4, c4, rfl, q4, hc4, hA4, hb4⟩; have g4 := GB.out.below hb4 hPb; obtain ⟨-, ⟨i6, i7, i8, i9, i10⟩, -⟩ := blk_l g4; obtain ⟨-, f6, f7, f8, f9, f10, -⟩ := blk_f12 g4)))
        all_goals
          go_wp2_with fail
          rw [HPOST.out]
          have hb4P : Below P wb w4 := hb4.mono (Nat.le_of_lt hPb)
          refine ⟨rfl, fun _ => ?_, five_at (BB.out.trans hb4P) (Nat.le_refl P) _ _ _ _ _ _ _ _ _ _⟩
          rw [HRES2.out]
          exact ⟨A4, c4, TV, g4.ground gf GS (.slice A4 gq.length c4) gwd gst, q4.below (five_at (Below.refl B w4) hB _ _ _ _ _ _ _ _ _ _), hc4, hA4, own_five (TB.out.after hb4 (by omega)) hB _ _ _ _ _ _ _ _ _ _⟩
      · have HRES : Hid (xr = ⟨⟨n, v, L, R, T', k⟩, f, S, q, wd, st, tk⟩) := Lib.hid (by rw [HXR.out]; rfl)
        go_enter Try.func60, Try.ntmps60
        go_wp2_with fail
        rw [HPOST.out]
        refine ⟨rfl, fun _ => ?_, BB.out⟩
        rw [HRES.out]
        exact ⟨A, c, TV, GB.out, QB.out, hc, hA, TB.out⟩
set_option maxRecDepth 100000 in
set_option maxHeartbeats 8000000 in
theorem beat_send (x : LS) (lost rep deaf : Bool) (room : Int) (P B : Nat) (w : World) (xr : LS) (F : Int)
    (h : Holds w P B x) (hB : B ≤ P) (hx : LOk x) (htk : x.tk.length ≤ 100000) (hr : room = 0 ∨ room = 1 ∨ room = 2) (HF : Hid (F = (sendS x lost).2))
    (HX0 : Hid (xr = restS (sendS x lost).1 ⟨true, lost, rep, deaf, room⟩)) (PP : Ending → World → Prop) (HPOST0 : Hid (PP = SidePost P B xr F w)) :
    Calls Try.prog 60 #[.pointer (some ⟨P, 0, none⟩), btV true lost rep deaf room] w PP := by
  obtain ⟨A0, c0, TV0, hP, hQ, hc0, hA0, hT⟩ := h
  have hPl := hP.lt
  have hTV0 : ∀ g, TV0.ownBlock = some g → g < w.heap.size := by
    obtain ⟨ds, -, h2, -⟩ := hT
    exact fun g hg => (World.ownsRow.lt h2 g hg).2
  unfold btV
  obtain ⟨w0, hw0⟩ : ∃ w0, w.alloc (.cells (btC true lost rep deaf room) 50) = w0 := ⟨_, rfl⟩
  have b0 : Below w.heap.size w w0 := by rw [← hw0]; exact (Below.refl _ _).alloc (Nat.le_refl _) _
  have gB0 : Blk w0 w.heap.size (btC true lost rep deaf room) 50 := by rw [← hw0]; exact Blk.new w _ _
  have HS := Lib.hid (send_any x A0 c0 TV0 lost P B w0 (hP.below b0 hPl) (hQ.below (b0.mono (by omega))) hc0 hA0 (hT.after b0 (by omega)) hB hx htk)
  have hok := @send_ok x lost hx
  have HTV := Lib.hid hTV0
  have HOK := Lib.hid hok
  generalize hsx : sendS x lost = Y at *
  obtain ⟨x1, F1⟩ := Y
  simp only at HF HX0 HS HOK
  unfold btC at hw0
  clear hP hQ hc0 hA0 hT hok hx htk hTV0
  obtain ⟨e0, e1, e2, e3, e4⟩ := blk_b gB0
  go_enter Try.func60, Try.ntmps60
  go_wp2_with fail
  refine HS.out.mono ?_
  rintro e wa ⟨⟨rfl, hh, hbw⟩, hfr⟩
  have hBox : Hid (Blk wa w.heap.size (btC true lost rep deaf room) 50) := Lib.hid ((hfr w.heap.size gB0.lt (by omega) (fun e => by have := HTV.out _ e; omega)).trans gB0)
  clear hw0 e0 e1 e2 e3 e4 HS
  have Ba : Below P w wa := (b0.mono (by omega)).trans hbw
  by_cases hF1 : F1 = 0
  · have d0 : (F1 != 0) = false := by simpa using hF1
    have hh1 := hh hF1
    have hok1 := HOK.out hF1
    have HF0 : Hid (F = 0) := Lib.hid (by rw [HF.out, hF1])
    have HPOST : Hid (PP = SidePost P B xr 0 w) := Lib.hid (by rw [HPOST0.out, HF0.out])
    have gB : Blk wa w.heap.size (btC true lost rep deaf room) 50 := hBox.out
    clear hF1 HOK hh hbw HPOST0 HF HF0 gB0 b0 hsx
    obtain ⟨⟨n, v, L, R, T, k⟩, f, S, q, wd, st, tk⟩ := x1
    have HX := HX0
    unfold restS roomS at HX
    simp only at HX
    clear HX0
    obtain ⟨A, c, TV, gP, qA, hc, hA, tA⟩ := hh1
    obtain ⟨hbr, hg⟩ := hok1
    simp only at gP qA hc tA hbr hg
    have HG := Lib.hid hg
    have HBR := Lib.hid hbr
    clear hg hbr
    rcases hr with rfl | rfl | rfl
    · have d1 : ((0 : Int) == 1) = false := rfl
      have d2 : ((0 : Int) == 2) = false := rfl
      obtain ⟨T', hT'⟩ : ∃ T', T' = T := ⟨_, rfl⟩
      have HXR : Hid (xr = if rep = true ∧ deaf = false then repS ⟨⟨n, v, L, R, T', k⟩, f, S, q, wd, st, tk⟩ else ⟨⟨n, v, L, R, T', k⟩, f, S, q, wd, st, tk⟩) := Lib.hid (by rw [hT', HX.out]; rfl)
      obtain ⟨wb, hwb⟩ : ∃ wb, wa = wb := ⟨_, rfl⟩
      have GB : Hid (Blk wb P (linC n v L R T' k f S (.slice A q.length c) wd st TV) 90) := Lib.hid (by rw [hT', ← hwb]; exact gP)
      have QB : Hid (QR wb B A q) := Lib.hid (by rw [← hwb]; exact qA)
      have TB : Hid (OwnT wb (P + 1) B TV tk) := Lib.hid (by rw [← hwb]; exact tA)
      have BB : Hid (Below P w wb) := Lib.hid (by rw [← hwb]; exact Ba)
      have gW : Blk wb w.heap.size (btC true lost rep deaf 0) 50 := by rw [← hwb]; exact gB
      have hwb2 := hwb.symm
      subst hwb2
      obtain ⟨e0, e1, e2, e3, e4⟩ := blk_b gW
      obtain ⟨b0, b1, b2, b3, b4⟩ := blk_b gB
      clear hT'
      cases rep
      · have HRES : Hid (xr = ⟨⟨n, v, L, R, T', k⟩, f, S, q, wd, st, tk⟩) := Lib.hid (by rw [HXR.out]; rfl)
        go_wp2_with fail
        rw [HPOST.out]
        refine ⟨rfl, fun _ => ?_, BB.out⟩
        rw [HRES.out]
        exact ⟨A, c, TV, GB.out, QB.out, hc, hA, TB.out⟩
      · cases deaf
        · have HRES : Hid (xr = repS ⟨⟨n, v, L, R, T', k⟩, f, S, q, wd, st, tk⟩) := Lib.hid (by rw [HXR.out]; rfl)
          go_upto_region 11 with fail
          clear e0 e1 e2 e3 e4 d1 d2
          try clear hwb
          have hPb := GB.out.lt
          have hBb : B ≤ wb.heap.size := Nat.le_trans hB (Nat.le_of_lt hPb)
          have HRp := Lib.hid (fun (w1 : World) (hb : Below wb.heap.size wb w1) => (p_report_any n v L R T' k w1).mono fun e w' ⟨he, h2⟩ => (⟨he, hb.trans (h2.mono hb.size)⟩ : e = Ending.returned (ackV n L R T') ∧ Below wb.heap.size wb w'))
          have HHd := Lib.hid (fun (w1 : World) (hb : Below wb.heap.size wb w1) => (p_heard_any f S A q c wd st n L R T' B w1 (Nat.le_trans hBb hb.size) (QB.out.below (hb.mono hBb)) hc hA HG.out.f0 HG.out.f1 HBR.out.n0 HBR.out.n1 (by have := HG.out.s2; omega) HG.out.few).mono fun e w' ⟨A', c', he, hq, hc', hA', h2⟩ => (⟨A', c', he, hq, hc', hA', hb.trans (h2.mono hb.size)⟩ : ∃ A' c', e = Ending.returned (grdV (heardS ⟨f, S, q, wd, st⟩ n L R).f (heardS ⟨f, S, q, wd, st⟩ n L R).s (.slice A' (heardS ⟨f, S, q, wd, st⟩ n L R).q.length c') (heardS ⟨f, S, q, wd, st⟩ n L R).wd (heardS ⟨f, S, q, wd, st⟩ n L R).st) ∧ QR w' B A' (heardS ⟨f, S, q, wd, st⟩ n L R).q ∧ (heardS ⟨f, S, q, wd, st⟩ n L R).q.length ≤ c' ∧ (A' = none → c' = 0) ∧ Below wb.heap.size wb w'))
          have hgs := (heard_ok (st := st) (L := L) (R := R) HG.out HBR.out.n0 HBR.out.n1).s0
          have HRES2 := Lib.hid (HRES.out)
          unfold repS at HRES2
          simp only at HRES2
          generalize heardS ⟨f, S, q, wd, st⟩ n L R = g at *
          obtain ⟨gf, gs, gq, gwd, gst⟩ := g
          simp only at HHd HRES2 hgs
          obtain ⟨GS, rfl⟩ : ∃ GS : Nat, gs = (GS : Int) := ⟨gs.toNat, by omega⟩
          unfold ackV at HRp HHd
          unfold grdV at HHd
          have hbb : Below wb.heap.size wb wb := Below.refl _ _
          obtain ⟨⟨l0, l1, l2, l3, l4, l5⟩, ⟨l6, l7, l8, l9, l10⟩, l11⟩ := blk_l GB.out
          clear HRES hgs
          go_region_law ((first
            | (go_simp; go_at_call 57; refine (HRp.out _ ?_).mono ?_; (first | exact hbb.drew | exact hbb); rintro e w3 ⟨rfl, hb3⟩; have g3 := GB.out.below hb3 hPb; obtain ⟨⟨m0, m1, m2, m3, m4, m5⟩, ⟨m6, m7, m8, m9, m10⟩, m11⟩ := blk_l g3)
            | (go_simp; go_at_call 91; refine (HHd.out _ ?_).mono ?_; (first | exact hb3 | exact hb3.drew); rintro e w4 ⟨A4, c4, rfl, q4, hc4, hA4, hb4⟩; have g4 := GB.out.below hb4 hPb; obtain ⟨-, ⟨i6, i7, i8, i9, i10⟩, -⟩ := blk_l g4; obtain ⟨-, f6, f7, f8, f9, f10, -⟩ := blk_f12 g4)))
          all_goals
            go_wp2_with fail
            rw [HPOST.out]
            have hb4P : Below P wb w4 := hb4.mono (Nat.le_of_lt hPb)
            refine ⟨rfl, fun _ => ?_, five_at (BB.out.trans hb4P) (Nat.le_refl P) _ _ _ _ _ _ _ _ _ _⟩
            rw [HRES2.out]
            exact ⟨A4, c4, TV, g4.ground gf GS (.slice A4 gq.length c4) gwd gst, q4.below (five_at (Below.refl B w4) hB _ _ _ _ _ _ _ _ _ _), hc4, hA4, own_five (TB.out.after hb4 (by omega)) hB _ _ _ _ _ _ _ _ _ _⟩
        · have HRES : Hid (xr = ⟨⟨n, v, L, R, T', k⟩, f, S, q, wd, st, tk⟩) := Lib.hid (by rw [HXR.out]; rfl)
          go_wp2_with fail
          rw [HPOST.out]
          refine ⟨rfl, fun _ => ?_, BB.out⟩
          rw [HRES.out]
          exact ⟨A, c, TV, GB.out, QB.out, hc, hA, TB.out⟩
    · have d1 : ((1 : Int) == 1) = true := rfl
      have d2 : ((1 : Int) == 2) = false := rfl
      obtain ⟨T', hT'⟩ : ∃ T', T' = false := ⟨_, rfl⟩
      have HXR : Hid (xr = if rep = true ∧ deaf = false then repS ⟨⟨n, v, L, R, T', k⟩, f, S, q, wd, st, tk⟩ else ⟨⟨n, v, L, R, T', k⟩, f, S, q, wd, st, tk⟩) := Lib.hid (by rw [hT', HX.out]; rfl)
      obtain ⟨wb, hwb⟩ : ∃ wb, wa.setCell ⟨P, 4, none⟩ (.bool false) = wb := ⟨_, rfl⟩
      have GB : Hid (Blk wb P (linC n v L R T' k f S (.slice A q.length c) wd st TV) 90) := Lib.hid (by rw [hT', ← hwb]; exact gP.set1 4 _)
      have QB : Hid (QR wb B A q) := Lib.hid (by rw [← hwb]; exact qA.below ((Below.refl _ _).setCell hB _))
      have TB : Hid (OwnT wb (P + 1) B TV tk) := Lib.hid (by rw [← hwb]; exact tA.set (Nat.lt_succ_self P) hB)
      have BB : Hid (Below P w wb) := Lib.hid (by rw [← hwb]; exact Ba.setCell (Nat.le_refl P) _)
      have gW : Blk wb w.heap.size (btC true lost rep deaf 1) 50 := by rw [← hwb]; exact gB.other (by omega)
      have z4 := (blk_l gP).1.2.2.2.2.1
      have y4 := gP.free 4
      obtain ⟨e0, e1, e2, e3, e4⟩ := blk_b gW
      obtain ⟨b0, b1, b2, b3, b4⟩ := blk_b gB
      clear hT'
      cases rep
      · have HRES : Hid (xr = ⟨⟨n, v, L, R, T', k⟩, f, S, q, wd, st, tk⟩) := Lib.hid (by rw [HXR.out]; rfl)
        go_wp2_with fail
        rw [HPOST.out]
        refine ⟨rfl, fun _ => ?_, BB.out⟩
        rw [HRES.out]
        exact ⟨A, c, TV, GB.out, QB.out, hc, hA, TB.out⟩
      · cases deaf
        · have HRES : Hid (xr = repS ⟨⟨n, v, L, R, T', k⟩, f, S, q, wd, st, tk⟩) := Lib.hid (by rw [HXR.out]; rfl)
          go_upto_region 11 with fail
          clear e0 e1 e2 e3 e4 d1 d2
          try clear hwb
          have hPb := GB.out.lt
          have hBb : B ≤ wb.heap.size := Nat.le_trans hB (Nat.le_of_lt hPb)
          have HRp := Lib.hid (fun (w1 : World) (hb : Below wb.heap.size wb w1) => (p_report_any n v L R T' k w1).mono fun e w' ⟨he, h2⟩ => (⟨he, hb.trans (h2.mono hb.size)⟩ : e = Ending.returned (ackV n L R T') ∧ Below wb.heap.size wb w'))
          have HHd := Lib.hid (fun (w1 : World) (hb : Below wb.heap.size wb w1) => (p_heard_any f S A q c wd st n L R T' B w1 (Nat.le_trans hBb hb.size) (QB.out.below (hb.mono hBb)) hc hA HG.out.f0 HG.out.f1 HBR.out.n0 HBR.out.n1 (by have := HG.out.s2; omega) HG.out.few).mono fun e w' ⟨A', c', he, hq, hc', hA', h2⟩ => (⟨A', c', he, hq, hc', hA', hb.trans (h2.mono hb.size)⟩ : ∃ A' c', e = Ending.returned (grdV (heardS ⟨f, S, q, wd, st⟩ n L R).f (heardS ⟨f, S, q, wd, st⟩ n L R).s (.slice A' (heardS ⟨f, S, q, wd, st⟩ n L R).q.length c') (heardS ⟨f, S, q, wd, st⟩ n L R).wd (heardS ⟨f, S, q, wd, st⟩ n L R).st) ∧ QR w' B A' (heardS ⟨f, S, q, wd, st⟩ n L R).q ∧ (heardS ⟨f, S, q, wd, st⟩ n L R).q.length ≤ c' ∧ (A' = none → c' = 0) ∧ Below wb.heap.size wb w'))
          have hgs := (heard_ok (st := st) (L := L) (R := R) HG.out HBR.out.n0 HBR.out.n1).s0
          have HRES2 := Lib.hid (HRES.out)
          unfold repS at HRES2
          simp only at HRES2
          generalize heardS ⟨f, S, q, wd, st⟩ n L R = g at *
          obtain ⟨gf, gs, gq, gwd, gst⟩ := g
          simp only at HHd HRES2 hgs
          obtain ⟨GS, rfl⟩ : ∃ GS : Nat, gs = (GS : Int) := ⟨gs.toNat, by omega⟩
          unfold ackV at HRp HHd
          unfold grdV at HHd
          have hbb : Below wb.heap.size wb wb := Below.refl _ _
          obtain ⟨⟨l0, l1, l2, l3, l4, l5⟩, ⟨l6, l7, l8, l9, l10⟩, l11⟩ := blk_l GB.out
          clear HRES hgs
          go_region_law ((first
            | (go_simp; go_at_call 57; refine (HRp.out _ ?_).mono ?_; (first | exact hbb.drew | exact hbb); rintro e w3 ⟨rfl, hb3⟩; have g3 := GB.out.below hb3 hPb; obtain ⟨⟨m0, m1, m2, m3, m4, m5⟩, ⟨m6, m7, m8, m9, m10⟩, m11⟩ := blk_l g3)
            | (go_simp; go_at_call 91; refine (HHd.out _ ?_).mono ?_; (first | exact hb3 | exact hb3.drew); rintro e w4 ⟨A4, c4, rfl, q4, hc4, hA4, hb4⟩; have g4 := GB.out.below hb4 hPb; obtain ⟨-, ⟨i6, i7, i8, i9, i10⟩, -⟩ := blk_l g4; obtain ⟨-, f6, f7, f8, f9, f10, -⟩ := blk_f12 g4)))
          all_goals
            go_wp2_with fail
            rw [HPOST.out]
            have hb4P : Below P wb w4 := hb4.mono (Nat.le_of_lt hPb)
            refine ⟨rfl, fun _ => ?_, five_at (BB.out.trans hb4P) (Nat.le_refl P) _ _ _ _ _ _ _ _ _ _⟩
            rw [HRES2.out]
            exact ⟨A4, c4, TV, g4.ground gf GS (.slice A4 gq.length c4) gwd gst, q4.below (five_at (Below.refl B w4) hB _ _ _ _ _ _ _ _ _ _), hc4, hA4, own_five (TB.out.after hb4 (by omega)) hB _ _ _ _ _ _ _ _ _ _⟩
        · have HRES : Hid (xr = ⟨⟨n, v, L, R, T', k⟩, f, S, q, wd, st, tk⟩) := Lib.hid (by rw [HXR.out]; rfl)
          go_wp2_with fail
          rw [HPOST.out]
          refine ⟨rfl, fun _ => ?_, BB.out⟩
          rw [HRES.out]
          exact ⟨A, c, TV, GB.out, QB.out, hc, hA, TB.out⟩
    · have d1 : ((2 : Int) == 1) = false := rfl
      have d2 : ((2 : Int) == 2) = true := rfl
      obtain ⟨T', hT'⟩ : ∃ T', T' = true := ⟨_, rfl⟩
      have HXR : Hid (xr = if rep = true ∧ deaf = false then repS ⟨⟨n, v, L, R, T', k⟩, f, S, q, wd, st, tk⟩ else ⟨⟨n, v, L, R, T', k⟩, f, S, q, wd, st, tk⟩) := Lib.hid (by rw [hT', HX.out]; rfl)
      obtain ⟨wb, hwb⟩ : ∃ wb, wa.setCell ⟨P, 4, none⟩ (.bool true) = wb := ⟨_, rfl⟩
      have GB : Hid (Blk wb P (linC n v L R T' k f S (.slice A q.length c) wd st TV) 90) := Lib.hid (by rw [hT', ← hwb]; exact gP.set1 4 _)
      have QB : Hid (QR wb B A q) := Lib.hid (by rw [← hwb]; exact qA.below ((Below.refl _ _).setCell hB _))
      have TB : Hid (OwnT wb (P + 1) B TV tk) := Lib.hid (by rw [← hwb]; exact tA.set (Nat.lt_succ_self P) hB)
      have BB : Hid (Below P w wb) := Lib.hid (by rw [← hwb]; exact Ba.setCell (Nat.le_refl P) _)
      have gW : Blk wb w.heap.size (btC true lost rep deaf 2) 50 := by rw [← hwb]; exact gB.other (by omega)
      have z4 := (blk_l gP).1.2.2.2.2.1
      have y4 := gP.free 4
      obtain ⟨e0, e1, e2, e3, e4⟩ := blk_b gW
      obtain ⟨b0, b1, b2, b3, b4⟩ := blk_b gB
      clear hT'
      cases rep
      · have HRES : Hid (xr = ⟨⟨n, v, L, R, T', k⟩, f, S, q, wd, st, tk⟩) := Lib.hid (by rw [HXR.out]; rfl)
        go_wp2_with fail
        rw [HPOST.out]
        refine ⟨rfl, fun _ => ?_, BB.out⟩
        rw [HRES.out]
        exact ⟨A, c, TV, GB.out, QB.out, hc, hA, TB.out⟩
      · cases deaf
        · have HRES : Hid (xr = repS ⟨⟨n, v, L, R, T', k⟩, f, S, q, wd, st, tk⟩) := Lib.hid (by rw [HXR.out]; rfl)
          go_upto_region 11 with fail
          clear e0 e1 e2 e3 e4 d1 d2
          try clear hwb
          have hPb := GB.out.lt
          have hBb : B ≤ wb.heap.size := Nat.le_trans hB (Nat.le_of_lt hPb)
          have HRp := Lib.hid (fun (w1 : World) (hb : Below wb.heap.size wb w1) => (p_report_any n v L R T' k w1).mono fun e w' ⟨he, h2⟩ => (⟨he, hb.trans (h2.mono hb.size)⟩ : e = Ending.returned (ackV n L R T') ∧ Below wb.heap.size wb w'))
          have HHd := Lib.hid (fun (w1 : World) (hb : Below wb.heap.size wb w1) => (p_heard_any f S A q c wd st n L R T' B w1 (Nat.le_trans hBb hb.size) (QB.out.below (hb.mono hBb)) hc hA HG.out.f0 HG.out.f1 HBR.out.n0 HBR.out.n1 (by have := HG.out.s2; omega) HG.out.few).mono fun e w' ⟨A', c', he, hq, hc', hA', h2⟩ => (⟨A', c', he, hq, hc', hA', hb.trans (h2.mono hb.size)⟩ : ∃ A' c', e = Ending.returned (grdV (heardS ⟨f, S, q, wd, st⟩ n L R).f (heardS ⟨f, S, q, wd, st⟩ n L R).s (.slice A' (heardS ⟨f, S, q, wd, st⟩ n L R).q.length c') (heardS ⟨f, S, q, wd, st⟩ n L R).wd (heardS ⟨f, S, q, wd, st⟩ n L R).st) ∧ QR w' B A' (heardS ⟨f, S, q, wd, st⟩ n L R).q ∧ (heardS ⟨f, S, q, wd, st⟩ n L R).q.length ≤ c' ∧ (A' = none → c' = 0) ∧ Below wb.heap.size wb w'))
          have hgs := (heard_ok (st := st) (L := L) (R := R) HG.out HBR.out.n0 HBR.out.n1).s0
          have HRES2 := Lib.hid (HRES.out)
          unfold repS at HRES2
          simp only at HRES2
          generalize heardS ⟨f, S, q, wd, st⟩ n L R = g at *
          obtain ⟨gf, gs, gq, gwd, gst⟩ := g
          simp only at HHd HRES2 hgs
          obtain ⟨GS, rfl⟩ : ∃ GS : Nat, gs = (GS : Int) := ⟨gs.toNat, by omega⟩
          unfold ackV at HRp HHd
          unfold grdV at HHd
          have hbb : Below wb.heap.size wb wb := Below.refl _ _
          obtain ⟨⟨l0, l1, l2, l3, l4, l5⟩, ⟨l6, l7, l8, l9, l10⟩, l11⟩ := blk_l GB.out
          clear HRES hgs
          go_region_law ((first
            | (go_simp; go_at_call 57; refine (HRp.out _ ?_).mono ?_; (first | exact hbb.drew | exact hbb); rintro e w3 ⟨rfl, hb3⟩; have g3 := GB.out.below hb3 hPb; obtain ⟨⟨m0, m1, m2, m3, m4, m5⟩, ⟨m6, m7, m8, m9, m10⟩, m11⟩ := blk_l g3)
            | (go_simp; go_at_call 91; refine (HHd.out _ ?_).mono ?_; (first | exact hb3 | exact hb3.drew); rintro e w4 ⟨A4, c4, rfl, q4, hc4, hA4, hb4⟩; have g4 := GB.out.below hb4 hPb; obtain ⟨-, ⟨i6, i7, i8, i9, i10⟩, -⟩ := blk_l g4; obtain ⟨-, f6, f7, f8, f9, f10, -⟩ := blk_f12 g4)))
          all_goals
            go_wp2_with fail
            rw [HPOST.out]
            have hb4P : Below P wb w4 := hb4.mono (Nat.le_of_lt hPb)
            refine ⟨rfl, fun _ => ?_, five_at (BB.out.trans hb4P) (Nat.le_refl P) _ _ _ _ _ _ _ _ _ _⟩
            rw [HRES2.out]
            exact ⟨A4, c4, TV, g4.ground gf GS (.slice A4 gq.length c4) gwd gst, q4.below (five_at (Below.refl B w4) hB _ _ _ _ _ _ _ _ _ _), hc4, hA4, own_five (TB.out.after hb4 (by omega)) hB _ _ _ _ _ _ _ _ _ _⟩
        · have HRES : Hid (xr = ⟨⟨n, v, L, R, T', k⟩, f, S, q, wd, st, tk⟩) := Lib.hid (by rw [HXR.out]; rfl)
          go_wp2_with fail
          rw [HPOST.out]
          refine ⟨rfl, fun _ => ?_, BB.out⟩
          rw [HRES.out]
          exact ⟨A, c, TV, GB.out, QB.out, hc, hA, TB.out⟩
  · have d0 : (F1 != 0) = true := by simpa using hF1
    go_wp2_with fail
    rw [HPOST0.out]
    refine ⟨by rw [HF.out]; rfl, fun h => absurd (by rw [← HF.out]; exact h) hF1, Ba⟩
end Go.Proofs.Yteikggieekhfkaa
