/- the program's Needed. -/
import Derived.Test.YteikggieekhfkaaRunP
import Derived.Test.YteikggieekhfkaaFullMath
namespace Go.Proofs.Yteikggieekhfkaa
open Go.RowKit

/-- how many beats: k so far, at most m more -/
def needS : LS → Nat → Nat → Int × Bool × Int
  | x, k, 0 => if x.q.length = 0 then ((k : Int), true, 0) else (0, false, 0)
  | x, k, m + 1 => if x.q.length = 0 then ((k : Int), true, 0) else if (beatS x fullB).2 ≠ 0 then (0, false, (beatS x fullB).2) else needS (beatS x fullB).1 (k + 1) m
theorem need_none {x : LS} {k m : Nat} (h : x.q.length = 0) : needS x k m = ((k : Int), true, 0) := by
  cases m <;> simp [needS, h]
/-- what Needed answers -/
def needR (C most : Int) (x : LS) : Int × Bool × Int := if C ≠ 0 then (0, false, C) else if ¬ (0 ≤ most ∧ most ≤ 2000) then (0, false, 1) else needS x 0 most.toNat
def triV (t : Int × Bool × Int) : Value := .tuple #[.int .i64 t.1, .bool t.2.1, .int .i64 t.2.2]
set_option maxRecDepth 100000 in
set_option maxHeartbeats 8000000 in
theorem needed_any (n v : Int) (L R T : Bool) (k f : Int) (s : Int) (A : Option Addr) (q : List (List UInt8)) (c : Nat) (wd : Int) (st : Bool) (most : Int) (B : Nat) (w : World) (hB : B ≤ w.heap.size) (hl : q.length ≤ 9223372036854775807) (hc : q.length ≤ c) (hA : A = none → c = 0) (h : QR w B A q) :
    Calls Try.prog 27 #[uplV n v L R T k, grdV f s (.slice A q.length c) wd st, .int .i64 most] w
      fun e w' => e = .returned (triV (needR (bothS n v k f s q wd) most ⟨⟨n, v, L, R, T, k⟩, f, s.toNat, q, wd, st, []⟩)) ∧ Below w.heap.size w w' := by
  obtain ⟨w0, hw0⟩ : ∃ w0, (w.alloc (.cells (uplC n v L R T k) 23)).alloc (.cells (grdC f s (.slice A q.length c) wd st) 41) = w0 := ⟨_, rfl⟩
  have b0 : Below w.heap.size w w0 := by rw [← hw0]; exact ((Below.refl _ _).alloc (Nat.le_refl _) _).alloc (by simp) _
  have z0 : w0.heap.size = w.heap.size + 2 := by rw [← hw0]; simp
  have g0 : Blk w0 w.heap.size (uplC n v L R T k) 23 := by rw [← hw0]; exact (Blk.new w _ _).alloc _
  have g1 : Blk w0 (w.heap.size + 1) (grdC f s (.slice A q.length c) wd st) 41 := by rw [← hw0]; exact Blk.snd w _ _ _
  have HC := Lib.hid (checkBoth_any n v L R T k f s A q c wd st B w0 (by omega) hl (h.below (b0.mono hB)))
  obtain ⟨X, hX⟩ : ∃ X, needR (bothS n v k f s q wd) most ⟨⟨n, v, L, R, T, k⟩, f, s.toNat, q, wd, st, []⟩ = X := ⟨_, rfl⟩
  rw [hX]
  have HX := Lib.hid hX
  have hok := @both_ok n v k f s q wd
  unfold needR at HX
  generalize bothS n v k f s q wd = C at *
  unfold uplV grdV at *
  unfold uplC grdC at hw0
  clear hX
  obtain ⟨p0, p1, p2, p3, p4, p5⟩ := blk_u g0
  obtain ⟨q0, q1, q2, q3, q4⟩ := blk_g g1
  by_cases hC : C = 0
  · obtain ⟨hbr, hg⟩ := hok hC
    have d1 : (C != 0) = false := by simpa using hC
    by_cases hm : 0 ≤ most ∧ most ≤ 2000
    · obtain ⟨S, rfl⟩ : ∃ S : Nat, s = (S : Int) := ⟨s.toNat, by have := hg.s0; omega⟩
      obtain ⟨M, rfl⟩ : ∃ M : Nat, most = (M : Int) := ⟨most.toNat, by omega⟩
      have HX2 : Hid (X = needS ⟨⟨n, v, L, R, T, k⟩, f, S, q, wd, st, []⟩ 0 M) := Lib.hid (by rw [← HX.out, if_neg (by simpa using hC), if_neg (by simpa using hm), Int.toNat_natCast, Int.toNat_natCast])
      obtain ⟨x0, hx0⟩ : ∃ x0 : LS, x0 = ⟨⟨n, v, L, R, T, k⟩, f, S, q, wd, st, []⟩ := ⟨_, rfl⟩
      rw [← hx0] at HX2
      have hok0 : LOk x0 := by rw [hx0]; exact ⟨hbr, hg⟩
      have hM : M ≤ 2000 := by omega
      have m0 : (0 : Int) ≤ (M : Int) := by omega
      have m1 : (M : Int) ≤ 2000 := by omega
      clear HX hok hC hbr hg hm
      go_enter Try.func27, Try.ntmps27
      go_wp2_with fail
      refine HC.out.mono ?_
      rintro e w1 ⟨rfl, hb1⟩
      clear hw0 p0 p1 p2 p3 p4 p5 q0 q1 q2 q3 q4 HC
      have g0 := g0.below hb1 g0.lt
      have g1 := g1.below hb1 g1.lt
      have B1 := b0.trans (hb1.mono b0.size)
      have z1 : w.heap.size + 2 ≤ w1.heap.size := by have := hb1.size; omega
      obtain ⟨p0, p1, p2, p3, p4, p5⟩ := blk_u g0
      obtain ⟨q0, q1, q2, q3, q4⟩ := blk_g g1
      obtain ⟨wP, hwP⟩ : ∃ wP, w1.alloc (.cells (linC n v L R T k f S (.slice A q.length c) wd st (.slice none 0 0)) 90) = wP := ⟨_, rfl⟩
      have bP : Below w1.heap.size w1 wP := by rw [← hwP]; exact (Below.refl _ _).alloc (Nat.le_refl _) _
      have gP : Blk wP w1.heap.size (linC n v L R T k f S (.slice A q.length c) wd st (.slice none 0 0)) 90 := by rw [← hwP]; exact Blk.new w1 _ _
      have hH0 : Holds wP w1.heap.size B x0 := by
        rw [hx0]
        exact ⟨A, c, _, gP, (h.below (B1.mono hB)).below (bP.mono (by omega)), hc, hA, OwnT.nil _ _ _⟩
      have BP := B1.trans (bP.mono B1.size)
      have ht0 : x0.tk = [] := by rw [hx0]
      have HT0 := Lib.hid ht0
      unfold linC at hwP
      have HWP := Lib.hid hwP
      clear hwP hb1 g0 g1 gP bP hx0 ht0 B1 b0
      go_wp2_with (first | (go_at_call 55; refine (p_within_any _ _ _ _).mono ?_; rintro e w' ⟨rfl, rfl⟩) | fail)
      have hwP := HWP.out
      rw [hwP]
      clear hwP p0 p1 p2 p3 p4 p5 q0 q1 q2 q3 q4
      go_loopw [11] (fun i wr => ∃ (j : Nat) (x : LS), j ≤ M ∧ i = .int .i64 j ∧ Holds wr w1.heap.size B x ∧ LOk x ∧ needS x0 0 M = needS x j (M - j) ∧ x.tk.length ≤ j ∧ (∀ y ∈ x.tk, y.length ≤ 200) ∧ Below w1.heap.size wP wr) (fun i _ => M + 1 - (intOf i).toNat)
      case atStart => exact ⟨0, x0, Nat.zero_le _, rfl, hH0, hok0, rfl, by rw [HT0.out]; exact Nat.le_refl _, by rw [HT0.out]; simp, Below.refl _ _⟩
      case round =>
        obtain ⟨j, x, hj, rfl, hH, hokx, hrun, htl, htb, hbr⟩ := hrel
        obtain ⟨A9, c9, TV9, gx, qx, hcx, hax, tx⟩ := hH
        have hPl := gx.lt
        have hq8 : wr.cell? ⟨w1.heap.size, 8, none⟩ = some (.slice A9 x.q.length c9) := gx.cell 8 _ rfl
        obtain ⟨N, hN⟩ : ∃ N, x.q.length = N := ⟨_, rfl⟩
        rw [hN] at hq8
        have BE := BP.trans (hbr.mono (by omega))
        by_cases hq0 : N = 0
        · have i0 : ¬ (0 : Int) < (N : Int) := by omega
          have HX3 : Hid (X = ((j : Int), true, 0)) := Lib.hid (by rw [HX2.out, hrun, need_none (by omega)])
          clear hrun hq0 gx qx tx hokx hN htb htl
          go_wp2_with fail
          go_ret3
          rw [HX3.out]
          exact ⟨rfl, BE⟩
        · have i0 : (0 : Int) < (N : Int) := by omega
          by_cases hjM : j = M
          · have i1 : ((j : Int) == (M : Int)) = true := by rw [beq_iff_eq]; omega
            have HX3 : Hid (X = (0, false, 0)) := Lib.hid (by rw [HX2.out, hrun, hjM, Nat.sub_self, needS, if_neg (by omega)])
            clear hrun hq0 gx qx tx hokx hN htb htl hjM
            go_wp2_with fail
            go_ret3
            rw [HX3.out]
            exact ⟨rfl, BE⟩
          · have i1 : ((j : Int) == (M : Int)) = false := by rw [beq_eq_false_iff_ne]; omega
            have hstep : needS x j (M - j) = if (beatS x fullB).2 ≠ 0 then (0, false, (beatS x fullB).2) else needS (beatS x fullB).1 (j + 1) (M - (j + 1)) := by
              rw [show M - j = (M - (j + 1)) + 1 by omega, needS, if_neg (by omega)]
            have HBT := Lib.hid (beat_any x fullB w1.heap.size B wr ⟨A9, c9, TV9, gx, qx, hcx, hax, tx⟩ (by omega) hokx (by omega) rfl)
            have hbok := @beat_ok x fullB hokx
            have hbtk := @beat_tk x fullB hokx htb
            unfold Bt.val btV at HBT
            obtain ⟨Y, hY⟩ : ∃ Y, beatS x fullB = Y := ⟨_, rfl⟩
            rw [hY] at HBT hbok hbtk hstep
            obtain ⟨y, F⟩ := Y
            unfold fullB at HBT
            simp only at HBT hbok hbtk hstep
            have HR := Lib.hid (hrun.trans hstep)
            have HOKB := Lib.hid hbok
            have HTKB := Lib.hid hbtk
            have hjl : j + 1 ≤ M := by omega
            clear hY hrun hstep hbok hbtk hokx htb gx qx tx hN hjM
            by_cases hF : F = 0
            · have d2 : (F != 0) = false := by simpa using hF
              have HF := Lib.hid hF
              clear hF
              go_wp2_with fail
              refine HBT.out.mono ?_
              rintro e w2 ⟨rfl, hh2, hb2⟩
              have hh3 := Lib.hid (hh2 HF.out)
              clear hh2
              go_wp2_with fail
              go_roundw
              case rel => exact ⟨j + 1, y, hjl, by go_num, hh3.out, HOKB.out HF.out, by rw [HR.out, if_neg (by simpa using HF.out)], by have := HTKB.out.2; omega, HTKB.out.1, hbr.trans hb2⟩
              case measure => simp [intOf]; omega
            · have d2 : (F != 0) = true := by simpa using hF
              have HX3 : Hid (X = (0, false, F)) := Lib.hid (by rw [HX2.out, HR.out, if_pos hF])
              clear hF
              go_wp2_with fail
              refine HBT.out.mono ?_
              rintro e w2 ⟨rfl, hh2, hb2⟩
              have BZ := BP.trans ((hbr.trans hb2).mono (by omega))
              clear hh2 hb2
              go_wp2_with fail
              go_ret3
              rw [HX3.out]
              exact ⟨rfl, BZ⟩
    · have dm : decide (0 ≤ most ∧ most ≤ 2000) = false := by simpa using hm
      have HX3 : Hid (X = (0, false, 1)) := Lib.hid (by rw [← HX.out, if_neg (by simpa using hC), if_pos hm])
      clear HX hok hC hbr hg
      go_enter Try.func27, Try.ntmps27
      go_wp2_with fail
      refine HC.out.mono ?_
      rintro e w1 ⟨rfl, hb1⟩
      have B1 := b0.trans (hb1.mono b0.size)
      clear hw0 p0 p1 p2 p3 p4 p5 q0 q1 q2 q3 q4 HC hb1 hm
      go_wp2_with (first | (go_at_call 55; refine (p_within_any _ _ _ _).mono ?_; rintro e w' ⟨rfl, rfl⟩) | fail)
      go_ret3
      rw [HX3.out]
      exact ⟨rfl, B1⟩
  · have d1 : (C != 0) = true := by simpa using hC
    have HX3 : Hid (X = (0, false, C)) := Lib.hid (by rw [← HX.out, if_pos hC])
    clear HX hok hC
    go_enter Try.func27, Try.ntmps27
    go_wp2_with fail
    refine HC.out.mono ?_
    rintro e w1 ⟨rfl, hb1⟩
    have B1 := b0.trans (hb1.mono b0.size)
    clear hw0 p0 p1 p2 p3 p4 p5 q0 q1 q2 q3 q4 HC hb1
    go_wp2_with fail
    go_ret3
    rw [HX3.out]
    exact ⟨rfl, B1⟩
end Go.Proofs.Yteikggieekhfkaa
