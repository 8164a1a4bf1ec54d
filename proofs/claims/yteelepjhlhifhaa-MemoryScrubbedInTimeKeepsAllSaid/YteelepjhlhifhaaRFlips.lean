/- the walk of the reference's CheckFlips. -/
import Derived.Test.YteelepjhlhifhaaFlipW
import Derived.Test.YteelepjhlhifhaaRReadAt
import Derived.Deep.Cut
namespace Go.Proofs.Yteelepjhlhifhaa
open Go.RowKit

theorem HeldF (w : World) (x y z : Value) : (w.alloc (.cells #[x, y, z] 66)).cell? ⟨w.heap.size, 0, none⟩ = some x ∧ (w.alloc (.cells #[x, y, z] 66)).cell? ⟨w.heap.size, 1, none⟩ = some y ∧ (w.alloc (.cells #[x, y, z] 66)).cell? ⟨w.heap.size, 2, none⟩ = some z := by simp
set_option maxRecDepth 100000 in
set_option maxHeartbeats 2000000 in
theorem rcheckFlips_any (A A' Af : Option Addr) (c c' cf : Nat) (l l' : List Int) (f : List Flp) (B : Nat) (w : World) (hB : B ≤ w.heap.size) (hl : l.length ≤ 9223372036854775807) (hl' : l'.length ≤ 9223372036854775807) (hfl : f.length ≤ 9223372036854775807) (h : IR w B A l) (h' : IR w B A' l') (hf : FR w B Af f) :
    Calls Try.prog 80 #[bankV A A' l.length l'.length c c', .slice Af f.length cf] w fun e w' => e = .returned (.int .i64 (chkF l l' f)) ∧ Below w.heap.size w w' := by
  have HC := Lib.hid (fun (w1 : World) (hb : Below w.heap.size w w1) => rcheckBank_any A A' c c' l l' B w1 (Nat.le_trans hB hb.size) hl hl' (h.below (hb.mono hB)) (h'.below (hb.mono hB)))
  have HR := Lib.hid (show chkF l l' f = if chkB l l' = 0 then (if 2000 < f.length then 2 else flipsF l.length 0 f) else chkB l l' from rfl)
  have hpos := fun q => (chk_right (l := l) (l' := l') q).pos
  have hfew := fun q => (chk_right (l := l) (l' := l') q).few
  have HPL := Lib.hid (fun (a : Int) (w : World) (hn : l.length ≤ 2000) => isPlace_any A A' l.length l'.length c c' a w hn)
  generalize chkF l l' f = R at *
  generalize chkB l l' = K at *
  have hb0 := box_below (.cells #[.slice A l.length c, .slice A' l'.length c'] 52) w
  have h0 := HeldB.new w (.slice A l.length c) (.slice A' l'.length c')
  have HCC := Lib.hid (HC.out _ hb0)
  unfold bankV at *
  obtain ⟨w0, hw0⟩ : ∃ w0, w.alloc (.cells #[.slice A l.length c, .slice A' l'.length c'] 52) = w0 := ⟨_, rfl⟩
  rw [hw0] at hb0 h0 HCC
  have z0 : w0.heap.size = w.heap.size + 1 := by rw [← hw0]; simp
  obtain ⟨p1, p2⟩ := h0.cells
  clear HC
  by_cases hK : K = 0
  · subst hK
    have hfe := hfew rfl
    have hpo := hpos rfl
    clear hfew hpos
    by_cases h2 : 2000 < f.length
    · have HR2 : Hid (R = 2) := Lib.hid (by have := HR.out; rw [if_pos rfl, if_pos h2] at this; exact this)
      go_enter Try.func80, Try.ntmps80
      go_wp2_with fail
      refine HCC.out.mono ?_
      rintro e w1 ⟨rfl, hb1⟩
      have bx := hb0.trans (hb1.mono (by omega))
      go_wp2_with fail
      go_ret
      exact ⟨ret_int HR2.out.symm, bx⟩
    · have HR2 : Hid (R = flipsF l.length 0 f) := Lib.hid (by have := HR.out; rw [if_pos rfl, if_neg h2] at this; exact this)
      clear HR
      have h2' : f.length ≤ 2000 := by omega
      go_enter Try.func80, Try.ntmps80
      go_wp2_with fail
      refine HCC.out.mono ?_
      rintro e w1 ⟨rfl, hb1⟩
      have bx := hb0.trans (hb1.mono (by omega))
      have h1 := h0.below hb1 (by omega)
      clear hw0 p1 p2 HCC
      go_wp2_with fail
      go_loopw [6, 7, 18] (fun _ _ i wr => ∃ (k : Nat) (v : Int), k ≤ f.length ∧ i = .int .i64 (k : Int) ∧ Below w1.heap.size w1 wr ∧ flipsF l.length v (f.drop k) = flipsF l.length 0 f ∧ (k = 0 → v = 0) ∧ (∀ (j : Nat) (hj : j < f.length), k = j + 1 → v = f[j].t)) (fun _ _ i _ => f.length - (intOf i).toNat)
      case atStart => exact ⟨0, 0, Nat.zero_le _, rfl, Below.refl _ _, rfl, fun _ => rfl, fun j hj q => by omega⟩
      case round =>
        obtain ⟨k, v, hk, rfl, hb, hstep, hv0, hv1⟩ := hrel
        have hs1 := hb1.size
        have bxr := bx.trans (hb.mono (by omega))
        have hsr := hb.size
        by_cases hlt : k < f.length
        · obtain ⟨ad, hA, had, d0, d1, d2⟩ := (hf.below (bxr.mono hB)).get k hlt
          have HS := Lib.hid (flips_step l.length v f k hlt)
          have hk0 : (0 : Int) ≤ (k : Int) := Int.natCast_nonneg _
          have hk1 : (k : Int) < (f.length : Int) := by omega
          rw [hstep] at HS
          have HXT2 := Lib.hid (show ∀ (j : Nat) (hj : j < f.length), k + 1 = j + 1 → f[k].t = f[j].t from fun j hj q => by
            obtain rfl : k = j := by omega
            rfl)
          generalize f[k] = x at *
          obtain ⟨xt, xp, xb⟩ := x
          simp only at d0 d1 d2 HS HXT2
          subst hA
          obtain ⟨p1, p2⟩ := (h1.below hb (by omega)).cells
          have hold : w.heap.size < wr.heap.size := by omega
          have hold2 : (ad.add (k * 3)).block < wr.heap.size := by rw [add_block]; omega
          clear hstep
          obtain ⟨wn, hwn⟩ : ∃ wn, wr.alloc (.cells #[.int .i64 xt, .int .i64 xp, .int .i64 xb] 66) = wn := ⟨_, rfl⟩
          obtain ⟨n0, n1, n2⟩ := HeldF wr (.int .i64 xt) (.int .i64 xp) (.int .i64 xb)
          have hbr := box_below (.cells #[.int .i64 xt, .int .i64 xp, .int .i64 xb] 66) wr
          have zn : wn.heap.size = wr.heap.size + 1 := by rw [← hwn]; simp
          rw [hwn] at n0 n1 n2 hbr
          have hbn := bxr.trans (hbr.mono (by omega))
          have hbn2 := hb.trans (hbr.mono (by omega))
          obtain ⟨m1, m2⟩ := ((h1.below hb (by omega)).below hbr (by omega)).cells
          have HPL' := Lib.hid (fun hn => HPL.out xp wn hn)
          have HWN := Lib.hid hwn
          clear hwn
          by_cases t1 : 0 ≤ xt ∧ xt ≤ 1000000000000
          · have g1 : decide (0 ≤ xt ∧ xt ≤ 1000000000000) = true := by simp only [t1, decide_true, and_self]
            by_cases t2 : 0 ≤ xp ∧ xp ≤ (l.length : Int) - 1
            · have g2 : decide (0 ≤ xp ∧ xp ≤ (l.length : Int) - 1) = true := by simp only [t2, decide_true, and_self]
              rw [g2] at HPL'
              by_cases t3 : 1 ≤ xb ∧ xb ≤ 22
              · have g3 : decide (1 ≤ xb ∧ xb ≤ 22) = true := by simp only [t3, decide_true, and_self]
                go_upto_region 9 with fail
                rw [HWN.out]
                clear HWN p1 p2 d0 d1 d2
                go_wp2_with (first | (go_at_call 81; refine (rwithin_any _ _ _ _).mono ?_; rintro e w' ⟨rfl, rfl⟩) | fail)
                refine (HPL'.out hfe).mono ?_
                rintro e w2 ⟨rfl, hb2⟩
                have r0 := (Below.at_ hb2 wr.heap.size (by omega) 0).trans n0
                have r2 := (Below.at_ hb2 wr.heap.size (by omega) 2).trans n2
                have hbf := hbn.trans (hb2.mono (by omega))
                have hbf2 := hbn2.trans (hb2.mono (by omega))
                clear n0 n1 n2 m1 m2
                go_upto_region 15 with (first | (go_at_call 81; refine (rwithin_any _ _ _ _).mono ?_; rintro e w' ⟨rfl, rfl⟩) | fail)
                rcases Nat.eq_zero_or_pos k with hz | hz
                · have hv := hv0 hz
                  have HR3 : Hid (flipsF l.length xt (f.drop (k + 1)) = flipsF l.length 0 f) := Lib.hid (by have := HS.out; rw [if_pos t1, if_pos t2, if_pos t3, if_neg (by omega)] at this; exact this.symm)
                  have gz : decide ((0 : Int) < (k : Int)) = false := by simp; omega
                  have gz2 : decide (0 < k) = false := by simp; omega
                  clear t1 t2 t3 hv hz
                  go_region
                  go_wp2_with fail
                  exact ⟨⟨k + 1, xt, by omega, by go_num, hbf2.drew, HR3.out, by omega, HXT2.out⟩, by simp [intOf]; omega⟩
                · obtain ⟨J, hJ⟩ : ∃ J, k = J + 1 := ⟨k - 1, by omega⟩
                  have hJl : J < f.length := by omega
                  have hv := hv1 J hJl hJ
                  obtain ⟨ad', hA', had', d0, -, -⟩ := (hf.below (hbf.mono hB)).get J hJl
                  obtain rfl : ad = ad' := by injection hA'
                  rw [← hv] at d0
                  have gz : decide ((0 : Int) < (k : Int)) = true := by simp; omega
                  have gz2 : decide (0 < k) = true := by simp; omega
                  have hJ0 : (0 : Int) ≤ (J : Int) := Int.natCast_nonneg _
                  have hJ1 : (J : Int) < (f.length : Int) := by omega
                  have hJ2 : (k : Int) - 1 = (J : Int) := by omega
                  have hJ3 : IntKind.i64.wrap (J : Int) = (J : Int) := IntWalk.i64_in _ (by omega)
                  have hJ4 : IntKind.i64.wrap ((k : Int) - 1) = (J : Int) := by rw [hJ2]; exact hJ3
                  by_cases t4 : xt < v
                  · have HR3 : Hid (R = 8) := Lib.hid (by have := HS.out; rw [if_pos t1, if_pos t2, if_pos t3, if_pos t4] at this; rw [HR2.out, this])
                    have g4 : decide (xt < v) = true := by simpa using t4
                    clear t1 t2 t3 hv hz hA'
                    go_region
                    go_wp2_with fail
                    go_ret
                    exact ⟨ret_int HR3.out.symm, hbf.drew⟩
                  · have HR3 : Hid (flipsF l.length xt (f.drop (k + 1)) = flipsF l.length 0 f) := Lib.hid (by have := HS.out; rw [if_pos t1, if_pos t2, if_pos t3, if_neg t4] at this; exact this.symm)
                    have g4 : decide (xt < v) = false := by simpa using t4
                    clear t1 t2 t3 hv hz hA'
                    go_region
                    go_wp2_with fail
                    exact ⟨⟨k + 1, xt, by omega, by go_num, hbf2.drew, HR3.out, by omega, HXT2.out⟩, by simp [intOf]; omega⟩
              · have g3 : decide (1 ≤ xb ∧ xb ≤ 22) = false := by simp; omega
                have HR3 : Hid (R = 1) := Lib.hid (by have := HS.out; rw [if_pos t1, if_pos t2, if_neg t3] at this; rw [HR2.out, this])
                clear t1 t2 t3
                go_upto_region 9 with fail
                rw [HWN.out]
                clear HWN p1 p2 d0 d1 d2
                go_wp2_with (first | (go_at_call 81; refine (rwithin_any _ _ _ _).mono ?_; rintro e w' ⟨rfl, rfl⟩) | fail)
                refine (HPL'.out hfe).mono ?_
                rintro e w2 ⟨rfl, hb2⟩
                have r2 := (Below.at_ hb2 wr.heap.size (by omega) 2).trans n2
                have hbf := hbn.trans (hb2.mono (by omega))
                clear n0 n1 n2 m1 m2
                go_wp2_with (first | (go_at_call 81; refine (rwithin_any _ _ _ _).mono ?_; rintro e w' ⟨rfl, rfl⟩) | fail)
                go_ret
                exact ⟨ret_int HR3.out.symm, hbf⟩
            · have g2 : decide (0 ≤ xp ∧ xp ≤ (l.length : Int) - 1) = false := by simp; omega
              rw [g2] at HPL'
              have HR3 : Hid (R = 9) := Lib.hid (by have := HS.out; rw [if_pos t1, if_neg t2] at this; rw [HR2.out, this])
              clear t1 t2
              go_upto_region 9 with fail
              rw [HWN.out]
              clear HWN p1 p2 d0 d1 d2
              go_wp2_with (first | (go_at_call 81; refine (rwithin_any _ _ _ _).mono ?_; rintro e w' ⟨rfl, rfl⟩) | fail)
              refine (HPL'.out hfe).mono ?_
              rintro e w2 ⟨rfl, hb2⟩
              have hbf := hbn.trans (hb2.mono (by omega))
              go_wp2_with fail
              go_ret
              exact ⟨ret_int HR3.out.symm, hbf⟩
          · have g1 : decide (0 ≤ xt ∧ xt ≤ 1000000000000) = false := by simp; omega
            have HR3 : Hid (R = 1) := Lib.hid (by have := HS.out; rw [if_neg t1] at this; rw [HR2.out, this])
            clear t1
            go_upto_region 9 with fail
            rw [HWN.out]
            clear HWN p1 p2 d0 d1 d2
            go_wp2_with (first | (go_at_call 81; refine (rwithin_any _ _ _ _).mono ?_; rintro e w' ⟨rfl, rfl⟩) | fail)
            go_ret
            exact ⟨ret_int HR3.out.symm, hbn⟩
        · obtain rfl : k = f.length := by omega
          have HR3 : Hid (R = 0) := Lib.hid (by rw [HR2.out, ← hstep, List.drop_length]; rfl)
          clear hstep
          go_wp2_with fail
          go_ret
          exact ⟨ret_int HR3.out.symm, bxr⟩
  · have HR2 : Hid (R = K) := Lib.hid (by have := HR.out; rw [if_neg hK] at this; exact this)
    have hne : (K != 0) = true := by simpa using hK
    clear hpos hfew hK
    go_enter Try.func80, Try.ntmps80
    go_wp2_with fail
    refine HCC.out.mono ?_
    rintro e w1 ⟨rfl, hb1⟩
    have bx := hb0.trans (hb1.mono (by omega))
    go_wp2_with fail
    go_ret
    exact ⟨ret_int HR2.out.symm, bx⟩
end Go.Proofs.Yteelepjhlhifhaa
