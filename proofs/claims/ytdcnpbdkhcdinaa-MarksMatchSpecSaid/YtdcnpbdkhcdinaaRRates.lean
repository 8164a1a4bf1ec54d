/- Rates of the reference. -/
import Derived.Test.YtdcnpbdkhcdinaaRates
namespace Go.Proofs.Ytdcnpbdkhcdinaa
open Go.RowKit
attribute [local go_sem] setCell_draws alloc_draws

/-- what the reference keeps: nothing ahead of the first rate -/
def keptQ (k : Nat) (x : Nat × Nat) : Nat × Nat := if k = 1 then (0, 0) else lowQ x
/-- the head of the loop of the reference's Rates -/
def RRatesAt (l : List Mk) (L G B : Nat) (W0 : World) (i : Value) (wr : World) : Prop :=
  ∃ k : Nat, 1 ≤ k ∧ k ≤ l.length ∧ i = .int .i64 k ∧ HeldQ wr L (keptQ k (leastTo l (k - 1))) ∧ HeldQ wr G (keptQ k (mostTo l (k - 1))) ∧ Below B W0 wr
theorem low_min {x y : Nat × Nat} (hx : RateOk x) (hy : RateOk y) : lowQ (minQ x y) = (if lessQ (lowQ y) (lowQ x) then lowQ y else lowQ x) := by
  rw [less_low hy.1.1 hy.2.1 hx.1.1 hx.2.1]
  unfold minQ
  split <;> rfl
theorem low_max {x y : Nat × Nat} (hx : RateOk x) (hy : RateOk y) : lowQ (maxQ x y) = (if lessQ (lowQ x) (lowQ y) then lowQ y else lowQ x) := by
  rw [less_low hx.1.1 hx.2.1 hy.1.1 hy.2.1]
  unfold maxQ
  split <;> rfl
set_option maxRecDepth 100000 in
set_option maxHeartbeats 4000000 in
theorem rrates_any (A : Option Addr) (c : Nat) (l : List Mk) (w : World) (hl : l.length ≤ 9223372036854775807) (hA : MR w w.heap.size A l) :
    Calls Try.prog 27 #[.slice A l.length c] w (RatesPost l w) := by
  obtain ⟨W0, hW0⟩ : ∃ W0, W0 = twoQ w := ⟨_, rfl⟩
  have hb0 : Below w.heap.size w W0 := by rw [hW0]; exact ((Below.refl _ _).alloc (Nat.le_refl _) _).alloc (by simp) _
  have hsz : W0.heap.size = w.heap.size + 2 := by rw [hW0]; simp [twoQ]
  have hR2 : HeldQ W0 w.heap.size (0, 0) := by rw [hW0]; exact (HeldQ.new w (0, 0)).below ((Below.refl _ _).alloc (Nat.le_refl _) _) (by simp)
  have hR3 : HeldQ W0 (w.heap.size + 1) (0, 0) := by rw [hW0]; have := HeldQ.new (w.alloc (.cells #[.int .i64 0, .int .i64 0] 45)) (0, 0); simpa [twoQ] using this
  have hA0 := (hA.below hb0).lift hb0.size
  have HC := Lib.hid (rcheckMarks_any A c l W0 hl hA0)
  have hW1 := hW0.symm
  unfold twoQ at hW1
  unfold RatesPost
  by_cases h : ckM l = 0
  · rw [h] at HC
    by_cases h1 : l.length = 1
    · have hr : ckR l = 11 := by unfold ckR; rw [if_neg (by simpa using h), if_pos h1]
      rw [hr, if_neg (by omega), if_neg (by omega)]
      have d1 : ((l.length : Int) == 1) = true := by rw [beq_iff_eq]; omega
      clear hr h h1 hA hA0 hW0
      go_enter Try.func27, Try.ntmps27
      go_wp2_with fail
      refine HC.out.mono ?_
      rintro e w1 ⟨rfl, hb1⟩
      have q2 := hR2.below hb1 (by omega)
      have q3 := hR3.below hb1 (by omega)
      obtain ⟨a1, a2, a3⟩ := q2.cells
      obtain ⟨b1, b2, b3⟩ := q3.cells
      have a4 := q2.free 0
      have a5 := q2.free 1
      have b4 := q3.free 0
      have b5 := q3.free 1
      go_wp2_with fail
      exact bodyPost_ret (v := .tuple #[.agg #[.int .i64 0, .int .i64 0], .agg #[.int .i64 0, .int .i64 0], .int .i64 11]) (by simp [results, Try.results27, go_sem, a1, a2, b1, b2]) rfl ⟨rfl, ((((hb0.trans (hb1.mono (by omega))).setCell (by simp) _).setCell (by simp) _).setCell (by simp) _).setCell (by simp) _⟩
    · have hr : ckR l = 0 := by unfold ckR; rw [if_neg (by simpa using h), if_neg h1]
      obtain ⟨hpos, h2000, hok, hs⟩ := ckM_ok l h
      have h2 : 2 ≤ l.length := by omega
      rw [hr, if_pos rfl, if_pos rfl]
      obtain ⟨yl, hyl⟩ : ∃ yl, yl = lowQ (leastTo l (l.length - 1)) := ⟨_, rfl⟩
      obtain ⟨yg, hyg⟩ : ∃ yg, yg = lowQ (mostTo l (l.length - 1)) := ⟨_, rfl⟩
      rw [← hyl, ← hyg]
      have HYL := Lib.hid hyl
      have HYG := Lib.hid hyg
      clear hyl hyg
      have d1 : ((l.length : Int) == 1) = false := beq_eq_false_iff_ne.2 (by omega)
      have HS := Lib.hid (show Sorted l from hs)
      have HOK := Lib.hid hok
      obtain ⟨ad, rfl, had, -, -, -⟩ := hA.get 0 (by omega)
      clear hr h h1 hW0 hs hok hA0
      go_enter Try.func27, Try.ntmps27
      go_wp2_with fail
      refine HC.out.mono ?_
      rintro e w1 ⟨rfl, hb1⟩
      have hz1 := hb1.size
      have hbB : Below (w.heap.size + 2) W0 w1 := hb1.mono (by omega)
      have hAA := hA.below hb0
      clear HC
      go_wp2_with fail
      go_loopw [8] (fun i wr => RRatesAt l w1.heap.size (w1.heap.size + 1) (w.heap.size + 2) W0 i wr) (fun i _ => l.length - (intOf i).toNat)
      case atStart =>
        refine ⟨1, by omega, by omega, rfl, ?_, ?_, (hbB.alloc (by omega) _).alloc (by simp; omega) _⟩
        · exact (HeldQ.new w1 (0, 0)).below ((Below.refl _ _).alloc (Nat.le_refl _) _) (by simp)
        · have := HeldQ.new (w1.alloc (.cells #[.int .i64 0, .int .i64 0] 45)) (0, 0)
          show HeldQ _ _ (0, 0)
          simpa using this
      case round =>
        obtain ⟨k, hk1, hk, rfl, hql, hqg, hb⟩ := hrel
        generalize w1.heap.size = L at *
        have hLw : w.heap.size + 2 ≤ L := by omega
        have hzr := hb.size
        by_cases hlt : k < l.length
        · obtain ⟨J, hJ⟩ : ∃ J, J = k - 1 := ⟨_, rfl⟩
          have hJk : J + 1 = k := by omega
          have hJl : J < l.length := by omega
          obtain ⟨ad1, hadd1, -, c0, c1, -⟩ := (hAA.below (hb.mono (by omega))).get J hJl
          obtain rfl : ad = ad1 := by injection hadd1
          obtain ⟨ad2, hadd2, -, d0, d1', -⟩ := (hAA.below (hb.mono (by omega))).get k hlt
          obtain rfl : ad = ad2 := by injection hadd2
          have hx := rateAt_ok HOK.out HS.out J (by omega)
          have hxe := rateAt_get l J (by omega)
          have hss := HS.out J (by omega)
          have hkk : l[J + 1]'(by omega) = l[k] := by subst hJk; rfl
          rw [hkk] at hss hxe
          have hxz : l[k].z - l[J].z = ((rateAt l J).1 : Int) := by rw [hxe]; have := hss.2; simp only; omega
          have hxt : l[k].t - l[J].t = ((rateAt l J).2 : Int) := by rw [hxe]; have := hss.1; simp only; omega
          have m0 := HOK.out _ (List.getElem_mem hJl)
          have m1 := HOK.out _ (List.getElem_mem hlt)
          have HLT : Hid (leastTo l k = minQ (leastTo l J) (rateAt l J)) := Lib.hid (by subst hJk; rfl)
          have HGT : Hid (mostTo l k = maxQ (mostTo l J) (rateAt l J)) := Lib.hid (by subst hJk; rfl)
          have HONE : Hid (k = 1 → leastTo l k = rateAt l J ∧ mostTo l k = rateAt l J) := Lib.hid fun e => by
            have : J = 0 := by omega
            rw [e, this]
            exact leastTo_one l
          have hlo := (leastTo_ok HOK.out HS.out h2 J (by omega))
          rw [← hJ] at hql hqg
          obtain ⟨xl, hxl⟩ : ∃ xl, xl = leastTo l J := ⟨_, rfl⟩
          obtain ⟨xg, hxg⟩ : ∃ xg, xg = mostTo l J := ⟨_, rfl⟩
          obtain ⟨x, hxx⟩ : ∃ x, x = rateAt l J := ⟨_, rfl⟩
          rw [← hxl, ← hxg] at hlo
          rw [← hxl] at hql HLT
          rw [← hxg] at hqg HGT
          rw [← hxx] at hx hxz hxt HLT HGT HONE
          have HR := Lib.hid (fun w' => rlowest_any x hx.1 hx.2.2 w')
          have hy := lowQ_pos hx.1.1 hx.2.1
          have HMN : Hid (lowQ (minQ xl x) = (if lessQ (lowQ x) (lowQ xl) then lowQ x else lowQ xl)) := Lib.hid (low_min hlo.1 hx)
          have HMX : Hid (lowQ (maxQ xg x) = (if lessQ (lowQ xg) (lowQ x) then lowQ x else lowQ xg)) := Lib.hid (low_max hlo.2 hx)
          have hne1 : k + 1 ≠ 1 := by omega
          have HTL : Hid (k = 1 → keptQ (k + 1) (leastTo l (k + 1 - 1)) = lowQ x ∧ keptQ (k + 1) (mostTo l (k + 1 - 1)) = lowQ x) := Lib.hid fun e => by
            unfold keptQ
            rw [if_neg hne1, if_neg hne1, Nat.add_sub_cancel, (HONE.out e).1, (HONE.out e).2]
            exact ⟨rfl, rfl⟩
          have HTN : Hid (keptQ (k + 1) (leastTo l (k + 1 - 1)) = (if lessQ (lowQ x) (lowQ xl) then lowQ x else lowQ xl) ∧ keptQ (k + 1) (mostTo l (k + 1 - 1)) = (if lessQ (lowQ xg) (lowQ x) then lowQ x else lowQ xg)) := Lib.hid (by
            unfold keptQ
            rw [if_neg hne1, if_neg hne1, Nat.add_sub_cancel, HLT.out, HGT.out, HMN.out, HMX.out]
            exact ⟨rfl, rfl⟩)
          have HKE : Hid (k = 1 → keptQ k xl = (0, 0) ∧ keptQ k xg = (0, 0)) := Lib.hid fun e => by unfold keptQ; rw [if_pos e, if_pos e]; exact ⟨rfl, rfl⟩
          have HKN : Hid (k ≠ 1 → keptQ k xl = lowQ xl ∧ keptQ k xg = lowQ xg) := Lib.hid fun e => by unfold keptQ; rw [if_neg e, if_neg e]; exact ⟨rfl, rfl⟩
          have hyl := lowQ_pos hlo.1.1.1 hlo.1.2.1
          have hyg := lowQ_pos hlo.2.1.1 hlo.2.2.1
          obtain ⟨⟨hx1, hx2⟩, hx3, hx4⟩ := hx
          obtain ⟨⟨⟨l1, l2⟩, l3, l4⟩, ⟨g1, g2⟩, g3, g4⟩ := hlo
          obtain ⟨y1, y2, y3, y4⟩ := hy
          obtain ⟨yl1, yl2, yl3, yl4⟩ := hyl
          obtain ⟨yg1, yg2, yg3, yg4⟩ := hyg
          have HB1 := Lib.hid (fun w => lessShare_any (lowQ x) (lowQ xl) (by omega) (by omega) (by omega) (by omega) w)
          have HB2 := Lib.hid (fun w => lessShare_any (lowQ xg) (lowQ x) (by omega) (by omega) (by omega) (by omega) w)
          have hx1b : (x.1 : Int) ≤ 1000000000000 := by omega
          have hx2b : (x.2 : Int) ≤ 1000000000000 := by omega
          obtain ⟨⟨q1, q2⟩, ⟨q3, q4⟩, -⟩ := m0
          obtain ⟨⟨q5, q6⟩, ⟨q7, q8⟩, -⟩ := m1
          generalize l[J] = M0 at *
          generalize l[k] = M1 at *
          obtain ⟨xt, xz, xo⟩ := M0
          obtain ⟨yt, yz, yo⟩ := M1
          simp only at c0 c1 d0 d1' hxz hxt q1 q2 q3 q4 q5 q6 q7 q8
          generalize lowQ x = y at *
          generalize lowQ xl = zl at *
          generalize lowQ xg = zg at *
          unfold sv at HR HB1 HB2
          have HJK := Lib.hid hJk
          have i0 : (0 : Int) ≤ (k : Int) := by omega
          have i1 : (k : Int) < (l.length : Int) := by omega
          have i2 : (0 : Int) ≤ (J : Int) := by omega
          have i3 : (J : Int) < (l.length : Int) := by omega
          have i4 : (k : Int) - 1 = (J : Int) := by omega
          have hj1 : -9223372036854775808 ≤ (J : Int) ∧ (J : Int) ≤ 9223372036854775807 := by omega
          have hv1 : -9223372036854775808 ≤ (x.1 : Int) ∧ (x.1 : Int) ≤ 9223372036854775807 := by omega
          have hv2 : -9223372036854775808 ≤ (x.2 : Int) ∧ (x.2 : Int) ≤ 9223372036854775807 := by omega
          have hbr : Below wr.heap.size wr wr := Below.refl _ _
          have hzz : wr.heap.size ≤ wr.heap.size := Nat.le_refl _
          have hLr := hql.cells.2.2
          have hGr := hqg.cells.2.2
          have nLG : ¬ L = L + 1 := by omega
          have nGL : ¬ L + 1 = L := by omega
          have HSS : Hid (∀ w', Below wr.heap.size wr w' → (w'.cell? (ad.add (J * 3)) = some (.int .i64 xt) ∧ w'.cell? ⟨(ad.add (J * 3)).block, (ad.add (J * 3)).off + 1, none⟩ = some (.int .i64 xz) ∧ w'.cell? (ad.add (k * 3)) = some (.int .i64 yt) ∧ w'.cell? ⟨(ad.add (k * 3)).block, (ad.add (k * 3)).off + 1, none⟩ = some (.int .i64 yz))) := Lib.hid fun w' hw =>
            ⟨(hw.cell (by rw [add_block]; omega)).trans c0, (Below.at_ hw _ (by rw [add_block]; omega) _).trans c1, (hw.cell (by rw [add_block]; omega)).trans d0, (Below.at_ hw _ (by rw [add_block]; omega) _).trans d1'⟩
          have i7 : IntKind.i64.wrap (J : Int) = (J : Int) := IntWalk.i64_in _ hj1
          have i5 : IntKind.i64.wrap ((k : Int) - 1) = (J : Int) := by rw [i4]; exact i7
          have i6 : wrap64 ((k : Int) - 1) = (J : Int) := by rw [i4]; exact IntWalk.wrap64_in _ hj1
          have v1 : IntKind.i64.wrap (yz - xz) = (x.1 : Int) := by rw [hxz]; exact IntWalk.i64_in _ hv1
          have v2 : IntKind.i64.wrap (yt - xt) = (x.2 : Int) := by rw [hxt]; exact IntWalk.i64_in _ hv2
          have v3 : wrap64 (yz - xz) = (x.1 : Int) := by rw [hxz]; exact IntWalk.wrap64_in _ hv1
          have v4 : wrap64 (yt - xt) = (x.2 : Int) := by rw [hxt]; exact IntWalk.wrap64_in _ hv2
          have v5 : IntKind.i64.wrap (x.1 : Int) = (x.1 : Int) := IntWalk.i64_in _ hv1
          have v6 : IntKind.i64.wrap (x.2 : Int) = (x.2 : Int) := IntWalk.i64_in _ hv2
          clear hJ hJk hxl hxg hxx hadd1 hadd2 c0 c1 d0 d1' hxe hss hkk hj1 hv1 hv2
          go_upto_region 10 with fail
          go_cut [9] (fun s9 wx => ∃ R : Nat, s9 = .pointer (some ⟨R, 0, none⟩) ∧ wr.heap.size ≤ R ∧ HeldQ wx R y ∧ Below wr.heap.size wr wx)
          case first =>
            go_region_held3 (fun w' => w'.cell? (ad.add (J * 3)) = some (.int .i64 xt) ∧ w'.cell? ⟨(ad.add (J * 3)).block, (ad.add (J * 3)).off + 1, none⟩ = some (.int .i64 xz) ∧ w'.cell? (ad.add (k * 3)) = some (.int .i64 yt) ∧ w'.cell? ⟨(ad.add (k * 3)).block, (ad.add (k * 3)).off + 1, none⟩ = some (.int .i64 yz))
              (first | exact HSS.out _ hbr.drew | exact HSS.out _ hbr | exact HSS.out _ (by assumption) | exact HSS.out _ (Below.drew (by assumption)) | exact HSS.out _ ((Below.alloc (by assumption) (by omega) _)) | exact HSS.out _ ((hbr.alloc hzz _).drew) | exact HSS.out _ (hbr.alloc hzz _) | exact HSS.out _ (((Below.setCell (by assumption) hzz _).setCell hzz _)) | exact HSS.out _ ((((Below.setCell (by assumption) hzz _).setCell hzz _).drew)) | go_keep)
              (first
               | (go_at_call 58
                  refine (carryC (B := wr.heap.size) (W0 := wr) (HR.out _) ?_ ?_).mono ?_
                  · first | exact hbr.drew | exact hbr | exact (hbr.alloc hzz _).drew | exact hbr.alloc hzz _
                  · first | exact hzz | (simp; done)
                  rintro e w3 ⟨rfl, hb3, hz3, hb4⟩
                  first
                  | (have hq := HeldQ.behind (0, 0) hb4
                     obtain ⟨g1, g2, -⟩ := hq.cells
                     have g3 := hq.free 0
                     have g4 := hq.free 1)
                  | skip))
            all_goals
              go_wp2_with fail
              go_meet
              first
              | exact ⟨w3.heap.size, rfl, hz3, HeldQ.new w3 y, hb3.alloc hz3 _⟩
              | exact ⟨wr.heap.size, rfl, hzz, hq.set y, (hb3.setCell hzz _).setCell hzz _⟩
          case rest =>
            clear i5 i6 i7 HSS HR v1 v2 v3 v4 v5 v6
            obtain ⟨R, rfl, hR, hqr, hbx⟩ := hcut
            have hqlc := hql.below hbx hLr
            have hqgc := hqg.below hbx hGr
            have hRw := hqr.cells.2.2
            have nRL : ¬ R = L := by omega
            have nRG : ¬ R = L + 1 := by omega
            have nLR : ¬ L = R := by omega
            have nGR : ¬ L + 1 = R := by omega
            have hLc : L < wc.heap.size := by omega
            have hGc : L + 1 < wc.heap.size := by omega
            have hGb : w.heap.size + 2 ≤ L + 1 := by omega
            have hbW : Below (w.heap.size + 2) W0 wc := hb.trans (hbx.mono (by omega))
            clear hql hqg hx1 hx2 hx3 hx4 l1 l2 l3 l4 g1 g2 g3 g4 y1 y2 y3 y4 yl1 yl2 yl3 yl4 yg1 yg2 yg3 yg4 HLT HGT HONE HMN HMX
            by_cases hk1' : k = 1
            · have hb1t : ((k : Int) == 1) = true := by rw [beq_iff_eq]; omega
              obtain ⟨e1, e2⟩ := HKE.out hk1'
              rw [e1] at hqlc
              rw [e2] at hqgc
              obtain ⟨t1, t2⟩ := HTL.out hk1'
              have HT1 := Lib.hid t1
              have HT2 := Lib.hid t2
              obtain ⟨a1, a2, -⟩ := hqr.cells
              obtain ⟨a3, a4, -⟩ := hqlc.cells
              obtain ⟨a5, a6, -⟩ := hqgc.cells
              have a7 := hqlc.free 0
              have a8 := hqlc.free 1
              have a9 := hqgc.free 0
              have a10 := hqgc.free 1
              clear HKE HKN HTL HTN e1 e2 t1 t2 HB1 HB2 hk1'
              go_wp2_with fail
              go_roundw
              case rel =>
                refine ⟨k + 1, by omega, by omega, by go_num, ?_, ?_, (((hbW.setCell hLw _).setCell hLw _).setCell hGb _).setCell hGb _⟩
                · rw [HT1.out]; exact ((hqlc.set y).other nLG).other nLG
                · rw [HT2.out]; exact ((hqgc.other nGL).other nGL).set y
              case measure => simp [intOf]; omega
            · have hb1f : ((k : Int) == 1) = false := beq_eq_false_iff_ne.2 (by omega)
              obtain ⟨e1, e2⟩ := HKN.out hk1'
              rw [e1] at hqlc
              rw [e2] at hqgc
              generalize hq1 : lessQ y zl = q1 at *
              generalize hq2 : lessQ zg y = q2 at *
              obtain ⟨t1, t2⟩ := HTN.out
              have HT1 := Lib.hid t1
              have HT2 := Lib.hid t2
              obtain ⟨a1, a2, -⟩ := hqr.cells
              obtain ⟨a3, a4, -⟩ := hqlc.cells
              clear HKE HKN HTL HTN e1 e2 t1 t2 hq1 hq2
              go_wp2_with fail
              refine (HB1.out _).mono ?_
              rintro e w5 ⟨rfl, hb5⟩
              have hqr5 := hqr.below hb5 hRw
              have hql5 := hqlc.below hb5 hLc
              have hqg5 := hqgc.below hb5 hGc
              have hbW5 := hbW.trans (hb5.mono (by omega))
              have hs5 := hb5.size
              clear hqlc hqgc hqr a1 a2 a3 a4 hb5
              obtain ⟨a1, a2, -⟩ := hqr5.cells
              obtain ⟨a3, a4, -⟩ := hql5.cells
              obtain ⟨a5, a6, -⟩ := hqg5.cells
              have a7 := hql5.free 0
              have a8 := hql5.free 1
              rcases q1 with _ | _
              · go_wp2_with fail
                refine (HB2.out _).mono ?_
                rintro e w7 ⟨rfl, hb7⟩
                have hqr7 := hqr5.below hb7 (by omega)
                have hql7 := hql5.below hb7 (by omega)
                have hqg7 := hqg5.below hb7 (by omega)
                have hbW7 := hbW5.trans (hb7.mono (by omega))
                clear hb7 a1 a2 a3 a4 a5 a6 a7 a8 hqr5 hql5 hqg5
                obtain ⟨a1, a2, -⟩ := hqr7.cells
                obtain ⟨a5, a6, -⟩ := hqg7.cells
                have a7 := hqg7.free 0
                have a8 := hqg7.free 1
                rcases q2 with _ | _
                · go_wp2_with fail
                  go_roundw
                  case rel => exact ⟨k + 1, by omega, by omega, by go_num, by rw [HT1.out]; exact hql7, by rw [HT2.out]; exact hqg7, hbW7⟩
                  case measure => simp [intOf]; omega
                · go_wp2_with fail
                  go_roundw
                  case rel => exact ⟨k + 1, by omega, by omega, by go_num, by rw [HT1.out]; exact (hql7.other nLG).other nLG, by rw [HT2.out]; exact hqg7.set y, (hbW7.setCell hGb _).setCell hGb _⟩
                  case measure => simp [intOf]; omega
              · go_wp2_with fail
                refine (HB2.out _).mono ?_
                rintro e w7 ⟨rfl, hb7⟩
                have hz6 : ((w5.setCell ⟨L, 0, none⟩ (.int .i64 y.1)).setCell ⟨L, 1, none⟩ (.int .i64 y.2)).heap.size = w5.heap.size := by simp [World.setCell]
                have hqr7 := ((hqr5.other (k := 0) (u := .int .i64 y.1) nRL).other (k := 1) (u := .int .i64 y.2) nRL).below hb7 (by rw [hz6]; omega)
                have hql7 := (hql5.set y).below hb7 (by rw [hz6]; omega)
                have hqg7 := ((hqg5.other (k := 0) (u := .int .i64 y.1) nGL).other (k := 1) (u := .int .i64 y.2) nGL).below hb7 (by rw [hz6]; omega)
                have hbW7 := ((hbW5.setCell hLw _).setCell hLw _).trans (hb7.mono (by rw [hz6]; omega))
                clear hb7 a1 a2 a3 a4 a5 a6 a7 a8 hqr5 hql5 hqg5
                obtain ⟨a1, a2, -⟩ := hqr7.cells
                obtain ⟨a5, a6, -⟩ := hqg7.cells
                have a7 := hqg7.free 0
                have a8 := hqg7.free 1
                rcases q2 with _ | _
                · go_wp2_with fail
                  go_roundw
                  case rel => exact ⟨k + 1, by omega, by omega, by go_num, by rw [HT1.out]; exact hql7, by rw [HT2.out]; exact hqg7, hbW7⟩
                  case measure => simp [intOf]; omega
                · go_wp2_with fail
                  go_roundw
                  case rel => exact ⟨k + 1, by omega, by omega, by go_num, by rw [HT1.out]; exact (hql7.other nLG).other nLG, by rw [HT2.out]; exact hqg7.set y, (hbW7.setCell hGb _).setCell hGb _⟩
                  case measure => simp [intOf]; omega
        · obtain rfl : k = l.length := by omega
          have hlr := hql.cells.2.2
          have hgr := hqg.cells.2.2
          have hne1 : l.length ≠ 1 := by omega
          have eL : keptQ l.length (leastTo l (l.length - 1)) = yl := by unfold keptQ; rw [if_neg hne1, HYL.out]
          have eG : keptQ l.length (mostTo l (l.length - 1)) = yg := by unfold keptQ; rw [if_neg hne1, HYG.out]
          rw [eL] at hql
          rw [eG] at hqg
          have hr2 := hR2.below hb (by omega)
          have hr3 := hR3.below hb (by omega)
          obtain ⟨a1, a2, -⟩ := hql.cells
          obtain ⟨a3, a4, -⟩ := hqg.cells
          obtain ⟨b1, b2, -⟩ := hr2.cells
          obtain ⟨b3, b4, -⟩ := hr3.cells
          have b5 := hr2.free 0
          have b6 := hr2.free 1
          have b7 := hr3.free 0
          have b8 := hr3.free 1
          have n1 : ¬ L = w.heap.size := by omega
          have n2 : ¬ L = w.heap.size + 1 := by omega
          have n3 : ¬ L + 1 = w.heap.size := by omega
          have n4 : ¬ L + 1 = w.heap.size + 1 := by omega
          clear eL eG HYL HYG hql hqg hr2 hr3
          go_wp2_with fail
          go_region
          all_goals
            go_wp2_with fail
            exact bodyPost_ret (v := .tuple #[.agg #[.int .i64 yl.1, .int .i64 yl.2], .agg #[.int .i64 yg.1, .int .i64 yg.2], .int .i64 0]) (by simp [results, Try.results27, go_sem, b1, b2, b3, b4]) rfl ⟨rfl, Below.drew (((((hb0.trans (hb.mono (by omega))).setCell (by simp) _).setCell (by simp) _).setCell (by simp) _).setCell (by simp) _)⟩
  · have hr : ckR l = ckM l := by unfold ckR; rw [if_pos h]
    rw [hr, if_neg h, if_neg h]
    generalize ckM l = r at *
    have hne : (r != 0) = true := by simpa using h
    clear hr h hA hA0 hW0
    go_enter Try.func27, Try.ntmps27
    go_wp2_with fail
    refine HC.out.mono ?_
    rintro e w1 ⟨rfl, hb1⟩
    have q2 := hR2.below hb1 (by omega)
    have q3 := hR3.below hb1 (by omega)
    obtain ⟨a1, a2, a3⟩ := q2.cells
    obtain ⟨b1, b2, b3⟩ := q3.cells
    have a4 := q2.free 0
    have a5 := q2.free 1
    have b4 := q3.free 0
    have b5 := q3.free 1
    go_wp2_with fail
    exact bodyPost_ret (v := .tuple #[.agg #[.int .i64 0, .int .i64 0], .agg #[.int .i64 0, .int .i64 0], .int .i64 r]) (by simp [results, Try.results27, go_sem, a1, a2, b1, b2]) rfl ⟨rfl, ((((hb0.trans (hb1.mono (by omega))).setCell (by simp) _).setCell (by simp) _).setCell (by simp) _).setCell (by simp) _⟩
end Go.Proofs.Ytdcnpbdkhcdinaa
