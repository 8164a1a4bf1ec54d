/- farthest of the program: how far a line reaches. -/
import Derived.Test.YtpccpkjfnmclfaaFarLoop
import Derived.Test.YtpccpkjfnmclfaaRates
namespace Go.Proofs.Ytpccpkjfnmclfaa
open Go.RowKit

attribute [local go_sem] setCell_draws alloc_draws
theorem relM_ok {a : Mk} {r : List Mk} (hok : ∀ x ∈ a :: r, x.ok) (hs : Sorted (a :: r)) (k : Nat) (hk : k < r.length) : r[k].z - a.z = (relM a r[k]).1 ∧ r[k].t - a.t = (relM a r[k]).2 ∧ (relM a r[k]).1 ≤ 1000000000000 ∧ (relM a r[k]).2 ≤ 1000000000000 ∧ 0 < (relM a r[k]).1 ∧ 0 < (relM a r[k]).2 := by
  have h := hs.lt (k + 1) 0 (by simp; omega) (by omega)
  have h1 := hok a (by simp)
  have h2 := hok r[k] (by simp)
  have e : (a :: r)[k + 1]'(by simp; omega) = r[k] := rfl
  rw [e] at h
  obtain ⟨q1, q2⟩ := h
  simp only [List.getElem_cons_zero] at q1 q2
  unfold Mk.ok at h1 h2
  unfold relM
  simp only
  omega
theorem relL_ok {a : Mk} {r : List Mk} (hok : ∀ x ∈ a :: r, x.ok) (hs : Sorted (a :: r)) : ∀ y ∈ relL a r, 0 < y.2 ∧ y.1 ≤ 1000000000000 ∧ y.2 ≤ 1000000000000 := by
  intro y hy
  obtain ⟨z, hz, rfl⟩ := List.mem_map.1 hy
  obtain ⟨k, hk, rfl⟩ := List.getElem_of_mem hz
  have := relM_ok hok hs k hk
  exact ⟨this.2.2.2.2.2, this.2.2.1, this.2.2.2.1⟩
theorem HeldQ.set0 {w : World} {p : Nat} {x : Nat × Nat} (h : HeldQ w p x) (y : Nat) : HeldQ (w.setCell ⟨p, 0, none⟩ (.int .i64 (y : Int))) p (y, x.2) := by
  have hlt := h.cells.2.2
  have h' : w.heap[p] = .cells #[.int .i64 x.1, .int .i64 x.2] 110 (0, 0) := by unfold HeldQ at h; simpa [Array.getElem?_eq_getElem hlt] using h
  unfold HeldQ
  simp only [World.setCell]
  rw [Array.getElem?_eq_getElem (by simpa using hlt), Array.getElem_modify_self, h']
  simp
set_option maxRecDepth 100000 in
set_option maxHeartbeats 4000000 in
theorem farthest_any (a : Mk) (r : List Mk) (A : Option Addr) (c M : Nat) (w : World) (h1 : 1 ≤ r.length) (hl : r.length ≤ 2000) (hlc : r.length + 1 ≤ c) (hok : ∀ x ∈ a :: r, x.ok) (hs : Sorted (a :: r)) (hM : M ≤ 1000000000) (hA : MR w w.heap.size A (a :: r)) :
    Calls Try.prog 47 #[.slice A (a :: r).length c, .int .i64 M] w fun e w' => e = .returned (.int .i64 (farI M (a :: r))) ∧ Below w.heap.size w w' := by
  have hlen : (a :: r).length = r.length + 1 := rfl
  have HA := Lib.hid hA
  obtain ⟨ad, rfl, had, c0, c1, c2⟩ := hA.get 0 (by simp)
  rw [hlen]
  have hc1 : ¬ c = 1 := by omega
  have hc2 : 1 ≤ c := by omega
  have HOK := Lib.hid hok
  have HS := Lib.hid hs
  clear hA hok hs c0 c1 c2
  go_enter Try.func47, Try.ntmps47
  go_wp2_with fail
  go_loopw [5, 19] (fun f i wr => ∃ k : Nat, k ≤ r.length ∧ i = .int .i64 k ∧ f = .int .i64 (farGo M [] 0 ((relL a r).take k)) ∧ HeldQ wr w.heap.size (leB M ((relL a r).take k)) ∧ HeldQ wr (w.heap.size + 1) (liB M ((relL a r).take k)) ∧ Below w.heap.size w wr) (fun _ i _ => r.length - (intOf i).toNat)
  case atStart =>
    refine ⟨0, Nat.zero_le _, rfl, rfl, ?_, ?_, ?_⟩
    · exact (HeldQ.new w (0, 1)).below ((Below.refl _ _).alloc (Nat.le_refl _) _) (by simp)
    · have := HeldQ.new (w.alloc (.cells #[.int .i64 0, .int .i64 1] 110)) (1, 0)
      show HeldQ _ _ (1, 0)
      simpa using this
    · exact ((Below.refl _ _).alloc (Nat.le_refl _) _).alloc (by simp) _
  case round =>
    obtain ⟨k, hk, rfl, rfl, hql, hqg, hb⟩ := hrel
    have hzr := hb.size
    by_cases hlt : k < r.length
    · obtain ⟨J, hJ⟩ : ∃ J, J = k + 1 := ⟨_, rfl⟩
      have hj4 : (k : Int) + 1 = (J : Int) := by omega
      have hjr : -9223372036854775808 ≤ (J : Int) ∧ (J : Int) ≤ 9223372036854775807 := by omega
      have HJ1 := Lib.hid (IntWalk.wrap64_in _ hjr)
      have HJ2 := Lib.hid (IntWalk.i64_in _ hjr)
      clear hjr
      have hJl : J < (a :: r).length := by rw [hlen]; omega
      obtain ⟨ad1, hadd1, -, c0, c1, c2⟩ := (HA.out.below hb).get 0 (by simp)
      obtain rfl : ad = ad1 := by injection hadd1
      obtain ⟨ad2, hadd2, -, d0, d1, d2⟩ := (HA.out.below hb).get J hJl
      obtain rfl : ad = ad2 := by injection hadd2
      have hJa : (a :: r)[J] = r[k] := by subst hJ; rfl
      have hE : ad.add (J * 3) = ⟨ad.block, ad.off + 3 + k * 3, none⟩ := by subst hJ; simp [Addr.add]; omega
      rw [hJa, hE] at d0 d1 d2
      rw [Nat.zero_mul, addr_zero] at c0 c1 c2
      simp only [List.getElem_cons_zero] at c0 c1 c2 d0 d1 d2
      have hx := relM_ok HOK.out HS.out k hlt
      have HR := Lib.hid (fun (w' : World) => rate_any a r[k] (relM a r[k]) hx.1 hx.2.1 hx.2.2.1 hx.2.2.2.1 w')
      obtain ⟨x, hxx⟩ : ∃ x, x = relM a r[k] := ⟨_, rfl⟩
      rw [← hxx] at hx HR
      have hfr := far_round M a r k hlt (fun y hy => (relL_ok HOK.out HS.out y hy).1)
      have hbl := bounds_le hM _ ((relL a r).take k) rfl (fun y hy => (relL_ok HOK.out HS.out y (List.mem_of_mem_take hy)).2)
      obtain ⟨xl, hxl⟩ : ∃ q, q = leB M ((relL a r).take k) := ⟨_, rfl⟩
      obtain ⟨xg, hxg⟩ : ∃ q, q = liB M ((relL a r).take k) := ⟨_, rfl⟩
      obtain ⟨F, hF⟩ : ∃ q, q = farGo M [] 0 ((relL a r).take k) := ⟨_, rfl⟩
      rw [← hxl, ← hxg] at hbl
      rw [← hxl, ← hxg, ← hF, ← hxx] at hfr
      rw [← hxl] at hql
      rw [← hxg] at hqg
      rw [← hF]
      have HFR := Lib.hid hfr
      have HBL := Lib.hid hbl
      have HXX := Lib.hid hxx
      clear hxx hxl hxg hF hfr hbl
      generalize r[k] = m1 at *
      obtain ⟨xt, xz, xo⟩ := a
      obtain ⟨yt, yz, yo⟩ := m1
      unfold mv sv at HR
      simp only at c0 c1 c2 d0 d1 d2 HR
      obtain ⟨wn, hwn⟩ : ∃ wn, wr.alloc (.cells #[.int .i64 yt, .int .i64 yz, .int .i64 yo] 36) = wn := ⟨_, rfl⟩
      have hbn : Below wr.heap.size wr wn := by rw [← hwn]; exact (Below.refl _ _).alloc (Nat.le_refl _) _
      have hzn : wn.heap.size = wr.heap.size + 1 := by rw [← hwn]; simp
      have e0 : wn.cell? ⟨wr.heap.size, 0, none⟩ = some (.int .i64 yt) := by rw [← hwn]; simp
      have e1 : wn.cell? ⟨wr.heap.size, 1, none⟩ = some (.int .i64 yz) := by rw [← hwn]; simp
      have e2 : wn.cell? ⟨wr.heap.size, 2, none⟩ = some (.int .i64 yo) := by rw [← hwn]; simp
      have HWN := Lib.hid hwn
      clear hwn
      have i0 : (0 : Int) ≤ (k : Int) := by omega
      have i1 : (k : Int) < (r.length : Int) := by omega
      clear hadd1 hadd2
      go_upto_region 6 with fail
      rw [HWN.out]
      have hbr : Below wn.heap.size wn wn := Below.refl _ _
      have hzz : wn.heap.size ≤ wn.heap.size := Nat.le_refl _
      have hadw : ad.block < wn.heap.size := by omega
      have hwrn : wr.heap.size < wn.heap.size := by omega
      have HZN := Lib.hid hzn
      clear hzn
      have HSS : Hid (∀ w', Below wn.heap.size wn w' → (w'.cell? ad = some (.int .i64 xt) ∧ w'.cell? ⟨ad.block, ad.off + 1, none⟩ = some (.int .i64 xz) ∧ w'.cell? ⟨ad.block, ad.off + 2, none⟩ = some (.int .i64 xo) ∧ w'.cell? ⟨wr.heap.size, 0, none⟩ = some (.int .i64 yt) ∧ w'.cell? ⟨wr.heap.size, 1, none⟩ = some (.int .i64 yz) ∧ w'.cell? ⟨wr.heap.size, 2, none⟩ = some (.int .i64 yo))) := Lib.hid fun w' hw =>
        ⟨(hw.cell hadw).trans ((hbn.cell (by omega)).trans c0), (Below.at_ hw _ hadw _).trans ((Below.at_ hbn _ (by omega) _).trans c1), (Below.at_ hw _ hadw _).trans ((Below.at_ hbn _ (by omega) _).trans c2), (Below.at_ hw _ (by omega) _).trans e0, (Below.at_ hw _ (by omega) _).trans e1, (Below.at_ hw _ (by omega) _).trans e2⟩
      clear c0 c1 c2 d0 d1 d2 e0 e1 e2 hJa hE
      go_cut [10] (fun s10 wx => ∃ R : Nat, s10 = .pointer (some ⟨R, 0, none⟩) ∧ wn.heap.size ≤ R ∧ HeldQ wx R x ∧ Below wn.heap.size wn wx)
      case first =>
        go_region_held3 (fun w' => w'.cell? ad = some (.int .i64 xt) ∧ w'.cell? ⟨ad.block, ad.off + 1, none⟩ = some (.int .i64 xz) ∧ w'.cell? ⟨ad.block, ad.off + 2, none⟩ = some (.int .i64 xo) ∧ w'.cell? ⟨wr.heap.size, 0, none⟩ = some (.int .i64 yt) ∧ w'.cell? ⟨wr.heap.size, 1, none⟩ = some (.int .i64 yz) ∧ w'.cell? ⟨wr.heap.size, 2, none⟩ = some (.int .i64 yo))
          (first | exact HSS.out _ hbr.drew | exact HSS.out _ hbr | exact HSS.out _ (by assumption) | exact HSS.out _ (Below.drew (by assumption)) | exact HSS.out _ ((Below.alloc (by assumption) (by omega) _)) | exact HSS.out _ ((hbr.alloc hzz _).drew) | exact HSS.out _ (hbr.alloc hzz _) | exact HSS.out _ (((Below.setCell (by assumption) hzz _).setCell hzz _)) | exact HSS.out _ ((((Below.setCell (by assumption) hzz _).setCell hzz _)).drew) | exact HSS.out _ (Below.drew (Below.alloc (by assumption) (by omega) _)))
          (first
           | (go_at_call 78
              refine (carryC (B := wn.heap.size) (W0 := wn) (HR.out _) ?_ ?_).mono ?_
              · first | exact hbr.drew | exact hbr | exact (hbr.alloc hzz _).drew | exact hbr.alloc hzz _
              · first | exact hzz | (simp; omega) | (simp; done)
              rintro e w3 ⟨rfl, hb3, hz3, hb4⟩
              first
              | (have hq := HeldQ.behind (0, 0) hb4
                 obtain ⟨g1, g2, -⟩ := hq.cells
                 have g3 := hq.free 0
                 have g4 := hq.free 1)
              | skip))
        all_goals
          go_wp2_with fail
          go_meet
          first
          | exact ⟨w3.heap.size, rfl, hz3, HeldQ.new w3 x, hb3.alloc hz3 _⟩
          | exact ⟨wn.heap.size, rfl, hzz, hq.set x, (hb3.setCell hzz _).setCell hzz _⟩
      case rest =>
        clear HSS HR
        obtain ⟨R, rfl, hR, hqr, hbx⟩ := hcut
        have hLr := hql.cells.2.2
        have hGr := hqg.cells.2.2
        have hqlc := (hql.below hbn hLr).below hbx (by omega)
        have hqgc := (hqg.below hbn hGr).below hbx (by omega)
        have hbW := hb.trans ((hbn.mono hzr).trans (hbx.mono (by omega)))
        obtain ⟨-, -, x1, x2, x3, x4⟩ := hx
        obtain ⟨⟨b1, b2⟩, b3, b4⟩ := HBL.out
        obtain ⟨X2, hX2⟩ : ∃ q, 2 * x.1 = q := ⟨_, rfl⟩
        rw [hX2] at HFR
        have v1 : (2 : Int) * (x.1 : Int) = (X2 : Int) := by omega
        have hX2l : X2 ≤ 2000000000000 := by omega
        have v2 : IntKind.i64.wrap (X2 : Int) = (X2 : Int) := IntWalk.i64_in _ (by omega)
        have v3 : wrap64 (X2 : Int) = (X2 : Int) := IntWalk.wrap64_in _ (by omega)
        obtain ⟨a1, a2, a0⟩ := hqr.cells
        have a9 := hqr.free 0
        have hqr2 := hqr.set0 X2
        have nLR : ¬ w.heap.size = R := by omega
        have nGR : ¬ w.heap.size + 1 = R := by omega
        have hql2 := hqlc.other (k := 0) (u := .int .i64 (X2 : Int)) nLR
        have hqg2 := hqgc.other (k := 0) (u := .int .i64 (X2 : Int)) nGR
        have hbW2 := hbW.setCell (p := ⟨R, 0, none⟩) (by show w.heap.size ≤ R; omega) (.int .i64 (X2 : Int))
        obtain ⟨wd, hwd⟩ : ∃ wd, wc.setCell ⟨R, 0, none⟩ (.int .i64 (X2 : Int)) = wd := ⟨_, rfl⟩
        rw [hwd] at hqr2 hql2 hqg2 hbW2
        have HWD := Lib.hid hwd
        clear hwd hqlc hqgc hbW hql hqg hb hbn hbx
        go_upto_region 9 with fail
        rw [HWD.out]
        clear a1 a2 a0 a9 hqr v1
        have hRd := hqr2.cells.2.2
        have HB1 := Lib.hid (fun w => below_any (X2, x.2) xl (by simp only; omega) (by simp only; omega) (by omega) (by omega) w)
        have HB2 := Lib.hid (fun w => below_any (X2, x.2) xg (by simp only; omega) (by simp only; omega) (by omega) (by omega) w)
        unfold sv at HB1 HB2
        generalize hq1 : lessQ (X2, x.2) xl = q1 at *
        generalize hq2 : lessQ (X2, x.2) xg = q2 at *
        simp only at HB1 HB2
        obtain ⟨a1, a2, -⟩ := hqr2.cells
        obtain ⟨a3, a4, hLd⟩ := hql2.cells
        obtain ⟨a5, a6, hGd⟩ := hqg2.cells
        simp only at a1 a2
        have HF2 : Hid (farGo M [] 0 ((relL ⟨xt, xz, xo⟩ r).take J) = if (!q1 && q2) = true then J else F) := Lib.hid (by rw [hJ]; exact HFR.out.1)
        clear hq1 hq2
        go_cut [42] (fun s42 wx => s42 = .bool (!q1 && q2) ∧ Below wd.heap.size wd wx)
        case first =>
          have hj5 := HJ1.out
          have hj6 := HJ2.out
          have hj7 : wrap64 ((k : Int) + 1) = (J : Int) := by rw [hj4]; exact hj5
          have hj8 : IntKind.i64.wrap ((k : Int) + 1) = (J : Int) := by rw [hj4]; exact hj6
          go_wp2_with fail
          refine (HB1.out _).mono ?_
          rintro e w5 ⟨rfl, hb5⟩
          have hqr5 := hqr2.below hb5 hRd
          have hqg5 := hqg2.below hb5 hGd
          obtain ⟨a1, a2, -⟩ := hqr5.cells
          obtain ⟨a5, a6, -⟩ := hqg5.cells
          simp only at a1 a2
          rcases q1 with _ | _
          · go_wp2_with fail
            refine (HB2.out _).mono ?_
            rintro e w7 ⟨rfl, hb7⟩
            have hb57 := hb5.trans (hb7.mono hb5.size)
            rcases q2 with _ | _
            · go_wp2_with fail
              go_meet
              exact ⟨by first | rfl | simp, hb57⟩
            · go_wp2_with fail
              go_meet
              exact ⟨by first | rfl | simp, hb57⟩
          · go_wp2_with fail
            go_meet
            exact ⟨by first | rfl | simp, hb5⟩
        case rest =>
          obtain ⟨rfl, hbe⟩ := hcut
          obtain ⟨we, hwe⟩ : ∃ we, we = wc := ⟨_, rfl⟩
          rw [← hwe] at hbe ⊢
          clear hwe
          have hqr3 := hqr2.below hbe hRd
          have hql3 := hql2.below hbe hLd
          have hqg3 := hqg2.below hbe hGd
          have hzd := hbe.size
          have hbW3 := hbW2.trans (hbe.mono (by omega))
          clear hqr2 hql2 hqg2 hbW2 hbe hRd hLd hGd HB1 HB2 a1 a2 a3 a4 a5 a6 HWD HWN
          generalize (!q1 && q2) = q at *
          obtain ⟨F2, hF2⟩ : ∃ F2 : Nat, F2 = if q = true then J else F := ⟨_, rfl⟩
          rw [← hF2] at HF2
          have HQ := Lib.hid hF2
          clear hF2
          go_upto_if 42 with fail
          go_cut [5] (fun s5 wx => s5 = .int .i64 (F2 : Int) ∧ we = wx)
          case first =>
            have HJ4 := Lib.hid hj4
            clear hj4
            cases q
            · have hq : F2 = F := HQ.out
              go_wp2_with fail
              go_meet
              exact ⟨by rw [hq], rfl⟩
            · have hq : F2 = J := HQ.out
              go_wp2_with fail
              go_meet
              exact ⟨by rw [hq, ← HJ4.out], rfl⟩
          case rest =>
            obtain ⟨rfl, rfl⟩ := hcut
            clear HQ
            have HF3 := Lib.hid HFR.out.2
            obtain ⟨LO, hLO⟩ : ∃ LO, LO = X2 - 2 * M - 1 := ⟨_, rfl⟩
            obtain ⟨HI, hHI⟩ : ∃ HI, HI = X2 + 2 * M + 1 := ⟨_, rfl⟩
            have HLB0 : leB M ((relL ⟨xt, xz, xo⟩ r).take J) = if lessQ xl (LO, x.2) = true then (LO, x.2) else xl := by
              have e : lowOf M x = (LO, x.2) := by unfold lowOf; rw [hX2, hLO]
              rw [hJ, HF3.out.1, e]
              rfl
            have HLG0 : liB M ((relL ⟨xt, xz, xo⟩ r).take J) = if lessQ (HI, x.2) xg = true then (HI, x.2) else xg := by
              have e : highOf M x = (HI, x.2) := by unfold highOf; rw [hX2, hHI]
              rw [hJ, HF3.out.2, e]
              rfl
            have HB3 := Lib.hid (fun w => below_any xl (LO, x.2) (by omega) (by omega) (by simp only; omega) (by simp only; omega) w)
            have HB4 := Lib.hid (fun w => below_any (HI, x.2) xg (by simp only; omega) (by simp only; omega) (by omega) (by omega) w)
            unfold sv at HB3 HB4
            generalize lessQ xl (LO, x.2) = q3 at *
            generalize lessQ (HI, x.2) xg = q4 at *
            simp only at HB3 HB4
            obtain ⟨LE, hLE⟩ : ∃ LE : Nat × Nat, LE = if q3 = true then (LO, x.2) else xl := ⟨_, rfl⟩
            obtain ⟨LI, hLI⟩ : ∃ LI : Nat × Nat, LI = if q4 = true then (HI, x.2) else xg := ⟨_, rfl⟩
            rw [← hLE] at HLB0
            rw [← hLI] at HLG0
            have HLB := Lib.hid HLB0
            have HLG := Lib.hid HLG0
            have HLE := Lib.hid hLE
            have HLI := Lib.hid hLI
            have HXE := Lib.hid hX2
            have HJE := Lib.hid hJ
            have HJ4 := Lib.hid hj4
            have mx : max (0 : Int) ((X2 : Int) - 2 * (M : Int) - 1) = (LO : Int) := by omega
            have hi4 : (X2 : Int) + 2 * (M : Int) + 1 = (HI : Int) := by omega
            have hi5 : HI ≤ 3000000000000 := by omega
            have HHI4 := Lib.hid hi4
            clear HLB0 HLG0 hLE hLI hX2 hLO hHI hJ hj4 hi4 HF3 HFR v2 v3 HBL
            have hre := hqr3.cells.2.2
            have hle := hql3.cells.2.2
            have hge := hqg3.cells.2.2
            obtain ⟨wl, hwl⟩ : ∃ wl, we.alloc (.cells #[.int .i64 (LO : Int), .int .i64 (x.2 : Int)] 110) = wl := ⟨_, rfl⟩
            have hbl : Below we.heap.size we wl := by rw [← hwl]; exact (Below.refl _ _).alloc (Nat.le_refl _) _
            have hqlo : HeldQ wl we.heap.size (LO, x.2) := by rw [← hwl]; exact HeldQ.new we (LO, x.2)
            have hqr4 := hqr3.below hbl hre
            have hql4 := hql3.below hbl hle
            have hqg4 := hqg3.below hbl hge
            have hzl := hbl.size
            have hwz := hbW3.size
            have hbW4 := hbW3.trans (hbl.mono (by omega))
            have hlol := hqlo.cells.2.2
            have HWL := Lib.hid hwl
            obtain ⟨a1, a2, -⟩ := hqr3.cells
            simp only at a1 a2
            clear hwl hbl hql3 hqg3
            go_upto_region 12 with fail
            rw [HWL.out]
            clear a1 a2 hqr3 mx HWL
            obtain ⟨a1, a2, -⟩ := hqlo.cells
            obtain ⟨a3, a4, -⟩ := hql4.cells
            simp only at a1 a2
            go_wp2_with fail
            refine (HB3.out _).mono ?_
            rintro e w5 ⟨rfl, hb5⟩
            have hqr5 := hqr4.below hb5 (by omega)
            have hql5 := hql4.below hb5 (by omega)
            have hqg5 := hqg4.below hb5 (by omega)
            have hqlo5 := hqlo.below hb5 (by omega)
            have hbW5 := hbW4.trans (hb5.mono (by omega))
            have hz5 := hb5.size
            clear a1 a2 a3 a4 hqr4 hql4 hqg4 hqlo hbW4 hb5 HB3
            go_upto_if 56 with fail
            go_cut [] (fun wx => HeldQ wx w.heap.size LE ∧ HeldQ wx (w.heap.size + 1) xg ∧ HeldQ wx R (X2, x.2) ∧ Below w.heap.size w wx ∧ w5.heap.size ≤ wx.heap.size)
            case first =>
              obtain ⟨a1, a2, -⟩ := hqlo5.cells
              obtain ⟨a3, a4, -⟩ := hql5.cells
              have a5 := hql5.free 0
              have a6 := hql5.free 1
              simp only at a1 a2
              cases q3
              · have hq : LE = xl := HLE.out
                go_wp2_with fail
                go_meet
                exact ⟨by rw [hq]; exact hql5, hqg5, hqr5, hbW5, Nat.le_refl _⟩
              · have hq : LE = (LO, x.2) := HLE.out
                go_wp2_with fail
                go_meet
                exact ⟨by rw [hq]; exact hql5.set (LO, x.2), (hqg5.other (by omega)).other (by omega), (hqr5.other (by omega)).other (by omega), (hbW5.setCell (Nat.le_refl _) _).setCell (Nat.le_refl _) _, by simp [World.setCell]⟩
            case rest =>
              obtain ⟨hql6, hqg6, hqr6, hbW6, hz6⟩ := hcut
              obtain ⟨w6, hw6⟩ : ∃ w6, w6 = wc := ⟨_, rfl⟩
              rw [← hw6] at hql6 hqg6 hqr6 hbW6 hz6 ⊢
              clear hw6 hql5 hqg5 hqr5 hqlo5 hbW5 HLE
              obtain ⟨wh, hwh⟩ : ∃ wh, w6.alloc (.cells #[.int .i64 (HI : Int), .int .i64 (x.2 : Int)] 110) = wh := ⟨_, rfl⟩
              have hbh : Below w6.heap.size w6 wh := by rw [← hwh]; exact (Below.refl _ _).alloc (Nat.le_refl _) _
              have hqhi : HeldQ wh w6.heap.size (HI, x.2) := by rw [← hwh]; exact HeldQ.new w6 (HI, x.2)
              have hql7 := hql6.below hbh hql6.cells.2.2
              have hqg7 := hqg6.below hbh hqg6.cells.2.2
              have hzh := hbh.size
              have hwz6 := hbW6.size
              have hge6 := hqg6.cells.2.2
              have hle6 := hql6.cells.2.2
              have hbW7 := hbW6.trans (hbh.mono (by omega))
              have hhil := hqhi.cells.2.2
              have HWH := Lib.hid hwh
              obtain ⟨a1, a2, -⟩ := hqr6.cells
              simp only at a1 a2
              have mh := HHI4.out
              clear hwh hbh hql6 hqg6
              go_upto_region 15 with fail
              rw [HWH.out]
              clear a1 a2 hqr6 mh HWH
              obtain ⟨a1, a2, -⟩ := hqhi.cells
              obtain ⟨a3, a4, -⟩ := hqg7.cells
              simp only at a1 a2
              go_wp2_with fail
              refine (HB4.out _).mono ?_
              rintro e w8 ⟨rfl, hb8⟩
              have hql8 := hql7.below hb8 (by omega)
              have hqg8 := hqg7.below hb8 (by omega)
              have hqhi8 := hqhi.below hb8 (by omega)
              have hbW8 := hbW7.trans (hb8.mono (by omega))
              have hz8 := hb8.size
              clear a1 a2 a3 a4 hql7 hqg7 hqhi hbW7 hb8 HB4
              obtain ⟨a1, a2, -⟩ := hqhi8.cells
              obtain ⟨a3, a4, -⟩ := hqg8.cells
              have a5 := hqg8.free 0
              have a6 := hqg8.free 1
              simp only at a1 a2
              cases q4
              · have hq : LI = xg := HLI.out
                go_wp2_with fail
                go_roundw
                case rel => exact ⟨J, by have := HJE.out; omega, by first | rfl | rw [HJ4.out], by rw [HF2.out], by rw [HLB.out]; exact hql8, by rw [HLG.out, hq]; exact hqg8, hbW8⟩
                case measure => have := HJE.out; simp [intOf]; omega
              · have hq : LI = (HI, x.2) := HLI.out
                go_wp2_with fail
                go_roundw
                case rel => exact ⟨J, by have := HJE.out; omega, by first | rfl | rw [HJ4.out], by rw [HF2.out], by rw [HLB.out]; exact (hql8.other (by omega)).other (by omega), by rw [HLG.out, hq]; exact hqg8.set (HI, x.2), (hbW8.setCell (by simp) _).setCell (by simp) _⟩
                case measure => have := HJE.out; simp [intOf]; omega
    · have i1 : ¬ (k : Int) < (r.length : Int) := by omega
      obtain rfl : k = r.length := by omega
      have hfin : farGo M [] 0 ((relL a r).take r.length) = farI M (a :: r) := by
        rw [List.take_of_length_le (by simp [relL])]
        rfl
      rw [hfin]
      clear hql hqg hfin
      go_wp2_with fail
      go_ret
      exact ⟨rfl, hb⟩
end Go.Proofs.Ytpccpkjfnmclfaa
