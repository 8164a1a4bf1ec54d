/- the reference's spread whole. -/
import Derived.Test.YtdcnpbdkhcdinaaSpM7
import Derived.Test.YtdcnpbdkhcdinaaSpP
import Derived.Test.YtdcnpbdkhcdinaaRSqW
import Derived.Deep.CutRange
namespace Go.Proofs.Ytdcnpbdkhcdinaa
open Go.RowKit

def lenOf (v : Value) : Nat := match v with | .slice _ n _ => n | _ => 0
set_option maxRecDepth 100000 in
set_option maxHeartbeats 8000000 in
theorem r_spread_any (A : Option Addr) (b : List UInt8) (c B : Nat) (w : World) (hB : B ≤ w.heap.size) (hbl : b.length ≤ 30000) (hbc : b.length ≤ c) (h : BR w B A b) :
    Calls Try.prog 45 #[.slice A b.length c] w (SpPost b w) := by
  by_cases h2 : b.length < 2
  · have i2 : (b.length : Int) < 2 := by omega
    have HNO : Hid (∀ l, ¬ GoodB l b) := Lib.hid (fun l hl => by
      obtain ⟨-, -, e⟩ := good_parts hl
      rw [e, List.length_append, bigE_len] at h2
      omega)
    clear h
    go_enter Try.func45, Try.ntmps45
    go_wp2_with fail
    go_ret2
    exact SpPost.no HNO.out (Below.refl _ _)
  · have i2 : ¬ (b.length : Int) < 2 := by omega
    obtain ⟨ad, hA, -, hc0⟩ := h.get 0 (by omega)
    obtain ⟨ad', hA', -, hc1⟩ := h.get 1 (by omega)
    subst hA
    obtain rfl : ad = ad' := by injection hA'
    have hmt := bigN_two b (by omega)
    have HGM : Hid (∀ l, GoodB l b → l.length = bigN (b.take 2)) := Lib.hid (fun l hl => (good_many hl).symm)
    obtain ⟨x0, hx0⟩ : ∃ x0, b[0].toNat = x0 := ⟨_, rfl⟩
    obtain ⟨x1, hx1⟩ : ∃ x1, b[1].toNat = x1 := ⟨_, rfl⟩
    have hx0l : x0 < 256 := by rw [← hx0]; exact UInt8.toNat_lt _
    have hx1l : x1 < 256 := by rw [← hx1]; exact UInt8.toNat_lt _
    rw [hx0, hx1] at hmt
    rw [hx0, show ad.add 0 = ad by simp [Addr.add]] at hc0
    rw [hx1, show ad.add 1 = ⟨ad.block, ad.off + 1, none⟩ by simp [Addr.add]] at hc1
    rw [hmt] at HGM
    clear hmt hx0 hx1
    have s1 : wrap64 ((x0 : Int) * 2 ^ 8) = (x0 : Int) * 256 := IntWalk.wrap64_in _ (by omega)
    have s2 : wrap64 ((x0 : Int) * 256) = (x0 : Int) * 256 := IntWalk.wrap64_in _ (by omega)
    have s3 : wrap64 ((x0 : Int) * 256 + (x1 : Int)) = (x0 : Int) * 256 + (x1 : Int) := IntWalk.wrap64_in _ (by omega)
    have s4 : wrap64 (x0 : Int) = (x0 : Int) := IntWalk.wrap64_in _ (by omega)
    have s5 : wrap64 (x1 : Int) = (x1 : Int) := IntWalk.wrap64_in _ (by omega)
    have hc2 : 2 ≤ c := by omega
    have HB := Lib.hid h
    clear h
    go_enter Try.func45, Try.ntmps45
    go_upto_region 3 with fail
    go_cut [4] from 14 to 23 (fun s4 wx => s4 = .int .i64 ((x0 * 256 + x1 : Nat) : Int) ∧ Below w.heap.size w wx)
    case first =>
      clear HGM HB hB hbl hbc hc2
      have e : (((x0 * 256 + x1 : Nat) : Int)) = (x0 : Int) * 256 + (x1 : Int) := by omega
      go_region
      all_goals
        go_wp2_with fail
        go_meet
        exact ⟨by first | rfl | (rw [e]; first | rfl | done), (Below.refl _ _).drew⟩
    case rest =>
      obtain ⟨rfl, hbw0⟩ := hcut
      clear hc0 hc1 s1 s2 s3 s4 s5
      have hmy : x0 * 256 + x1 ≤ 65535 := by omega
      generalize x0 * 256 + x1 = many at *
      clear hx0l hx1l
      go_upto_region 4 with fail
      go_cut [0] from 24 to 25 (fun s0 wx => ∃ ad1, s0 = .slice (some ad1) (b.length - 2) (c - 2) ∧ BR w B (some ad1) (b.drop 2) ∧ wc = wx)
      case first =>
        have hr := Lib.hid (rest_row (c := c) (u := 2) (HB.out) (by omega) hbc)
        by_cases hce : c = 2
        · rw [if_pos hce] at hr
          subst hce
          go_wp2_with fail
          go_meet
          exact ⟨ad, by first | rfl | simp_all, hr.out, rfl⟩
        · rw [if_neg hce, show ad.add 2 = ⟨ad.block, ad.off + 2, none⟩ by simp [Addr.add]] at hr
          go_wp2_with fail
          go_meet
          exact ⟨⟨ad.block, ad.off + 2, none⟩, by first | rfl | simp_all, hr.out, rfl⟩
      case rest =>
        obtain ⟨ad1, rfl, hr1, rfl⟩ := hcut
        clear HB
        go_wp2_with fail
        go_loopw [0, 5, 6] (fun s u v wr => ∃ (acc : List Int) (value : Int) (adr : Addr) (rest : List UInt8) (cr : Nat), s = .slice (some adr) rest.length cr ∧ OwnI wr w.heap.size u acc ∧ v = .int .i64 value ∧ BR w B (some adr) rest ∧ rest.length ≤ cr ∧ rest.length ≤ 30000 ∧ acc.length ≤ 5000 ∧
          (-(((30000 - rest.length : Nat) : Int) * 281474976710656) ≤ value ∧ value ≤ ((30000 - rest.length : Nat) : Int) * 281474976710656) ∧ ReadSo b acc value rest ∧ Below w.heap.size w wr) (fun s _ _ _ => lenOf s)
        case atStart =>
          have hdl : (b.drop 2).length = b.length - 2 := by simp
          exact ⟨[], 0, ad1, b.drop 2, c - 2, by rw [hdl], OwnI.nil _ _, rfl, hr1, by omega, by omega, by simp, by omega, read_begin, hbw0⟩
        case round =>
          obtain ⟨acc, value, adr, rest, cr, rfl, hO, rfl, hbr', hrc, hr30, hal, hvb, hso, hbw⟩ := hrel
          clear hbw0 hr1
          obtain ⟨A6, c6, hs6, -, -⟩ := hO.form9
          have hzr := hbw.size
          by_cases hmore : 0 < rest.length
          · have i1 : (0 : Int) < (rest.length : Int) := by omega
            subst hs6
            have HWR : Hid (BR wr B (some adr) rest) := Lib.hid (hbr'.below (hbw.mono hB))
            have HBR := Lib.hid hbr'
            have HO := Lib.hid hO
            have HSO := Lib.hid hso
            clear hO hso hbr'
            go_upto_region 8 with fail
            go_cut [7] from 26 to 87 (fun s7 wx => s7 = .bool (decide (rowT rest)) ∧ wr = wx)
            case first =>
              by_cases hl2 : 2 < rest.length
              · have i3 : (2 : Int) < (rest.length : Int) := by omega
                obtain ⟨a1, hA1, -, hd0⟩ := HWR.out.get 0 (by omega)
                obtain ⟨a2, hA2, -, hd1⟩ := HWR.out.get 1 (by omega)
                obtain rfl : adr = a1 := by injection hA1
                obtain rfl : adr = a2 := by injection hA2
                have hrt := rowT_get rest hl2
                obtain ⟨y0, hy0⟩ : ∃ x0, rest[0].toNat = x0 := ⟨_, rfl⟩
                obtain ⟨y1, hy1⟩ : ∃ x1, rest[1].toNat = x1 := ⟨_, rfl⟩
                rw [hy0, show adr.add 0 = adr by simp [Addr.add]] at hd0
                rw [hy1, show adr.add 1 = ⟨adr.block, adr.off + 1, none⟩ by simp [Addr.add]] at hd1
                rw [hy0, hy1] at hrt
                have HRT := Lib.hid hrt
                clear hrt hy0 hy1 hA1 hA2
                by_cases e0 : y0 = 128
                · subst e0
                  by_cases e1 : y1 = 0
                  · subst e1
                    go_wp2_with fail
                    go_meet
                    exact ⟨congrArg Value.bool (decide_eq_true (HRT.out.2 (by simp))).symm, by first | rfl | trivial⟩
                  · have f1 : ((y1 : Int) == 0) = false := by simpa using e1
                    have HE1 := Lib.hid e1
                    clear e1
                    go_wp2_with fail
                    go_meet
                    exact ⟨congrArg Value.bool (decide_eq_false (fun h => HE1.out (HRT.out.1 h).2)).symm, rfl⟩
                · have f0 : ((y0 : Int) == 128) = false := by simp; omega
                  have HE0 := Lib.hid e0
                  clear e0
                  go_wp2_with fail
                  go_meet
                  exact ⟨congrArg Value.bool (decide_eq_false (fun h => HE0.out (HRT.out.1 h).1)).symm, rfl⟩
              · have i3 : ¬ (2 : Int) < (rest.length : Int) := by omega
                go_wp2_with fail
                go_meet
                exact ⟨congrArg Value.bool (decide_eq_false (fun h => hl2 h.1)).symm, rfl⟩
            case rest =>
              obtain ⟨rfl, rfl⟩ := hcut
              by_cases hrow : rowT rest
              · rw [decide_eq_true hrow]
                have HSO7 := Lib.hid (fun n u hg => read_row7 HSO.out hrow n u hg)
                have HCAN := Lib.hid (fun l (hl : GoodB l b) => (read_can7 HSO.out hmore hl).1 hrow)
                have hl2 := hrow.1
                have hcr : ¬ cr = 2 := by omega
                have hcr2 : 2 ≤ cr := by omega
                clear hrow
                go_upto_region 10 with fail
                go_cut [0] from 26 to 87 (fun s0 wx => ∃ ad2, s0 = .slice (some ad2) (rest.length - 2) (cr - 2) ∧ BR w B (some ad2) (rest.drop 2) ∧ wr = wx)
                case first =>
                  have hr := rest_row (c := cr) (u := 2) HBR.out (by omega) hrc
                  rw [if_neg hcr, show adr.add 2 = ⟨adr.block, adr.off + 2, none⟩ by simp [Addr.add]] at hr
                  have hr := Lib.hid hr
                  go_wp2_with fail
                  go_meet
                  exact ⟨⟨adr.block, adr.off + 2, none⟩, by first | rfl | simp_all, hr.out, rfl⟩
                case rest =>
                  obtain ⟨ad2, rfl, hr2, rfl⟩ := hcut
                  obtain ⟨X, hX⟩ : ∃ X, rest.drop 2 = X := ⟨_, rfl⟩
                  have hXl : X.length = rest.length - 2 := by rw [← hX]; simp
                  rw [hX] at hr2 HSO7 HCAN
                  obtain ⟨lX, hlX⟩ : ∃ lX, rest.length - 2 = lX := ⟨_, rfl⟩
                  obtain ⟨cX, hcX⟩ : ∃ cX, cr - 2 = cX := ⟨_, rfl⟩
                  rw [hlX] at hXl ⊢
                  rw [hcX]
                  have hlc : lX ≤ cX := by omega
                  have hlr : lX < rest.length := by omega
                  have hl3 : lX ≤ 30000 := by omega
                  clear hX HBR HWR hl2 hcr hcr2 hlX hcX
                  obtain ⟨gu1, gu2, gu3⟩ := unG_le 7 X
                  rw [hXl] at gu1
                  have HGR0 := rgroup_any (some ad2) X cX B wr (by omega) (by omega) (hr2.below (hbw.mono hB))
                  rw [hXl] at HGR0
                  obtain ⟨p, hp⟩ : ∃ p, unG 7 X = p := ⟨_, rfl⟩
                  rw [hp] at HGR0 gu1 gu2 gu3 HCAN
                  obtain ⟨n, u⟩ := p
                  have HSN := HSO7.out n u hp
                  clear hp HSO7
                  have HGR := Lib.hid HGR0
                  clear HGR0
                  simp only at HGR gu1 gu2 gu3 HCAN
                  have hn49 : n < 562949953421312 := by
                    have e : 128 ^ 7 = 562949953421312 := by decide
                    omega
                  clear gu3
                  have hdl : (X.drop u).length = lX - u := by rw [List.length_drop, hXl]
                  have HDL := Lib.hid hdl
                  have HSN := Lib.hid HSN
                  clear hdl
                  have n0 : (0 : Int) ≤ (n : Int) := by omega
                  by_cases hu : 0 < u
                  · have hu0 : ((u : Int) == 0) = false := by simp; omega
                    by_cases hn5 : n ≤ 5000
                    · have j5 : ¬ (5000 : Int) < (n : Int) := by omega
                      go_wp2_with fail
                      refine HGR.out.mono ?_
                      rintro e w' ⟨rfl, rfl⟩
                      go_upto_region 14 with fail
                      go_cut [0] from 26 to 87 (fun s0 wx => ∃ ad3, s0 = .slice (some ad3) (lX - u) (cX - u) ∧ BR w B (some ad3) (X.drop u) ∧ wr = wx)
                      case first =>
                        have hr := Lib.hid (rest_row (c := cX) (u := u) hr2 (by omega) (by omega))
                        have huc : u ≤ cX := by omega
                        by_cases hce : cX = u
                        · rw [if_pos hce] at hr
                          have hz0 : u ≤ lX := by omega
                          clear HSN HDL HCAN
                          subst hce
                          go_wp2_with fail
                          go_meet
                          exact ⟨ad2, by first | rfl | simp_all, hr.out, rfl⟩
                        · rw [if_neg hce] at hr
                          go_wp2_with fail
                          go_meet
                          exact ⟨ad2.add u, by first | rfl | simp_all, hr.out, rfl⟩
                      case rest =>
                        obtain ⟨ad3, rfl, hr3, rfl⟩ := hcut
                        go_wp2_with fail
                        go_loopw [5, 78] (fun s i wq => ∃ k : Nat, k ≤ n ∧ i = .int .i64 k ∧ OwnI wq w.heap.size s (acc ++ List.replicate k value) ∧ Below w.heap.size w wq) (fun _ i _ => n - (intOf i).toNat)
                        case atStart => exact ⟨0, Nat.zero_le _, rfl, by simpa using HO.out, hbw⟩
                        case round =>
                          obtain ⟨k, hk, rfl, hO, hbq⟩ := hrel
                          have hzq := hbq.size
                          by_cases hlt : k < n
                          · have i0 : (0 : Int) ≤ (k : Int) := by omega
                            have i1' : (k : Int) < (n : Int) := by omega
                            obtain ⟨L, hL⟩ : ∃ L, acc ++ List.replicate k value = L := ⟨_, rfl⟩
                            have hL2 : acc ++ List.replicate (k + 1) value = L ++ [value] := by rw [← hL, List.replicate_succ', List.append_assoc]
                            have hLl : L.length ≤ 200000 := by rw [← hL]; simp; omega
                            rw [hL] at hO
                            have HL2 := Lib.hid hL2
                            have HLB := Lib.hid (fun q (hq : u5.ownBlock = some q) => (World.ownsRow.lt hO q hq).1)
                            clear hL hL2
                            go_wp2_with (first
                              | (at_builtin; refine wpList_app _ rfl (.tmp 80) (.tmp 82) 22 3 1 8 rfl elemI w.heap.size u5 L.length (L.map iv) rfl (World.ownsRow.alloc hO _) (wr.heap.size + 1) _ 1 1 ([value].map iv) rfl rfl (Cells.fresh wr _ 3 _ _ rfl) (iv_one _) (by unfold maxLen; omega) (by omega) (by simp; omega) ?_; intro v7 w7 hown7 hgrow7 hat7)
                              | fail)
                            go_roundw
                            case rel => exact ⟨k + 1, by omega, by go_num, by rw [HL2.out]; exact OwnI.of hown7 rfl, (hbq.alloc (by omega) _).grown hgrow7 (by simp; omega) (fun q hq => HLB.out q hq)⟩
                            case measure => simp [intOf]; omega
                          · have hkn : k = n := by omega
                            have hO2 : OwnI wr w.heap.size u5 (acc ++ List.replicate n value) := by subst hkn; exact hO
                            have HKN := Lib.hid hkn
                            clear hkn hO
                            have hLl : (acc ++ List.replicate n value).length = acc.length + n := by simp
                            obtain ⟨L, hL⟩ : ∃ L, acc ++ List.replicate n value = L := ⟨_, rfl⟩
                            rw [hL] at hO2 hLl HSN
                            clear hL
                            obtain ⟨A7, c7, hs7, -, -⟩ := hO2.form9
                            subst hs7
                            have HO2 := Lib.hid hO2
                            clear hO2
                            by_cases hfin : L.length ≤ 5000
                            · have i9 : ¬ (5000 : Int) < (L.length : Int) := by omega
                              go_wp2_with fail
                              exact ⟨⟨L, value, ad3, X.drop u, cX - u, by rw [HDL.out], HO2.out, rfl, hr3, by rw [HDL.out]; omega, by rw [HDL.out]; omega, hfin, by rw [HDL.out]; omega, HSN.out, hbq⟩, by simp [lenOf]; omega⟩
                            · have i9 : (5000 : Int) < (L.length : Int) := by omega
                              have HNO : Hid (∀ l, ¬ GoodB l b) := Lib.hid (fun l hl => hfin (read_len HSN.out l hl))
                              go_wp2_with fail
                              go_ret2
                              exact SpPost.no HNO.out hbq
                    · have j5 : (5000 : Int) < (n : Int) := by omega
                      have HNO : Hid (∀ l, ¬ GoodB l b) := Lib.hid (fun l hl => hn5 (HCAN.out l hl).2)
                      go_wp2_with fail
                      refine HGR.out.mono ?_
                      rintro e w' ⟨rfl, rfl⟩
                      go_wp2_with fail
                      go_ret2
                      exact SpPost.no HNO.out hbw
                  · have HNO : Hid (∀ l, ¬ GoodB l b) := Lib.hid (fun l hl => hu (HCAN.out l hl).1)
                    obtain rfl : u = 0 := by omega
                    go_wp2_with fail
                    refine HGR.out.mono ?_
                    rintro e w' ⟨rfl, rfl⟩
                    go_wp2_with fail
                    go_ret2
                    exact SpPost.no HNO.out hbw
              · rw [decide_eq_false hrow]
                have HSO7 := Lib.hid (fun n u hg => read_one7 HSO.out hrow hmore n u hg)
                have HCAN := Lib.hid (fun l (hl : GoodB l b) => (read_can7 HSO.out hmore hl).2 hrow)
                clear hrow
                obtain ⟨X, hX⟩ : ∃ X, rest = X := ⟨_, rfl⟩
                have hr2 := HBR.out
                clear HBR HWR
                obtain ⟨ad2, had⟩ : ∃ ad2, adr = ad2 := ⟨_, rfl⟩
                obtain ⟨cX, hcX⟩ : ∃ cX, cr = cX := ⟨_, rfl⟩
                subst adr
                subst cr
                subst rest
                obtain ⟨lX, hXl⟩ : ∃ lX, X.length = lX := ⟨_, rfl⟩
                rw [hXl] at hrc hr30 hvb hmore i1 ⊢

                obtain ⟨gu1, gu2, gu3⟩ := unG_le 7 X
                rw [hXl] at gu1
                have HGR0 := rgroup_any (some ad2) X cX B wr (by omega) (by omega) (hr2.below (hbw.mono hB))
                rw [hXl] at HGR0
                obtain ⟨p, hp⟩ : ∃ p, unG 7 X = p := ⟨_, rfl⟩
                rw [hp] at HGR0 gu1 gu2 gu3 HCAN
                obtain ⟨n, u⟩ := p
                have HSN := HSO7.out n u hp
                clear hp HSO7
                have HGR := Lib.hid HGR0
                clear HGR0
                simp only at HGR gu1 gu2 gu3 HCAN
                have hn49 : n < 562949953421312 := by
                  have e : 128 ^ 7 = 562949953421312 := by decide
                  omega
                clear gu3
                have hdl : (X.drop u).length = lX - u := by rw [List.length_drop, hXl]
                have HDL := Lib.hid hdl
                have HSN := Lib.hid HSN
                clear hdl
                have n0 : (0 : Int) ≤ (n : Int) := by omega

                by_cases hu : 0 < u
                · have hu0 : ((u : Int) == 0) = false := by simp; omega
                  have hsl := sgn_lt7 hn49
                  have hvb2 : -(((30000 - (lX - u) : Nat) : Int) * 281474976710656) ≤ value + sgnN n ∧ value + sgnN n ≤ ((30000 - (lX - u) : Nat) : Int) * 281474976710656 := by omega
                  obtain ⟨q, hq⟩ : ∃ q, n / 2 = q := ⟨_, rfl⟩
                  have hqi : (n : Int) / 2 = (q : Int) := by omega
                  have hql : q ≤ 281474976710656 := by omega
                  have hso := @sgn_odd n
                  have hse := @sgn_even n
                  rw [hq] at hso hse
                  generalize sgnN n = z at *
                  have hw0 : IntKind.i64.wrap z = z := IntWalk.i64_in _ (by omega)
                  have hw0' : wrap64 z = z := IntWalk.wrap64_in _ (by omega)
                  obtain ⟨vz, hvz⟩ : ∃ vz, value + z = vz := ⟨_, rfl⟩
                  rw [hvz] at hvb2 HSN
                  have hw1 : IntKind.i64.wrap vz = vz := IntWalk.i64_in _ (by omega)
                  have hw2 : wrap64 vz = vz := IntWalk.wrap64_in _ (by omega)
                  have HSN : Hid (ReadSo b (acc ++ List.replicate 1 vz) vz (X.drop u)) := Lib.hid (by simpa using HSN.out)
                  have HSOD := Lib.hid hso
                  have HSE := Lib.hid hse
                  clear hso hse hq
                  go_wp2_with fail
                  refine HGR.out.mono ?_
                  rintro e w' ⟨rfl, rfl⟩
                  go_upto_region 14 with fail
                  go_cut [0] from 26 to 87 (fun s0 wx => ∃ ad3, s0 = .slice (some ad3) (lX - u) (cX - u) ∧ BR w B (some ad3) (X.drop u) ∧ wr = wx)
                  case first =>
                    have hr := Lib.hid (rest_row (c := cX) (u := u) hr2 (by omega) (by omega))
                    have huc : u ≤ cX := by omega
                    by_cases hce : cX = u
                    · rw [if_pos hce] at hr
                      have hz0 : u ≤ lX := by omega
                      clear HSN HDL HCAN
                      subst hce
                      go_wp2_with fail
                      go_meet
                      exact ⟨ad2, by first | rfl | simp_all, hr.out, rfl⟩
                    · rw [if_neg hce] at hr
                      go_wp2_with fail
                      go_meet
                      exact ⟨ad2.add u, by first | rfl | simp_all, hr.out, rfl⟩
                  case rest =>
                    obtain ⟨ad3, rfl, hr3, rfl⟩ := hcut
                    by_cases hpar : n % 2 = 1
                    · have e1 : (n : Int) % 2 = 1 := by omega
                      have e2 : -(q : Int) - 1 = z := (HSOD.out hpar).symm
                      have e3 : IntKind.i64.wrap (-(q : Int)) = -(q : Int) := IntWalk.i64_in _ (by omega)
                      have e4 : wrap64 (-(q : Int)) = -(q : Int) := IntWalk.wrap64_in _ (by omega)
                      go_wp2_with fail
                      go_loopw [5, 78] (fun s i wq => ∃ k : Nat, k ≤ 1 ∧ i = .int .i64 k ∧ OwnI wq w.heap.size s (acc ++ List.replicate k vz) ∧ Below w.heap.size w wq) (fun _ i _ => 1 - (intOf i).toNat)
                      case atStart => exact ⟨0, Nat.zero_le _, rfl, by simpa using HO.out, hbw⟩
                      case round =>
                        obtain ⟨k, hk, rfl, hO, hbq⟩ := hrel
                        clear e1 e2 e3 e4 hqi hvz hw0 hw0'
                        have hzq := hbq.size
                        by_cases hlt : k < 1
                        · have i0 : (0 : Int) ≤ (k : Int) := by omega
                          have i1' : (k : Int) < (1 : Int) := by omega
                          obtain ⟨L, hL⟩ : ∃ L, acc ++ List.replicate k vz = L := ⟨_, rfl⟩
                          have hL2 : acc ++ List.replicate (k + 1) vz = L ++ [vz] := by rw [← hL, List.replicate_succ', List.append_assoc]
                          have hLl : L.length ≤ 200000 := by rw [← hL]; simp; omega
                          rw [hL] at hO
                          have HL2 := Lib.hid hL2
                          have HLB := Lib.hid (fun q (hq : u5.ownBlock = some q) => (World.ownsRow.lt hO q hq).1)
                          clear hL hL2
                          go_wp2_with (first
                            | (at_builtin; refine wpList_app _ rfl (.tmp 80) (.tmp 82) 22 3 1 8 rfl elemI w.heap.size u5 L.length (L.map iv) rfl (World.ownsRow.alloc hO _) (wr.heap.size + 1) _ 1 1 ([vz].map iv) rfl rfl (Cells.fresh wr _ 3 _ _ rfl) (iv_one _) (by unfold maxLen; omega) (by omega) (by simp; omega) ?_; intro v7 w7 hown7 hgrow7 hat7)
                            | fail)
                          go_roundw
                          case rel => exact ⟨k + 1, by omega, by go_num, by rw [HL2.out]; exact OwnI.of hown7 rfl, (hbq.alloc (by omega) _).grown hgrow7 (by simp; omega) (fun q hq => HLB.out q hq)⟩
                          case measure => simp [intOf]; omega
                        · have hkn : k = 1 := by omega
                          have hO2 : OwnI wr w.heap.size u5 (acc ++ List.replicate 1 vz) := by subst hkn; exact hO
                          have HKN := Lib.hid hkn
                          clear hkn hO
                          have hLl : (acc ++ List.replicate 1 vz).length = acc.length + 1 := by simp
                          obtain ⟨L, hL⟩ : ∃ L, acc ++ List.replicate 1 vz = L := ⟨_, rfl⟩
                          rw [hL] at hO2 hLl HSN
                          clear hL
                          obtain ⟨A7, c7, hs7, -, -⟩ := hO2.form9
                          subst hs7
                          have HO2 := Lib.hid hO2
                          clear hO2
                          by_cases hfin : L.length ≤ 5000
                          · have i9 : ¬ (5000 : Int) < (L.length : Int) := by omega
                            go_wp2_with fail
                            exact ⟨⟨L, vz, ad3, X.drop u, cX - u, by rw [HDL.out], HO2.out, rfl, hr3, by rw [HDL.out]; omega, by rw [HDL.out]; omega, hfin, by rw [HDL.out]; omega, HSN.out, hbq⟩, by simp [lenOf]; omega⟩
                          · have i9 : (5000 : Int) < (L.length : Int) := by omega
                            have HNO : Hid (∀ l, ¬ GoodB l b) := Lib.hid (fun l hl => hfin (read_len HSN.out l hl))
                            go_wp2_with fail
                            go_ret2
                            exact SpPost.no HNO.out hbq
                    · have e1 : (n : Int) % 2 = 0 := by omega
                      have e2 : (q : Int) = z := (HSE.out hpar).symm
                      go_wp2_with fail
                      go_loopw [5, 78] (fun s i wq => ∃ k : Nat, k ≤ 1 ∧ i = .int .i64 k ∧ OwnI wq w.heap.size s (acc ++ List.replicate k vz) ∧ Below w.heap.size w wq) (fun _ i _ => 1 - (intOf i).toNat)
                      case atStart => exact ⟨0, Nat.zero_le _, rfl, by simpa using HO.out, hbw⟩
                      case round =>
                        obtain ⟨k, hk, rfl, hO, hbq⟩ := hrel
                        clear e1 e2 hqi hvz hw0 hw0'
                        have hzq := hbq.size
                        by_cases hlt : k < 1
                        · have i0 : (0 : Int) ≤ (k : Int) := by omega
                          have i1' : (k : Int) < (1 : Int) := by omega
                          obtain ⟨L, hL⟩ : ∃ L, acc ++ List.replicate k vz = L := ⟨_, rfl⟩
                          have hL2 : acc ++ List.replicate (k + 1) vz = L ++ [vz] := by rw [← hL, List.replicate_succ', List.append_assoc]
                          have hLl : L.length ≤ 200000 := by rw [← hL]; simp; omega
                          rw [hL] at hO
                          have HL2 := Lib.hid hL2
                          have HLB := Lib.hid (fun q (hq : u5.ownBlock = some q) => (World.ownsRow.lt hO q hq).1)
                          clear hL hL2
                          go_wp2_with (first
                            | (at_builtin; refine wpList_app _ rfl (.tmp 80) (.tmp 82) 22 3 1 8 rfl elemI w.heap.size u5 L.length (L.map iv) rfl (World.ownsRow.alloc hO _) (wr.heap.size + 1) _ 1 1 ([vz].map iv) rfl rfl (Cells.fresh wr _ 3 _ _ rfl) (iv_one _) (by unfold maxLen; omega) (by omega) (by simp; omega) ?_; intro v7 w7 hown7 hgrow7 hat7)
                            | fail)
                          go_roundw
                          case rel => exact ⟨k + 1, by omega, by go_num, by rw [HL2.out]; exact OwnI.of hown7 rfl, (hbq.alloc (by omega) _).grown hgrow7 (by simp; omega) (fun q hq => HLB.out q hq)⟩
                          case measure => simp [intOf]; omega
                        · have hkn : k = 1 := by omega
                          have hO2 : OwnI wr w.heap.size u5 (acc ++ List.replicate 1 vz) := by subst hkn; exact hO
                          have HKN := Lib.hid hkn
                          clear hkn hO
                          have hLl : (acc ++ List.replicate 1 vz).length = acc.length + 1 := by simp
                          obtain ⟨L, hL⟩ : ∃ L, acc ++ List.replicate 1 vz = L := ⟨_, rfl⟩
                          rw [hL] at hO2 hLl HSN
                          clear hL
                          obtain ⟨A7, c7, hs7, -, -⟩ := hO2.form9
                          subst hs7
                          have HO2 := Lib.hid hO2
                          clear hO2
                          by_cases hfin : L.length ≤ 5000
                          · have i9 : ¬ (5000 : Int) < (L.length : Int) := by omega
                            go_wp2_with fail
                            exact ⟨⟨L, vz, ad3, X.drop u, cX - u, by rw [HDL.out], HO2.out, rfl, hr3, by rw [HDL.out]; omega, by rw [HDL.out]; omega, hfin, by rw [HDL.out]; omega, HSN.out, hbq⟩, by simp [lenOf]; omega⟩
                          · have i9 : (5000 : Int) < (L.length : Int) := by omega
                            have HNO : Hid (∀ l, ¬ GoodB l b) := Lib.hid (fun l hl => hfin (read_len HSN.out l hl))
                            go_wp2_with fail
                            go_ret2
                            exact SpPost.no HNO.out hbq
                · have HNO : Hid (∀ l, ¬ GoodB l b) := Lib.hid (fun l hl => hu (HCAN.out l hl))
                  obtain rfl : u = 0 := by omega
                  go_wp2_with fail
                  refine HGR.out.mono ?_
                  rintro e w' ⟨rfl, rfl⟩
                  go_wp2_with fail
                  go_ret2
                  exact SpPost.no HNO.out hbw
          · have i1 : ¬ (0 : Int) < (rest.length : Int) := by omega
            have HEND := Lib.hid (read_done hso hmore)
            have HO := Lib.hid hO
            subst hs6
            clear hso hO
            go_wp2_with fail
            go_ret2
            exact ⟨_, _, acc, rfl, HO.out, hbw, fun l hl => ⟨by have h1 := HEND.out l hl; have h2 := HGM.out l hl; subst h1; simp [h2], HEND.out l hl⟩, by omega⟩
end Go.Proofs.Ytdcnpbdkhcdinaa
