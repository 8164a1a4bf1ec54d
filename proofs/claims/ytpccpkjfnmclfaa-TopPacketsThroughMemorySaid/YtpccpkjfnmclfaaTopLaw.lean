/- A packet whose bytes are kept in words, of each of which one bit flips, is read of what is read then: the law TopPacketsThroughMemory answers true for every input. No condition. -/
import Derived.Test.YtpccpkjfnmclfaaTopMath
import Derived.Test.YtpccpkjfnmclfaaTopWorks
import Derived.Test.YtpccpkjfnmclfaaBytes
import Derived.Test.YtpccpkjfnmclfaaRead
import Derived.Test.YtpccpkjfnmclfaaFlip
import Derived.Test.YtpccpkjfnmclfaaSame
import Derived.Test.YtpccpkjfnmclfaaClone
import Derived.Test.YtpccpkjfnmclfaaBelowN
import Derived.Test.YtpccpkjfnmclfaaScrubbed
import Derived.Test.YtpccpkjfnmclfaaReadAt
import Derived.Test.YtpccpkjfnmclfaaPair
import Derived.Deep.DeepCutAuto
import Derived.Deep.RegionLaw
import Derived.Deep.RegionHeld3
import Derived.Deep.DrawnRows
namespace Go.Proofs.Ytpccpkjfnmclfaa
open Go.RowKit

attribute [local go_sem] setCell_draws alloc_draws
theorem readOwn_any (base : Nat) (v : Value) (l : List UInt8) (w : World) (h : Own w base v l) (hc : l.length ≤ 9223372036854775807) :
    Calls Try.prog 33 #[v] w (ReadPost w (readP l)) := by
  have hh := h
  rcases hh.2 with ⟨rfl, hn⟩ | ⟨g, cap, cur, rfl, hb, hg, hnc, hm, _⟩
  · have hl := List.eq_nil_of_length_eq_zero hn
    subst hl
    exact read_any none 0 [] w (by simp) (by simp) (.inl (by simp))
  · obtain ⟨A, c, e, hB⟩ := h.form
    injection e with e1 e2 e3
    subst e1
    subst e3
    exact read_any _ _ l w hnc (by unfold maxLen at hm; omega) hB
theorem ints_snoc (a : List Nat) (n : Nat) : ints (a ++ [n]) = ints a ++ [(n : Int)] := by simp [ints]
set_option maxRecDepth 100000 in
set_option maxHeartbeats 2000000 in
theorem top_bad (s : Int) (cm : Bool) (pt nm : Int) (A : Option Addr) (cap : Nat) (l : List UInt8) (F : Option Addr) (fc : Nat) (fl : List Int) (w : World) (h : BR w w.heap.size A l) (hf : ckP s pt nm l.length ≠ 0) :
    Calls Try.prog 8 #[pv s cm pt nm A l.length cap, .slice F fl.length fc] w fun e w' => e = .returned (.bool true) ∧ Below w.heap.size w w' := by
  have cb := fun (w' : World) (hb : Below w.heap.size w w') => bytes_any s cm pt nm A cap l w' ((h.below hb).lift hb.size)
  have ho : outBytes s cm pt nm l = [] := by unfold outBytes; rw [if_neg hf]
  rw [ho] at cb
  have hne : (ckP s pt nm l.length != 0) = true := by simpa using hf
  generalize ckP s pt nm l.length = F at *
  unfold pv at cb ⊢
  have CB := Lib.hid cb
  clear cb hf
  go_enter Try.func8, Try.ntmps8
  go_wp2_with fail
  refine (CB.out _ ((Below.refl _ _).alloc (Nat.le_refl _) _)).mono ?_
  rintro e w1 ⟨v1, rfl, ho1, hb1⟩
  have hbb : Below w.heap.size w w1 := ((Below.refl _ _).alloc (Nat.le_refl _) _).trans (hb1.mono (by simp))
  obtain ⟨A1, c1, rfl, -⟩ := ho1.form
  clear ho1 hb1
  go_wp2_with fail
  refine (works_any _).mono ?_
  rintro e w4 ⟨rfl, hb4⟩
  go_wp2
  go_ret
  exact ⟨rfl, hbb.trans (hb4.mono hbb.size)⟩
set_option maxRecDepth 100000 in
set_option maxHeartbeats 8000000 in
theorem top_good (s : Nat) (cm : Bool) (pt nm : Nat) (A : Option Addr) (cap : Nat) (l : List UInt8) (F : Option Addr) (fc : Nat) (fl : List Int) (w : World) (h : BR w w.heap.size A l) (hF : IR w w.heap.size F fl) (hfl : fl.length ≤ 9223372036854775807) (hfi : ∀ k (h : k < fl.length), -9223372036854775808 ≤ fl[k] ∧ fl[k] ≤ 9223372036854775807)
    (h1 : s ≤ 2047) (h2 : pt ≤ 3) (h3 : nm ≤ 16383) (h4 : 1 ≤ l.length) (h5 : l.length ≤ 1000) (hf : ckP s pt nm l.length = 0) :
    Calls Try.prog 8 #[pv s cm pt nm A l.length cap, .slice F fl.length fc] w fun e w' => e = .returned (.bool true) ∧ Below w.heap.size w w' := by
  have cb := fun (w' : World) (hb : Below w.heap.size w w') => bytes_any s cm pt nm A cap l w' ((h.below hb).lift hb.size)
  have ho : outBytes s cm pt nm l = pBytes s cm pt nm l := by unfold outBytes; rw [if_pos hf]; simp
  have hrd := fun more => readP_bytes s cm pt nm l more h1 h2 h3 h4 h5
  have hlen := pBytes_len s cm pt nm l
  rw [ho, hf] at cb
  clear ho hf
  generalize pBytes s cm pt nm l = P at *
  have hPl : P.length ≤ 1008 := by omega
  have hPg : 9 ≤ P.length := by omega
  have HRD := Lib.hid hrd
  have HLEN := Lib.hid hlen
  have HA := Lib.hid h
  have HFL := Lib.hid hF
  have HFI := Lib.hid hfi
  clear hrd hlen h hF hfi h1 h2 h3
  obtain ⟨W0, hW0⟩ : ∃ W0 : World, W0 = w.alloc (.cells #[.int .i64 s, .bool cm, .int .i64 pt, .int .i64 nm, .slice A l.length cap] 51) := ⟨_, rfl⟩
  have HW0 := Lib.hid hW0
  clear hW0
  unfold pv at cb ⊢
  have CB := Lib.hid cb
  clear cb
  go_enter Try.func8, Try.ntmps8
  go_wp2_with fail
  refine (CB.out _ ((Below.refl _ _).alloc (Nat.le_refl _) _)).mono ?_
  rintro e w1 ⟨v1, rfl, ho1, hb1⟩
  have hb1 : Below (w.heap.size + 1) W0 w1 := by rw [HW0.out]; simpa using hb1
  have hs1 : w.heap.size + 1 ≤ w1.heap.size := by have := hb1.size; rw [HW0.out] at this; simpa using this
  have hw1 : Below w.heap.size w w1 := by rw [HW0.out] at hb1; exact ((Below.refl _ _).alloc (Nat.le_refl _) _).trans (hb1.mono (by omega))
  obtain ⟨A1, c1, rfl, hB1⟩ := ho1.form
  clear ho1
  go_wp2_with fail
  refine (clone_any A1 P.length c1 P w1 rfl (by omega) hB1).mono ?_
  rintro e w2 ⟨v2, rfl, ho2, hb2⟩
  have hs2 := hb2.size
  obtain ⟨A2, c2, hv2, hB2⟩ := ho2.form
  have HO2 := Lib.hid ho2
  obtain ⟨PL, hPL⟩ : ∃ PL, P.length = PL := ⟨_, rfl⟩
  rw [hPL] at hv2 hPl hPg ⊢
  subst hv2
  have HPL := Lib.hid hPL
  obtain ⟨R, hR⟩ : ∃ R : Nat, PL % 2 = R := ⟨_, rfl⟩
  have hpm : (PL : Int) % 2 = (R : Int) := by omega
  have HR := Lib.hid hR
  have hR2 : R < 2 := by omega
  clear hPL ho2 hR
  go_upto_if 40 with fail
  go_cut [7] (fun s7 wx => ∃ E : List UInt8, Own wx w1.heap.size s7 E ∧ Below w1.heap.size w1 wx ∧ w2.heap.size ≤ wx.heap.size ∧ (∃ more, E = P ++ more) ∧ E.length % 2 = 0 ∧ PL ≤ E.length ∧ E.length ≤ PL + 1)
  case first =>
    have HL1 : Hid (P.length + 1 ≤ maxLen) := Lib.hid (by rw [HPL.out]; unfold maxLen; omega)
    have HL2 : Hid ((P.length + 1) * 1 ≤ 140737488355328) := Lib.hid (by rw [HPL.out]; omega)
    have HL3 : Hid (w1.heap.size ≤ w2.heap.size + 1) := Lib.hid (by omega)
    have hR01 : R = 0 ∨ R = 1 := by omega
    rcases hR01 with rfl | rfl
    · go_wp2_with fail
      go_meet
      exact ⟨P, HO2.out, hb2, Nat.le_refl _, ⟨[], by simp⟩, by rw [HPL.out]; exact HR.out, by rw [HPL.out]; exact Nat.le_refl _, by rw [HPL.out]; omega⟩
    · go_wp2_with (first
        | (at_builtin; refine wpList_app _ rfl (.tmp 41) (.tmp 42) 22 5 1 1 rfl elem8 w1.heap.size (.slice A2 PL c2) P.length (P.map bv) rfl (World.ownsRow.alloc HO2.out _) (w2.heap.size + 1) _ 1 1 ([(0 : UInt8)].map bv) rfl rfl (Cells.fresh' w2 _ 5 (0, 0) _ rfl) (bv_one _) HL1.out HL2.out (by rw [World.size_alloc]; exact HL3.out) ?_; intro v7 w7 hown7 hgrow7 hat7)
        | fail)
      go_meet
      have hd2 := (hb2.alloc hs2 (.cells #[.int .u8 0] 5)).grown hgrow7 (by rw [World.size_alloc]; exact HL3.out) (fun k hk => (World.ownsRow.lt HO2.out k hk).1)
      exact ⟨P ++ [0], Own.of hown7 rfl, hd2, by have := hgrow7.size; rw [World.size_alloc] at this; omega, ⟨[0], rfl⟩, by rw [List.length_append, HPL.out]; have := HR.out; simp; omega, by rw [List.length_append, HPL.out]; omega, by rw [List.length_append, HPL.out]; simp⟩
  case rest =>
    obtain ⟨E, hE, hbE, hzE, hmore, hev, hlo, hhi⟩ := hcut
    obtain ⟨wx, hwx⟩ : ∃ wx, wx = wc := ⟨_, rfl⟩
    rw [← hwx] at hE hbE hzE ⊢
    clear hwx
    have hwE : Below w.heap.size w wx := hw1.trans (hbE.mono hw1.size)
    have hzwx := hbE.size
    obtain ⟨AE, cE, hvE, hBE⟩ := hE.form
    obtain ⟨EL, hEL⟩ : ∃ EL, E.length = EL := ⟨_, rfl⟩
    rw [hEL] at hvE hev hlo hhi
    obtain ⟨N, hN⟩ : ∃ N, EL = 2 * N := ⟨EL / 2, by omega⟩
    have HMORE := Lib.hid hmore
    have HEL := Lib.hid hEL
    have HNN := Lib.hid hN
    have HBE := Lib.hid hBE
    have HR1 := Lib.hid hB1
    have hN1 : 1 ≤ N := by omega
    have hN2 : N ≤ 505 := by omega
    have hEb : EL ≤ 1010 := by omega
    subst hvE
    obtain ⟨wy, hwy⟩ : ∃ wy, wx.alloc (.cells #[.slice none 0 0, .slice none 0 0] 56) = wy := ⟨_, rfl⟩
    have b0 : Below wx.heap.size wx wy := by rw [← hwy]; exact (Below.refl _ _).alloc (Nat.le_refl _) _
    have h0 : HeldB wy wx.heap.size (.slice none 0 0) (.slice none 0 0) := by rw [← hwy]; exact HeldB.new _ _ _
    have HWY := Lib.hid hwy
    clear hwy hE hmore hev hlo hhi hN hpm hEL hB2 HO2 HR
    go_upto_region 8 with fail
    rw [HWY.out]
    go_wp2_with fail
    go_loopw [9, 10, 11, 12] (fun i _ _ _ wr => ∃ (j : Nat) (C : List Nat) (vC vS : Value), 2 * j ≤ EL ∧ i = .int .i64 ((2 * j : Nat) : Int) ∧ Near1 (wordsT E j) C ∧ PairAt wx wx.heap.size vC vS wr vC vS (ints C) (ints (wordsT E j))) (fun i _ _ _ _ => EL - (intOf i).toNat)
    case atStart => exact ⟨0, [], _, _, by omega, rfl, ⟨rfl, fun i h => by simp at h⟩, h0, b0, OwnI.nil _ _, OwnI.nil _ _, fun b hb => by cases hb⟩
    case round =>
      obtain ⟨j, C, vC, vS, hj, rfl, hnear, hP⟩ := hrel
      by_cases hlt : 2 * j < EL
      · obtain ⟨I, hI⟩ : ∃ I, 2 * j = I := ⟨_, rfl⟩
        have hbE2 := HBE.out.below hP.below
        have hI1 : I + 1 < E.length := by rw [HEL.out]; have := HNN.out; omega
        obtain ⟨ad, hadd, -, c0⟩ := hbE2.get I (by omega)
        obtain ⟨ad', hadd', -, c1'⟩ := hbE2.get (I + 1) hI1
        subst hadd
        obtain rfl : ad = ad' := by injection hadd'
        have ha := E[I].toNat_lt
        have hb := E[I + 1].toNat_lt
        have hgI : (E.getD (2 * j) 0).toNat = E[I].toNat := by rw [hI]; simp [List.getD, show I < E.length by omega]
        have hgI1 : (E.getD (2 * j + 1) 0).toNat = E[I + 1].toNat := by rw [hI]; simp [List.getD, hI1]
        have hws : wordsT E (j + 1) = wordsT E j ++ [256 * E[I].toNat + E[I + 1].toNat] := by
          show wordsT E j ++ _ = _
          rw [hgI, hgI1]
        have HWS := Lib.hid hws
        have HNE := Lib.hid hnear
        have HWL := Lib.hid (wordsT_len E j)
        rw [hI]
        generalize E[I].toNat = a at *
        generalize E[I + 1].toNat = b at *
        have hi0 : (0 : Int) ≤ (I : Int) := by omega
        have hi1 : (I : Int) < (EL : Int) := by omega
        obtain ⟨I1, hI11⟩ : ∃ I1, I1 = I + 1 := ⟨_, rfl⟩
        rw [← hI11] at c1'
        have hi2 : (I1 : Int) < (EL : Int) := by rw [HEL.out] at hI1; omega
        have hi3 : (0 : Int) ≤ (I1 : Int) := by omega
        have hi4 : (I : Int) + 1 = (I1 : Int) := by omega
        have hi5 : IntKind.i64.wrap (I1 : Int) = (I1 : Int) := IntWalk.i64_in _ (by omega)
        have hi6 : IntKind.i64.wrap ((I : Int) + 1) = (I1 : Int) := by rw [hi4]; exact hi5
        clear hI11
        have HII := Lib.hid hI
        have HP := Lib.hid hP
        clear hadd' hgI hgI1 hws hnear hP hI hbE2 hI1
        go_wp2_with fail
        go_quiet (fail)
        go_wp2_with fail
        obtain ⟨wd, hwd⟩ : ∃ wd, wd = wr.drewN nq := ⟨_, rfl⟩
        have hPd : PairAt wx wx.heap.size vC vS wd vC vS (ints C) (ints (wordsT E j)) := by rw [hwd]; exact ⟨HP.out.held, below_draws HP.out.below _, HP.out.c, HP.out.s, HP.out.ne⟩
        rw [← hwd]
        obtain ⟨n, hn⟩ : ∃ n, n = 256 * a + b := ⟨_, rfl⟩
        have hn2 : n < 65536 := by omega
        have hnz : (a : Int) * 256 + (b : Int) = (n : Int) := by omega
        have hco : ∀ w, Calls Try.prog 29 #[.int .i64 ((a : Int) * 256 + (b : Int))] w fun e w' => e = .returned (.tuple #[.int .i64 ((codeN n : Nat) : Int), .int .i64 0]) ∧ w = w' := fun w => by
          have := Coded_any (n : Int) w
          rw [show codS (n : Int) = (((codeN n : Nat) : Int), 0) by unfold codS; rw [if_pos ⟨by omega, by omega⟩]; simp, ← hnz] at this
          exact this
        have HCO := Lib.hid hco
        have HNZ := Lib.hid hnz
        have HN := Lib.hid hn
        have HPD := Lib.hid hPd
        have HCL := Lib.hid (code_lt n)
        have HFLP := Lib.hid (fun A (hA : A < 22) => flip_lt (codeN n) A hA (code_lt n))
        have HXU := Lib.hid (fun A (hA : A < 22) => xor_up (codeN n) A (code_lt n) hA)
        have HFD := Lib.hid ((HFL.out.below (hwE.trans (hPd.below.mono hwE.size))).lift (B' := wd.heap.size) (hwE.trans (hPd.below.mono hwE.size)).size)
        clear hwd hco hnz hn hPd c0 c1' hi2 hi3 hi4 hi5 hi6
        refine (HCO.out _).mono ?_
        rintro e w' ⟨rfl, rfl⟩
        go_upto_if 73 with fail
        go_cut [11] (fun s11 wc2 => ∃ c : Nat, s11 = .int .i64 (c : Int) ∧ (c = codeN n ∨ ∃ A, A < 22 ∧ c = codeN n ^^^ 2 ^ A) ∧ wd = wc2)
        case first =>
          by_cases hL0 : fl.length = 0
          · have t0 : ¬ (0 : Int) < (fl.length : Int) := by omega
            clear hL0
            go_wp2_with fail
            go_meet
            exact ⟨codeN n, rfl, .inl rfl, rfl⟩
          · have t0 : (0 : Int) < (fl.length : Int) := by omega
            have hQl : j % fl.length < fl.length := Nat.mod_lt _ (by omega)
            obtain ⟨adF, haddF, -, f0⟩ := HFD.out.get (j % fl.length) hQl
            have hx := HFI.out (j % fl.length) hQl
            subst haddF
            have hqm : (j : Int) % (fl.length : Int) = ((j % fl.length : Nat) : Int) := (Int.natCast_emod j _).symm
            generalize fl[j % fl.length] = x at *
            generalize j % fl.length = Q at *
            have hBL := fun w => belowN_any x 22 w (by omega) (by omega) hx
            have hp1 : 0 ≤ x % 22 ∧ x % 22 < 22 := by omega
            simp only [Int.cast_ofNat_Int] at hBL
            generalize x % 22 = A' at *
            obtain ⟨AA, rfl⟩ : ∃ A : Nat, A' = (A : Int) := ⟨A'.toNat, by omega⟩
            have hAA : AA < 22 := by omega
            have w1' := wpow AA (by omega)
            rw [show ((2 ^ AA : Nat) : Int) = (2 : Int) ^ AA by simp] at w1'
            have HXA := Lib.hid (HXU.out AA hAA)
            have HBL := Lib.hid hBL
            have q0 : (I : Int) / 2 = (j : Int) := by have := HII.out; omega
            have q1 : IntKind.i64.wrap (j : Int) = (j : Int) := IntWalk.i64_in _ (by omega)
            have q2 : IntKind.i64.wrap (Q : Int) = (Q : Int) := IntWalk.i64_in _ (by omega)
            have q3 : (0 : Int) ≤ (Q : Int) := by omega
            have q4 : (Q : Int) < (fl.length : Int) := by omega
            have q5 : ¬ ((fl.length : Int) = 0) := by omega
            clear hBL hx hp1 hL0 hQl
            go_wp2_with fail
            refine (HBL.out _).mono ?_
            rintro e w' ⟨rfl, rfl⟩
            go_wp2_with fail
            go_meet
            exact ⟨codeN n ^^^ 2 ^ AA, by rw [HXA.out], .inr ⟨AA, hAA, rfl⟩, rfl⟩
        case rest =>
          obtain ⟨X, rfl, hX, rfl⟩ := hcut
          have hl1 : (ints C).length ≤ j := by have := HNE.out.1; rw [ints_len]; have := HWL.out; omega
          have hl2 : (ints (wordsT E j)).length ≤ j := by rw [ints_len, HWL.out]; exact Nat.le_refl _
          have HT1 : Hid (ints (C ++ [X]) = ints C ++ [(X : Int)]) := Lib.hid (ints_snoc _ _)
          have HT2 : Hid (ints (wordsT E (j + 1)) = ints (wordsT E j) ++ [(a : Int) * 256 + (b : Int)]) := Lib.hid (by rw [HWS.out, ints_snoc, ← HN.out, HNZ.out])
          have HNR : Hid (Near1 (wordsT E (j + 1)) (C ++ [X])) := Lib.hid (by rw [HWS.out, ← HN.out]; exact near_snoc HNE.out hX)
          have hjj : j ≤ 505 := by omega
          clear hX HWS HCO HFLP HXU HFD HCL
          generalize hLC : ints C = LC at *
          generalize hLS : ints (wordsT E j) = LS at *
          obtain ⟨Z, hZ⟩ : ∃ Z : Int, Z = (a : Int) * 256 + (b : Int) := ⟨_, rfl⟩
          rw [← hZ] at HT2 ⊢
          have hPd := HPD.out
          obtain ⟨p1, p2⟩ := hPd.held.cells
          have f1 := hPd.held.free 0
          have f2 := hPd.held.free 1
          have zwr := hPd.held.lt
          have HP0 := HPD
          have HLE1 : Hid ((LC.length + 1) * 8 ≤ 140737488355328) := Lib.hid (by omega)
          have HLE2 : Hid ((LS.length + 1) * 8 ≤ 140737488355328) := Lib.hid (by omega)
          have HZ := Lib.hid hZ
          clear HP hPd hLC hLS hl1 hl2 hZ hn2 ha hb
          have HP := HP0
          go_upto_region 17 with fail
          have hI2 : (I : Int) + 2 = ((2 * (j + 1) : Nat) : Int) := by have := HII.out; omega
          have HI2 := Lib.hid hI2
          have HJL : Hid (2 * (j + 1) ≤ EL) := Lib.hid (by have := HII.out; have := HNN.out; omega)
          have HMS : Hid (EL - 2 * (j + 1) < EL - I) := Lib.hid (by have := HII.out; have := HNN.out; omega)
          have hIb : I ≤ 1010 := by omega
          clear hI2
          try clear hfl
          try clear h4
          try clear h5
          try clear HRD
          try clear HLEN
          try clear HA
          try clear HFL
          try clear HFI
          try clear HW0
          try clear CB
          try clear hb1
          try clear hs1
          try clear hw1
          try clear hB1
          try clear hb2
          try clear hs2
          try clear hPl
          try clear hPg
          try clear HPL
          try clear hR2
          try clear hbE
          try clear hzE
          try clear hwE
          try clear hzwx
          try clear HMORE
          try clear HEL
          try clear HNN
          try clear HBE
          try clear HR1
          try clear hN1
          try clear hN2
          try clear hEb
          try clear b0
          try clear h0
          try clear HWY
          try clear hj
          try clear hlt
          try clear HII
          try clear HNE
          try clear HWL
          try clear HN
          try clear HNZ
          try clear HZ
          try clear HPD
          go_region_law ((rw [if_pos (by rfl)]; first | (refine step_C (w := wx) (P := wx.heap.size) (vC0 := vC) (vS0 := vS) HP0.out.c (by first | with_reducible exact (HP.out.alloc _).drew | with_reducible exact ((HP.out.alloc _).alloc _).drew | with_reducible exact HP.out.alloc _ | with_reducible exact HP.out | with_reducible exact (HP.out.alloc _).alloc _ | with_reducible exact HP.out.drew) (.tmp 87) (.tmp 89) rfl _ _ (X : Int) rfl rfl (by first | (simp; done) | (rw [HL4.out _ (by omega) (by first | (simp; done) | (simp; omega))]; simp; done)) HLE1.out ?_; intro A3 c3 w3 HP HL3 zz3; obtain ⟨c30, c31⟩ := HP.out.held.cells; have f30 := HP.out.held.free 0; have f31 := HP.out.held.free 1; have z3 := HP.out.held.lt) | (refine step_S (w := wx) (P := wx.heap.size) (vC0 := vC) (vS0 := vS) HP0.out.s (by first | with_reducible exact (HP.out.alloc _).drew | with_reducible exact ((HP.out.alloc _).alloc _).drew | with_reducible exact HP.out.alloc _ | with_reducible exact HP.out | with_reducible exact (HP.out.alloc _).alloc _ | with_reducible exact HP.out.drew) (.tmp 92) (.tmp 94) rfl _ _ (Z : Int) rfl rfl (by first | (simp; done) | (rw [HL3.out _ (by omega) (by first | (simp; done) | (simp; omega))]; simp; done)) HLE2.out ?_; intro A4 c4 w4 HP HL4 zz4; obtain ⟨c40, c41⟩ := HP.out.held.cells; have f40 := HP.out.held.free 0; have f41 := HP.out.held.free 1; have z4 := HP.out.held.lt)))
          all_goals
            go_wp2_with fail
            go_roundw
            case rel =>
              first
              | exact ⟨j + 1, C ++ [X], _, _, HJL.out, (by rw [HI2.out]), HNR.out, (by rw [HT1.out, HT2.out]; with_reducible exact HP.out.sets)⟩
              | exact ⟨j + 1, C ++ [X], _, _, HJL.out, (by rw [HI2.out]), HNR.out, (by rw [HT1.out, HT2.out]; with_reducible exact HP.out.sets')⟩
              | exact ⟨j + 1, C ++ [X], _, _, HJL.out, (by rw [HI2.out]), HNR.out, (by rw [HT1.out, HT2.out]; with_reducible exact HP.out.sets.drew)⟩
              | exact ⟨j + 1, C ++ [X], _, _, HJL.out, (by rw [HI2.out]), HNR.out, (by rw [HT1.out, HT2.out]; with_reducible exact HP.out.sets'.drew)⟩
            case measure =>
              rw [HI2.out]
              simp only [intOf, Int.toNat_natCast]
              exact HMS.out
      · obtain rfl : N = j := by have := HNN.out; omega
        rw [show 2 * N = EL from HNN.out.symm]
        have hws : (wordsT E N).length = N := wordsT_len E N
        have hwlt := wordsT_lt E N
        have hCl : C.length = N := by rw [hnear.1, hws]
        obtain ⟨C', D, hsc, hCl', hrd⟩ := near_top hnear (by rw [hws]; omega) (by rw [hws]; omega) hwlt (N / 2) (by omega)
        rw [hws] at hCl'
        have hbr := hP.below
        have hzr := hP.held.lt
        have hheld := hP.held
        obtain ⟨AC, cC, rfl, hIC⟩ := hP.c.form
        obtain ⟨AS, cS, rfl, hIS⟩ := hP.s.form
        have hlC : (ints C).length = N := by rw [ints_len, hCl]
        have hlS : (ints (wordsT E N)).length = N := by rw [ints_len, hws]
        have hscr := fun (w' : World) (hb : Below wr.heap.size wr w') => scrubbed_any AC AS cC cS (ints C) (ints (wordsT E N)) 0 ((N / 2 : Nat) : Int) wr.heap.size w' hb.size (by omega) (by omega) (hIC.below hb) (hIS.below hb)
        rw [hsc] at hscr
        unfold ScrubPost bankV at hscr
        simp only [ints_len, hCl, hws, hCl'] at hscr
        rw [hlC, hlS] at hheld
        obtain ⟨p1, p2⟩ := hheld.cells
        have HSC := Lib.hid hscr
        have HRDD := Lib.hid hrd
        have HWG := Lib.hid (wordsT_get E N)
        have hq0 : (N : Int) / 2 = ((N / 2 : Nat) : Int) := (Int.natCast_ediv N 2).symm
        have hq1 : -9223372036854775808 ≤ ((N / 2 : Nat) : Int) ∧ ((N / 2 : Nat) : Int) ≤ 9223372036854775807 := by omega
        generalize N / 2 = M at *
        have hq2 : IntKind.i64.wrap (M : Int) = (M : Int) := IntWalk.i64_in _ hq1
        have hwr0 : Below w.heap.size w wr := hwE.trans (hbr.mono hwE.size)
        have HWR0 := Lib.hid hwr0
        have HWX := Lib.hid (show Below w1.heap.size w1 wr from hbE.trans (hbr.mono hbE.size))
        have HNN2 := Lib.hid (show EL = 2 * N from HNN.out)
        have HCL2 := Lib.hid hCl'
        clear hscr hrd hnear hP hIC hIS hwlt hsc hlC hlS hq1 hlt hj hws hCl hCl' hwr0
        go_wp2_with fail
        refine (HSC.out wr (Below.refl _ _)).mono ?_
        rintro e w4 ⟨A4, A4', c4, c4', D4, k4, rfl, hI4, hI4', -, hb4, -, -, -⟩
        have hz4 := hb4.size
        obtain ⟨p3, p4⟩ := (hheld.below hb4 hheld.lt).cells
        have hw4 := HWR0.out.trans (hb4.mono HWR0.out.size)
        obtain ⟨wz, hwz⟩ : ∃ wz, w4.alloc (.cells #[.slice A4 N c4, .slice A4' N c4'] 56) = wz := ⟨_, rfl⟩
        have bz : Below w4.heap.size w4 wz := by rw [← hwz]; exact (Below.refl _ _).alloc (Nat.le_refl _) _
        have hz5 : HeldB wz w4.heap.size (.slice A4 N c4) (.slice A4' N c4') := by rw [← hwz]; exact HeldB.new _ _ _
        have gI4 := (hI4.below bz).lift bz.size
        have gI4' := (hI4'.below bz).lift bz.size
        have gp := ((hheld.below hb4 hheld.lt).below bz (by have := hheld.lt; omega))
        have HWZ := Lib.hid hwz
        clear hwz p1 p2 hq0 hq2 HSC hI4 hI4' hheld
        go_upto_region 19 with fail
        rw [HWZ.out]
        obtain ⟨p5, p6⟩ := gp.cells
        clear p3 p4 HWZ
        go_wp2_with fail
        go_loopw [15, 16, 17, 18, 19, 113] (fun v _ _ _ _ i wq => ∃ k : Nat, k ≤ N ∧ i = .int .i64 (k : Int) ∧ Own wq wz.heap.size v (E.take (2 * k)) ∧ Below wz.heap.size wz wq) (fun _ _ _ _ _ i _ => N - (intOf i).toNat)
        case atStart => exact ⟨0, Nat.zero_le _, rfl, by simpa using Own.nil wz wz.heap.size, Below.refl _ _⟩
        case round =>
          obtain ⟨k, hk, rfl, hO, hbq⟩ := hrel
          have hzq := hbq.size
          by_cases hlt : k < N
          · obtain ⟨p1, p2⟩ := (hz5.below hbq hz5.lt).cells
            obtain ⟨q, hrq⟩ := HRDD.out k (by rw [wordsT_len]; exact hlt)
            have hwk := HWG.out k (by rw [wordsT_len]; exact hlt)
            have hra := readAt_any A4 A4' c4 c4' (ints C') (ints (wordsT E N)) (k : Int) wz.heap.size wr hzq (by rw [ints_len, HCL2.out]; omega) (by rw [ints_len, wordsT_len]; omega) (gI4.below hbq) (gI4'.below hbq)
            rw [hrq, hwk] at hra
            unfold bankV three' at hra
            simp only [ints_len, HCL2.out, wordsT_len] at hra
            have htk := take_two E k (by rw [HEL.out]; have := HNN2.out; omega)
            have hal := (E.getD (2 * k) 0).toNat_lt
            have hbl := (E.getD (2 * k + 1) 0).toNat_lt
            have htl : (E.take (2 * k)).length = 2 * k := by rw [List.length_take, HEL.out]; have := HNN2.out; omega
            have HTK := Lib.hid htk
            have HTL := Lib.hid htl
            have HRA := Lib.hid hra
            generalize E.getD (2 * k) 0 = xa at *
            generalize E.getD (2 * k + 1) 0 = xb at *
            obtain ⟨a, ha⟩ : ∃ a, xa.toNat = a := ⟨_, rfl⟩
            obtain ⟨b, hb⟩ : ∃ b, xb.toNat = b := ⟨_, rfl⟩
            rw [ha] at hal HRA
            rw [hb] at hbl HRA
            obtain ⟨n, hn⟩ : ∃ n, n = 256 * a + b := ⟨_, rfl⟩
            rw [← hn] at HRA
            have HNE := Lib.hid hn
            have HAE := Lib.hid ha
            have HBE' := Lib.hid hb
            have hn2 : n < 65536 := by omega
            have r1 : (n : Int) / 256 = (a : Int) := by omega
            have r2 : (n : Int) % 256 = (b : Int) := by omega
            have r3 : (a : Int) % 256 = (a : Int) := by omega
            have HO := Lib.hid hO
            have R1 := Lib.hid r1
            have R2 := Lib.hid r2
            have R3 := Lib.hid r3
            clear hrq hwk hra htk htl ha hb hn hO r1 r2 r3
            go_wp2_with fail
            refine HRA.out.mono ?_
            rintro e w6 ⟨rfl, hb6⟩
            go_upto_region 28 with fail
            have r1 := R1.out
            have r2 := R2.out
            have r3 := R3.out
            have hn0 : (0 : Int) ≤ (n : Int) := by omega
            have hn3 : (n : Int) ≤ 65535 := by omega
            have HCE : Hid (#[Value.int .u8 (a : Int), Value.int .u8 (b : Int)] = ([xa, xb].map bv).toArray) := Lib.hid (by simp [bv, HAE.out, HBE'.out])
            have HO6 := Lib.hid (HO.out.after hb6 (Nat.le_refl _))
            have hbq6 := hbq.trans (hb6.mono hzq)
            have HL1 : Hid ((E.take (2 * k)).length + 2 ≤ maxLen) := Lib.hid (by rw [HTL.out]; unfold maxLen; omega)
            have HL2 : Hid (((E.take (2 * k)).length + 2) * 1 ≤ 140737488355328) := Lib.hid (by rw [HTL.out]; omega)
            have HL3 : Hid (wz.heap.size ≤ (w6.alloc (.cells #[Value.int .u8 (a : Int), Value.int .u8 (b : Int)] 5)).heap.size) := Lib.hid (by have := hbq6.size; simp; omega)
            clear hn2 hal hbl
            go_wp2_with (first
              | (at_builtin; go_loud (refine wpList_app _ rfl (.tmp 125) (.tmp 131) 22 5 1 1 rfl elem8 wz.heap.size u15 (E.take (2 * k)).length ((E.take (2 * k)).map bv) rfl (World.ownsRow.alloc HO6.out _) (w6.heap.size + 1) _ 2 2 ([xa, xb].map bv) rfl rfl (Cells.fresh' w6 ([xa, xb].map bv) 5 (0, 0) _ HCE.out) (bv_one _) HL1.out HL2.out HL3.out ?_); intro v7 w7 hown7 hgrow7 hat7)
              | fail)
            have hd2 := (hbq6.alloc hbq6.size (.cells #[Value.int .u8 (a : Int), Value.int .u8 (b : Int)] 5)).grown hgrow7 HL3.out (fun k hk => (World.ownsRow.lt HO6.out k hk).1)
            have HO7 := Lib.hid (Own.of (a := E.take (2 * k)) (b := [xa, xb]) hown7 rfl)
            clear hown7 hgrow7 hat7 r1 r2 r3
            go_wp2_with fail
            go_roundw
            case rel => exact ⟨k + 1, by omega, by go_num, by rw [HTK.out]; exact HO7.out, hd2⟩
            case measure => simp [intOf]; omega
          · obtain rfl : N = k := by omega
            have hE : E.take (2 * N) = E := List.take_of_length_le (by rw [HEL.out, HNN2.out]; exact Nat.le_refl _)
            rw [hE] at hO
            clear hE
            go_wp2_with fail
            have hre : readP E = readP (P ++ HMORE.out.choose) := congrArg readP HMORE.out.choose_spec
            rw [HRD.out, show 8 + (l.length : Int) = (PL : Int) by have := HLEN.out; have := HPL.out; omega] at hre
            have hrd := readOwn_any _ u15 E wr hO (by rw [HEL.out]; omega)
            rw [hre] at hrd
            unfold ReadPost at hrd
            simp only at hrd
            have hbw1 : Below w1.heap.size w1 w4 := HWX.out.trans (hb4.mono HWX.out.size)
            have hbw2 : Below w1.heap.size w1 wz := hbw1.trans (bz.mono hbw1.size)
            have hbw3 : Below w1.heap.size w1 wr := hbw2.trans (hbq.mono hbw2.size)
            refine hrd.mono ?_
            rintro e w8 ⟨A8, c8, rfl, ho8, hc8⟩
            have hbw4 : Below w1.heap.size w1 w8 := hbw3.trans (hc8.mono hbw3.size)
            have hb8 : Below (w.heap.size + 1) W0 w8 := hb1.trans (hbw4.mono hs1)
            have hw8 : Below w.heap.size w w8 := hw1.trans (hbw4.mono hw1.size)
            have hs8 : w.heap.size + 1 ≤ w8.heap.size := Nat.le_trans hs1 hbw4.size
            have hcell := fun k => Below.at_ hb8 w.heap.size (by omega) k
            rw [HW0.out] at hcell
            have hz8 : w.heap.size < w8.heap.size := by omega
            have hsame : ∀ o : Obj, Calls Try.prog 34 #[pv s cm pt nm A l.length cap, pv s cm pt nm A8 l.length c8] (w8.alloc o) fun e w' => e = .returned (.bool true) ∧ Below (w8.alloc o).heap.size (w8.alloc o) w' := by
              intro o
              have hb : Below w8.heap.size w8 (w8.alloc o) := (Below.refl _ _).alloc (Nat.le_refl _) _
              exact same_yes s cm pt nm A A8 cap c8 l (w8.alloc o) (by omega) (((HA.out.below hw8).lift hw8.size).below hb |>.lift hb.size) (((Own.read ho8).2.below hb).lift hb.size)
            unfold pv at hsame ⊢
            have HS := Lib.hid hsame
            clear hsame ho8 hO hz5 gI4 gI4' gp p5 p6 hbw1 hbw2 hbw3 hb8 hre hrd
            go_wp2_with fail
            refine (HS.out _).mono ?_
            rintro e w9 ⟨rfl, hb9⟩
            have e9 : Below w8.heap.size w8 w9 := ((Below.refl _ _).alloc (Nat.le_refl _) _).trans (hb9.mono (by simp))
            clear HS hcell
            go_wp2_with fail
            refine (works_any _).mono ?_
            rintro e w10 ⟨rfl, hb10⟩
            go_wp2
            go_ret
            have hx := e9.trans (hb10.mono e9.size)
            exact ⟨rfl, hw8.trans (hx.mono hw8.size)⟩
end Go.Proofs.Ytpccpkjfnmclfaa
