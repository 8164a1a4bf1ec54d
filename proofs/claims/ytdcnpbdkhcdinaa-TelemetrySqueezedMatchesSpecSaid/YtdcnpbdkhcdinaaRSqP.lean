/- the reference's Squeezed whole. -/
import Derived.Test.YtdcnpbdkhcdinaaRSqW
import Derived.Test.YtdcnpbdkhcdinaaConcat
namespace Go.Proofs.Ytdcnpbdkhcdinaa
open Go.RowKit

theorem same_stop (b : Int) : ∀ (l : List Int) (h : sameN b l < l.length), l[sameN b l] ≠ b
  | [], h => by simp at h
  | x :: l, h => by
    by_cases hx : x = b
    · have e : sameN b (x :: l) = sameN b l + 1 := by simp [sameN, hx]
      simp only [e] at h ⊢
      simp only [List.getElem_cons_succ]
      exact same_stop b l (by simpa using h)
    · have e : sameN b (x :: l) = 0 := by simp [sameN, hx]
      simp only [e]
      exact hx
theorem same_each (b : Int) (l : List Int) (q : Nat) (hq : q < sameN b l) : ∃ h : q < l.length, l[q] = b := by
  have hl : q < l.length := Nat.lt_of_lt_of_le hq (same_le b l)
  refine ⟨hl, ?_⟩
  have h1 := same_all b l
  have h2 : (l.take (sameN b l))[q]? = some b := by rw [h1]; simp [hq]
  rw [List.getElem?_take, if_pos hq, List.getElem?_eq_getElem hl] at h2
  injection h2
theorem big_two (n : Nat) (h : n < 65536) : bigE n 2 = [UInt8.ofNat (n / 256), UInt8.ofNat n] := by
  simp [bigE]
set_option maxRecDepth 100000 in
set_option maxHeartbeats 400000 in
theorem rwithin2_any (n a b : Int) (w : World) : Calls Try.prog 40 #[.int .i64 n, .int .i64 a, .int .i64 b] w fun e w' => e = .returned (.bool (decide (a ≤ n ∧ n ≤ b))) ∧ w = w' := by
  by_cases h1 : a ≤ n
  · by_cases h2 : n ≤ b
    · have E := Lib.hid (decide_eq_true (show a ≤ n ∧ n ≤ b from ⟨h1, h2⟩))
      go_enter Try.func40, Try.ntmps40
      go_wp2_with fail
      go_ret
      first | exact ⟨by rw [E.out]; rfl, rfl⟩ | exact ⟨rfl, rfl⟩
    · have E := Lib.hid (decide_eq_false (show ¬ (a ≤ n ∧ n ≤ b) from fun h => h2 h.2))
      have d2 : decide (n ≤ b) = false := decide_eq_false h2
      go_enter Try.func40, Try.ntmps40
      go_wp2_with fail
      go_ret
      first | exact ⟨by rw [E.out]; rfl, rfl⟩ | exact ⟨rfl, rfl⟩
  · have E := Lib.hid (decide_eq_false (show ¬ (a ≤ n ∧ n ≤ b) from fun h => h1 h.1))
    have d1 : decide (a ≤ n) = false := decide_eq_false h1
    go_enter Try.func40, Try.ntmps40
    go_wp2_with fail
    go_ret
    first | exact ⟨by rw [E.out]; rfl, rfl⟩ | exact ⟨rfl, rfl⟩
theorem rsq_bad {l : List Int} (h1 : ¬ 5000 < l.length) (j : Nat) (hj : j < l.length) (h : ¬ meaB l[j] = true) : sqF l = 1 := by
  unfold sqF
  rw [if_neg h1, if_neg]
  intro h2
  exact h (List.all_eq_true.1 h2 _ (List.getElem_mem hj))
set_option maxRecDepth 100000 in
set_option maxHeartbeats 8000000 in
theorem r_squeezed_any (A : Option Addr) (l : List Int) (c B : Nat) (w : World) (hB : B ≤ w.heap.size) (hll : l.length ≤ 9223372036854775807) (h : IR w B A l) :
    Calls Try.prog 11 #[.slice A l.length c] w fun e w' => ∃ v, e = .returned (.tuple #[v, .int .i64 (sqF l)]) ∧ Own w' w.heap.size v (sqR l) ∧ Below w.heap.size w w' := by
  have HF := Lib.hid (show sqF l = if 5000 < l.length then 2 else if l.all meaB = true then 0 else 1 from rfl)
  have HR := Lib.hid (show sqR l = if sqF l = 0 then bigE l.length 2 ++ sqz 0 l else [] from rfl)
  by_cases h5 : 5000 < l.length
  · have i5 : (5000 : Int) < (l.length : Int) := by omega
    have hf : sqF l = 2 := by rw [HF.out, if_pos h5]
    have hr : sqR l = [] := by rw [HR.out, if_neg (by omega)]
    rw [hf, hr]
    clear hf hr HF HR
    go_enter Try.func11, Try.ntmps11
    go_wp2_with fail
    go_ret2
    exact ⟨_, rfl, Own.nil _ _, Below.refl _ _⟩
  · have i5 : (l.length : Int) ≤ 5000 := by omega
    have HBAD := Lib.hid (fun j hj hm => rsq_bad (l := l) h5 j hj hm)
    go_enter Try.func11, Try.ntmps11
    go_wp2_with fail
    go_loopw [16] (fun i wr => ∃ j : Nat, j ≤ l.length ∧ i = .int .i64 j ∧ (l.take j).all meaB = true ∧ w = wr) (fun i _ => l.length - (intOf i).toNat)
    case atStart => exact ⟨0, Nat.zero_le _, rfl, by simp, rfl⟩
    case round =>
      obtain ⟨j, hj, rfl, hall, rfl⟩ := hrel
      by_cases hlt : j < l.length
      · obtain ⟨ad, hA, -, hc⟩ := h.get j hlt
        have hi0 : (0 : Int) ≤ (j : Int) := by omega
        have hi1 : (j : Int) < (l.length : Int) := by omega
        have HM := Lib.hid (show ∀ w, Calls Try.prog 40 #[.int .i64 l[j], .int .i64 (-1000000000), .int .i64 1000000000] w fun e w' => e = .returned (.bool (meaB l[j])) ∧ w = w' from fun w => rwithin2_any l[j] (-1000000000) 1000000000 w)
        have HT : Hid ((l.take (j + 1)).all meaB = meaB l[j]) := Lib.hid (by rw [List.take_succ_eq_append_getElem hlt, List.all_append, hall]; simp)
        have HBJ := Lib.hid (HBAD.out j hlt)
        clear h
        subst hA
        generalize l[j] = x at *
        by_cases hm : meaB x = true
        · rw [hm] at HT HM
          go_wp2_with fail
          refine (HM.out _).mono ?_
          rintro e w' ⟨rfl, rfl⟩
          go_wp2_with fail
          go_roundw
          case rel => exact ⟨j + 1, by omega, by go_num, HT.out, trivial⟩
          case measure => simp [intOf]; omega
        · have hf := HBJ.out hm
          have hr : sqR l = [] := by rw [HR.out, if_neg (by omega)]
          have hm2 : meaB x = false := by simpa using hm
          rw [hm2] at HM
          have HX := Lib.hid (And.intro hf hr)
          clear hf hr HF HR hm
          go_wp2_with fail
          refine (HM.out _).mono ?_
          rintro e w' ⟨rfl, rfl⟩
          go_wp2_with fail
          go_ret2
          rw [HX.out.1, HX.out.2]
          exact ⟨_, rfl, Own.nil _ _, Below.refl _ _⟩
      · obtain rfl : j = l.length := by omega
        rw [List.take_length] at hall
        have hf : sqF l = 0 := by rw [HF.out, if_neg h5, if_pos hall]
        have hr : sqR l = bigE l.length 2 ++ sqz 0 l := by rw [HR.out, if_pos hf]
        have HX := Lib.hid (And.intro hf hr)
        have HAL := Lib.hid (List.all_eq_true.1 hall)
        clear hf hr HF HR hall HBAD
        have hlen2 := big_two l.length (by omega)
        obtain ⟨b1, hb1⟩ : ∃ b1 : UInt8, UInt8.ofNat (l.length / 256) = b1 := ⟨_, rfl⟩
        obtain ⟨b2, hb2⟩ : ∃ b2 : UInt8, UInt8.ofNat l.length = b2 := ⟨_, rfl⟩
        have v1 : (l.length : Int) / 256 % 256 = (b1.toNat : Int) := by rw [← hb1, show (UInt8.ofNat (l.length / 256)).toNat = l.length / 256 % 256 from UInt8.toNat_ofNat']; omega
        have v1' : (l.length : Int) / 256 = (b1.toNat : Int) := by rw [← hb1, u8_nat _ (by omega)]; omega
        have v2 : (l.length : Int) % 256 = (b2.toNat : Int) := by rw [← hb2, show (UInt8.ofNat l.length).toNat = l.length % 256 from UInt8.toNat_ofNat']; omega
        rw [hb1, hb2] at hlen2
        have HLEN := Lib.hid hlen2
        have hO0 : Own (w.alloc (.cells #[.int .u8 (b1.toNat : Int), .int .u8 (b2.toNat : Int)] 5)) w.heap.size (.slice (some ⟨w.heap.size, 0, none⟩) 2 2) [b1, b2] := World.ownsRow_lit (e := 5) (size := 1) w _ 2 (Nat.le_refl _) (by simp [maxLen]) rfl
        have hB0 : Below w.heap.size w (w.alloc (.cells #[.int .u8 (b1.toNat : Int), .int .u8 (b2.toNat : Int)] 5)) := (Below.refl _ _).alloc (Nat.le_refl _) _
        clear hb1 hb2 hlen2
        go_wp2_with fail
        go_loopw [6, 7, 8] (fun u s i wr => ∃ (j : Nat) (before : Int) (X : List UInt8), j ≤ l.length ∧ i = .int .i64 j ∧ s = .int .i64 before ∧ (-1000000000 ≤ before ∧ before ≤ 1000000000) ∧ bigE l.length 2 ++ sqz 0 l = X ++ sqz before (l.drop j) ∧ X.length ≤ 2 + 5 * j ∧ Own wr w.heap.size u X ∧ Below w.heap.size w wr) (fun _ _ i _ => l.length - (intOf i).toNat)
        case atStart => exact ⟨0, 0, [b1, b2], Nat.zero_le _, rfl, rfl, by omega, by rw [HLEN.out]; rfl, by simp, hO0, hB0⟩
        case round =>
          obtain ⟨j, before, X, hj, rfl, rfl, hbd, hE, hX, ho, hbr⟩ := hrel
          clear hO0 hB0 v1 v1' v2
          have hzr := hbr.size
          by_cases hlt : j < l.length
          · have hi0 : (0 : Int) ≤ (j : Int) := by omega
            have hi1 : (j : Int) < (l.length : Int) := by omega
            have hdl : (l.drop j).length = l.length - j := by simp
            have hsl := same_le before (l.drop j)
            rw [hdl] at hsl
            have HE := Lib.hid hE
            have hxb := HAL.out _ (List.getElem_mem hlt)
            unfold meaB at hxb
            simp only [decide_eq_true_eq] at hxb
            have HROW := Lib.hid (@sqz_row before (l.drop j))
            have HONE : Hid (¬ 3 ≤ sameN before (l.drop j) → sqz before (l.drop j) = grpN (zigN (l[j] - before)) ++ sqz l[j] (l.drop (j + 1))) := Lib.hid (fun h3 => by
              rw [List.drop_eq_getElem_cons hlt] at h3 ⊢
              exact sqz_one h3)
            rw [List.drop_drop] at HROW
            have HCELL : Hid (∀ (w8 : World) (hb : Below w.heap.size w w8) (q : Nat) (hq : q < l.length), ∃ ad, A = some ad ∧ w8.cell? (ad.add q) = some (.int .i64 l[q])) := Lib.hid (fun w8 hb q hq => by
              obtain ⟨ad, a, -, d⟩ := (h.below (hb.mono hB)).get q hq
              exact ⟨ad, a, d⟩)
            have HEACH : Hid (∀ q (hq : q < sameN before (l.drop j)), ∃ hq2 : j + q < l.length, l[j + q] = before) := Lib.hid (fun q hq => by
              obtain ⟨h1, h2⟩ := same_each before (l.drop j) q hq
              refine ⟨by simp at h1; omega, ?_⟩
              simpa using h2)
            have HSTOP : Hid (∀ hq2 : j + sameN before (l.drop j) < l.length, l[j + sameN before (l.drop j)] ≠ before) := Lib.hid (fun hq2 => by
              have := same_stop before (l.drop j) (by simp; omega)
              simpa using this)
            generalize hM : sameN before (l.drop j) = M at *
            obtain ⟨x, hxe⟩ : ∃ x, l[j] = x := ⟨_, rfl⟩
            have HXE := Lib.hid hxe
            rw [hxe] at hxb HONE
            obtain ⟨ad, hA, -⟩ := HCELL.out wr hbr j hlt
            subst hA
            clear hxe hE h hM
            go_wp2_with fail
            go_loopw [9] (fun s w6 => ∃ q : Nat, s = .int .i64 q ∧ q ≤ M ∧ w6 = wr) (fun s _ => M - (intOf s).toNat)
            case atStart => exact ⟨0, rfl, Nat.zero_le _, rfl⟩
            case round =>
              obtain ⟨q, rfl, hqM, rfl⟩ := hrel
              have q0 : (0 : Int) ≤ (q : Int) := by omega
              have q1 : (q : Int) ≤ 5000 := by omega
              by_cases hq : q < M
              · obtain ⟨hq2, hqe⟩ := HEACH.out q hq
                obtain ⟨ad2, hA2, hc⟩ := HCELL.out wr hbr (j + q) hq2
                obtain rfl : ad = ad2 := by injection hA2
                rw [hqe] at hc
                have e1 : (j : Int) + (q : Int) < (l.length : Int) := by omega
                have e2 : (before == before) = true := by simp
                go_wp2_with fail
                go_roundw
                case rel => exact ⟨q + 1, by go_num, by omega, trivial⟩
                case measure => simp [intOf]; omega
              · obtain rfl : q = M := by omega
                by_cases hjm : j + q < l.length
                · have hst := HSTOP.out hjm
                  obtain ⟨ad2, hA2, hc⟩ := HCELL.out wr hbr (j + q) hjm
                  obtain rfl : ad = ad2 := by injection hA2
                  have e1 : (j : Int) + (q : Int) < (l.length : Int) := by omega
                  have e2 : (l[j + q] == before) = false := by simpa using hst
                  generalize l[j + q] = y at *
                  clear hst HSTOP HEACH
                  by_cases h3 : 3 ≤ q
                  · have i3 : (3 : Int) ≤ (q : Int) := by omega
                    have HRW := Lib.hid (HROW.out h3)
                    have hg2 : (grpN q).length ≤ 2 := grp_len 1 q (by omega)
                    obtain ⟨A6, c6, hu6, hr6⟩ := ho.form
                    have bA : Below wr.heap.size wr (wr.alloc (.cells #[.int .u8 128, .int .u8 0] 5)) := (Below.refl _ _).alloc (Nat.le_refl _) _
                    have hrA := hr6.below bA
                    have hmA : BR (wr.alloc (.cells #[.int .u8 128, .int .u8 0] 5)) (wr.heap.size + 1) (some ⟨wr.heap.size, 0, none⟩) [128, 0] := Cells.fresh wr _ 5 (0, 0) _ rfl
                    have hzA : (wr.alloc (.cells #[.int .u8 128, .int .u8 0] 5)).heap.size = wr.heap.size + 1 := by simp
                    have HGR := Lib.hid (rgroups_any q (wr.alloc (.cells #[.int .u8 128, .int .u8 0] 5)) (by omega))
                    have BA := hbr.trans (bA.mono hzr)
                    subst hu6
                    have HO := Lib.hid ho
                    clear ho hr6
                    go_wp2_with fail
                    refine HGR.out.mono ?_
                    rintro e w2 ⟨v2, rfl, ho2, hb2⟩
                    obtain ⟨Ag, cg, rfl, hrg⟩ := ho2.form
                    have hz2 := hb2.size
                    obtain ⟨GL, hGL⟩ : ∃ GL, (grpN q).length = GL := ⟨_, rfl⟩
                    have bP : Below w2.heap.size w2 (w2.alloc (.cells #[.slice A6 X.length c6, .slice (some ⟨wr.heap.size, 0, none⟩) 2 2, .slice Ag (grpN q).length cg] 23)) := (Below.refl _ _).alloc (Nat.le_refl _) _
                    have hb2P := hb2.trans (bP.mono hz2)
                    have hzP : (w2.alloc (.cells #[.slice A6 X.length c6, .slice (some ⟨wr.heap.size, 0, none⟩) 2 2, .slice Ag (grpN q).length cg] 23)).heap.size = w2.heap.size + 1 := by simp
                    have HCO := Lib.hid (concat_any (some ⟨w2.heap.size, 0, none⟩) 3 [(A6, c6, X), (some ⟨wr.heap.size, 0, none⟩, 2, [128, 0]), (Ag, cg, grpN q)] (w2.alloc (.cells #[.slice A6 X.length c6, .slice (some ⟨wr.heap.size, 0, none⟩) 2 2, .slice Ag (grpN q).length cg] 23)) (by simp) (by simp [joined]; omega) (by rw [hzP]; exact Cells.fresh' w2 _ 23 (0, 0) _ rfl) (fun p hp => by
                      simp only [List.mem_cons, List.not_mem_nil, or_false] at hp
                      rcases hp with rfl | rfl | rfl
                      · exact ((hrA.lift (by omega)).below hb2P).lift (by omega)
                      · exact ((hmA.lift (by omega)).below hb2P).lift (by omega)
                      · exact (hrg.below bP).lift (by omega)))
                    have hps : ([(A6, c6, X), (some ⟨wr.heap.size, 0, none⟩, 2, [128, 0]), (Ag, cg, grpN q)] : List Part).length = 3 := rfl
                    have hjn : joined [(A6, c6, X), (some ⟨wr.heap.size, 0, none⟩, 2, [128, 0]), (Ag, cg, grpN q)] = X ++ [128, 0] ++ grpN q := by simp [joined]
                    rw [hps, hjn] at HCO
                    have BP := BA.trans (hb2P.mono (by omega))
                    rw [hzP] at HCO
                    rw [hGL] at HCO hg2
                    have HGL := Lib.hid hGL
                    clear hrA hmA ho2 hrg hb2 hb2P hjn bA bP
                    rw [hGL] at hzP BP ⊢
                    clear hGL
                    go_wp2_with fail
                    refine HCO.out.mono ?_
                    rintro e w3 ⟨v3, rfl, ho3, hb3⟩
                    have ho3' := ho3.lower (show w.heap.size ≤ w2.heap.size + 1 by omega)
                    have HO3 := Lib.hid ho3'
                    have HB3 := Lib.hid (BP.trans (hb3.mono (by omega)))
                    clear ho3 ho3' hb3
                    go_wp2_with fail
                    have hgl2 := HGL.out
                    go_roundw
                    case rel => exact ⟨j + q, before, X ++ [128, 0] ++ grpN q, by omega, by go_num, rfl, hbd, by rw [HE.out, HRW.out]; simp, by simp; omega, HO3.out, HB3.out⟩
                    case measure => simp [intOf]; omega
                  · have i3 : ¬ (3 : Int) ≤ (q : Int) := by omega
                    have HRW := Lib.hid (HONE.out h3)
                    have HCX : Hid (∀ w7, Below w.heap.size w w7 → w7.cell? (ad.add j) = some (.int .i64 x)) := Lib.hid (fun w7 hb => by
                      obtain ⟨ad5, hA5, hc5⟩ := HCELL.out w7 hb j hlt
                      obtain rfl : ad = ad5 := by injection hA5
                      rw [HXE.out] at hc5
                      exact hc5)
                    have hc3 := HCX.out wr hbr
                    obtain ⟨dd, hdd⟩ : ∃ dd, x - before = dd := ⟨_, rfl⟩
                    have w1' : IntKind.i64.wrap dd = dd := IntWalk.i64_in _ (by omega)
                    have w2' : wrap64 dd = dd := IntWalk.wrap64_in _ (by omega)
                    have w3' : IntKind.i64.wrap (2 * dd) = 2 * dd := IntWalk.i64_in _ (by omega)
                    have w4' : wrap64 (2 * dd) = 2 * dd := IntWalk.wrap64_in _ (by omega)
                    have hzl := zig_lt (n := dd) (by omega) (by omega)
                    obtain ⟨Z, hZ⟩ : ∃ Z, zigN dd = Z := ⟨_, rfl⟩
                    rw [hdd, hZ] at HRW
                    rw [hZ] at hzl
                    have HGR := Lib.hid (rgroups_any Z wr hzl)
                    have hgz := grp_len 4 Z (by omega)
                    have ho0 : wr.ownsRow w.heap.size 5 1 u6 X.length (X.map bv) := ho
                    have HOB := Lib.hid (fun k (hk : u6.ownBlock = some k) => (World.ownsRow.lt ho0 k hk).1)
                    have HDD := Lib.hid hdd
                    by_cases hn : dd < 0
                    · have n1 : 2 * dd < 0 := by omega
                      have n2 : -(2 * dd) - 1 = (Z : Int) := by rw [← hZ]; unfold zigN; rw [if_pos hn]; omega
                      have n3 : IntKind.i64.wrap (-(2 * dd)) = -(2 * dd) := IntWalk.i64_in _ (by omega)
                      have n4 : wrap64 (-(2 * dd)) = -(2 * dd) := IntWalk.wrap64_in _ (by omega)
                      have n5 : IntKind.i64.wrap (Z : Int) = (Z : Int) := IntWalk.i64_in _ (by omega)
                      have n6 : wrap64 (Z : Int) = (Z : Int) := IntWalk.wrap64_in _ (by omega)
                      clear hZ ho
                      go_wp2_with fail
                      refine HGR.out.mono ?_
                      rintro e w2 ⟨v2, rfl, ho2, hb2⟩
                      obtain ⟨Ag, cg, rfl, hrg⟩ := ho2.form
                      have hz2 := hb2.size
                      have hO2 : w2.ownsRow w.heap.size 5 1 u6 X.length (X.map bv) := Own.after (show Own wr w.heap.size u6 X from ho0) hb2 (Nat.le_refl _)
                      have B2 := hbr.trans (hb2.mono hzr)
                      obtain ⟨GL, hGL⟩ : ∃ GL, (grpN Z).length = GL := ⟨_, rfl⟩
                      rw [hGL] at hgz ⊢
                      have hc4 := HCX.out w2 B2
                      have HGL := Lib.hid hGL
                      clear hGL ho0
                      go_wp2_with (first | (at_builtin; refine wpList_app _ rfl (.tmp 77) (.tmp 79) 23 5 1 1 rfl elem8 w.heap.size u6 X.length (X.map bv) rfl hO2 w2.heap.size Ag GL cg ((grpN Z).map bv) rfl (by rw [List.length_map, HGL.out]; simp) hrg (bv_one _) (by unfold maxLen; omega) (by omega) (by omega) ?_; intro v7 w7 hown7 hgrow7 hat7; have HB7 := Lib.hid (B2.grown hgrow7 (by omega) (fun k hk => HOB.out k hk)); have hc7 := HCX.out w7 HB7.out) | fail)
                      have hgl2 := HGL.out
                      go_roundw
                      case rel => exact ⟨j + 1, x, X ++ grpN Z, by omega, by go_num, rfl, hxb, by rw [HE.out, HRW.out]; simp, by simp; omega, Own.of hown7 (by rw [HGL.out]), HB7.out⟩
                      case measure => simp [intOf]; omega
                    · have n1 : ¬ 2 * dd < 0 := by omega
                      have n2 : 2 * dd = (Z : Int) := by rw [← hZ]; unfold zigN; rw [if_neg hn]; omega
                      have n5 : IntKind.i64.wrap (Z : Int) = (Z : Int) := IntWalk.i64_in _ (by omega)
                      have n6 : wrap64 (Z : Int) = (Z : Int) := IntWalk.wrap64_in _ (by omega)
                      clear hZ ho
                      go_wp2_with fail
                      refine HGR.out.mono ?_
                      rintro e w2 ⟨v2, rfl, ho2, hb2⟩
                      obtain ⟨Ag, cg, rfl, hrg⟩ := ho2.form
                      have hz2 := hb2.size
                      have hO2 : w2.ownsRow w.heap.size 5 1 u6 X.length (X.map bv) := Own.after (show Own wr w.heap.size u6 X from ho0) hb2 (Nat.le_refl _)
                      have B2 := hbr.trans (hb2.mono hzr)
                      obtain ⟨GL, hGL⟩ : ∃ GL, (grpN Z).length = GL := ⟨_, rfl⟩
                      rw [hGL] at hgz ⊢
                      have hc4 := HCX.out w2 B2
                      have HGL := Lib.hid hGL
                      clear hGL ho0
                      go_wp2_with (first | (at_builtin; refine wpList_app _ rfl (.tmp 77) (.tmp 79) 23 5 1 1 rfl elem8 w.heap.size u6 X.length (X.map bv) rfl hO2 w2.heap.size Ag GL cg ((grpN Z).map bv) rfl (by rw [List.length_map, HGL.out]; simp) hrg (bv_one _) (by unfold maxLen; omega) (by omega) (by omega) ?_; intro v7 w7 hown7 hgrow7 hat7; have HB7 := Lib.hid (B2.grown hgrow7 (by omega) (fun k hk => HOB.out k hk)); have hc7 := HCX.out w7 HB7.out) | fail)
                      have hgl2 := HGL.out
                      go_roundw
                      case rel => exact ⟨j + 1, x, X ++ grpN Z, by omega, by go_num, rfl, hxb, by rw [HE.out, HRW.out]; simp, by simp; omega, Own.of hown7 (by rw [HGL.out]), HB7.out⟩
                      case measure => simp [intOf]; omega
                · have e1 : ¬ (j : Int) + (q : Int) < (l.length : Int) := by omega
                  clear HSTOP HEACH
                  by_cases h3 : 3 ≤ q
                  · have i3 : (3 : Int) ≤ (q : Int) := by omega
                    have HRW := Lib.hid (HROW.out h3)
                    have hg2 : (grpN q).length ≤ 2 := grp_len 1 q (by omega)
                    obtain ⟨A6, c6, hu6, hr6⟩ := ho.form
                    have bA : Below wr.heap.size wr (wr.alloc (.cells #[.int .u8 128, .int .u8 0] 5)) := (Below.refl _ _).alloc (Nat.le_refl _) _
                    have hrA := hr6.below bA
                    have hmA : BR (wr.alloc (.cells #[.int .u8 128, .int .u8 0] 5)) (wr.heap.size + 1) (some ⟨wr.heap.size, 0, none⟩) [128, 0] := Cells.fresh wr _ 5 (0, 0) _ rfl
                    have hzA : (wr.alloc (.cells #[.int .u8 128, .int .u8 0] 5)).heap.size = wr.heap.size + 1 := by simp
                    have HGR := Lib.hid (rgroups_any q (wr.alloc (.cells #[.int .u8 128, .int .u8 0] 5)) (by omega))
                    have BA := hbr.trans (bA.mono hzr)
                    subst hu6
                    have HO := Lib.hid ho
                    clear ho hr6
                    go_wp2_with fail
                    refine HGR.out.mono ?_
                    rintro e w2 ⟨v2, rfl, ho2, hb2⟩
                    obtain ⟨Ag, cg, rfl, hrg⟩ := ho2.form
                    have hz2 := hb2.size
                    obtain ⟨GL, hGL⟩ : ∃ GL, (grpN q).length = GL := ⟨_, rfl⟩
                    have bP : Below w2.heap.size w2 (w2.alloc (.cells #[.slice A6 X.length c6, .slice (some ⟨wr.heap.size, 0, none⟩) 2 2, .slice Ag (grpN q).length cg] 23)) := (Below.refl _ _).alloc (Nat.le_refl _) _
                    have hb2P := hb2.trans (bP.mono hz2)
                    have hzP : (w2.alloc (.cells #[.slice A6 X.length c6, .slice (some ⟨wr.heap.size, 0, none⟩) 2 2, .slice Ag (grpN q).length cg] 23)).heap.size = w2.heap.size + 1 := by simp
                    have HCO := Lib.hid (concat_any (some ⟨w2.heap.size, 0, none⟩) 3 [(A6, c6, X), (some ⟨wr.heap.size, 0, none⟩, 2, [128, 0]), (Ag, cg, grpN q)] (w2.alloc (.cells #[.slice A6 X.length c6, .slice (some ⟨wr.heap.size, 0, none⟩) 2 2, .slice Ag (grpN q).length cg] 23)) (by simp) (by simp [joined]; omega) (by rw [hzP]; exact Cells.fresh' w2 _ 23 (0, 0) _ rfl) (fun p hp => by
                      simp only [List.mem_cons, List.not_mem_nil, or_false] at hp
                      rcases hp with rfl | rfl | rfl
                      · exact ((hrA.lift (by omega)).below hb2P).lift (by omega)
                      · exact ((hmA.lift (by omega)).below hb2P).lift (by omega)
                      · exact (hrg.below bP).lift (by omega)))
                    have hps : ([(A6, c6, X), (some ⟨wr.heap.size, 0, none⟩, 2, [128, 0]), (Ag, cg, grpN q)] : List Part).length = 3 := rfl
                    have hjn : joined [(A6, c6, X), (some ⟨wr.heap.size, 0, none⟩, 2, [128, 0]), (Ag, cg, grpN q)] = X ++ [128, 0] ++ grpN q := by simp [joined]
                    rw [hps, hjn] at HCO
                    have BP := BA.trans (hb2P.mono (by omega))
                    rw [hzP] at HCO
                    rw [hGL] at HCO hg2
                    have HGL := Lib.hid hGL
                    clear hrA hmA ho2 hrg hb2 hb2P hjn bA bP
                    rw [hGL] at hzP BP ⊢
                    clear hGL
                    go_wp2_with fail
                    refine HCO.out.mono ?_
                    rintro e w3 ⟨v3, rfl, ho3, hb3⟩
                    have ho3' := ho3.lower (show w.heap.size ≤ w2.heap.size + 1 by omega)
                    have HO3 := Lib.hid ho3'
                    have HB3 := Lib.hid (BP.trans (hb3.mono (by omega)))
                    clear ho3 ho3' hb3
                    go_wp2_with fail
                    have hgl2 := HGL.out
                    go_roundw
                    case rel => exact ⟨j + q, before, X ++ [128, 0] ++ grpN q, by omega, by go_num, rfl, hbd, by rw [HE.out, HRW.out]; simp, by simp; omega, HO3.out, HB3.out⟩
                    case measure => simp [intOf]; omega
                  · have i3 : ¬ (3 : Int) ≤ (q : Int) := by omega
                    have HRW := Lib.hid (HONE.out h3)
                    have HCX : Hid (∀ w7, Below w.heap.size w w7 → w7.cell? (ad.add j) = some (.int .i64 x)) := Lib.hid (fun w7 hb => by
                      obtain ⟨ad5, hA5, hc5⟩ := HCELL.out w7 hb j hlt
                      obtain rfl : ad = ad5 := by injection hA5
                      rw [HXE.out] at hc5
                      exact hc5)
                    have hc3 := HCX.out wr hbr
                    obtain ⟨dd, hdd⟩ : ∃ dd, x - before = dd := ⟨_, rfl⟩
                    have w1' : IntKind.i64.wrap dd = dd := IntWalk.i64_in _ (by omega)
                    have w2' : wrap64 dd = dd := IntWalk.wrap64_in _ (by omega)
                    have w3' : IntKind.i64.wrap (2 * dd) = 2 * dd := IntWalk.i64_in _ (by omega)
                    have w4' : wrap64 (2 * dd) = 2 * dd := IntWalk.wrap64_in _ (by omega)
                    have hzl := zig_lt (n := dd) (by omega) (by omega)
                    obtain ⟨Z, hZ⟩ : ∃ Z, zigN dd = Z := ⟨_, rfl⟩
                    rw [hdd, hZ] at HRW
                    rw [hZ] at hzl
                    have HGR := Lib.hid (rgroups_any Z wr hzl)
                    have hgz := grp_len 4 Z (by omega)
                    have ho0 : wr.ownsRow w.heap.size 5 1 u6 X.length (X.map bv) := ho
                    have HOB := Lib.hid (fun k (hk : u6.ownBlock = some k) => (World.ownsRow.lt ho0 k hk).1)
                    have HDD := Lib.hid hdd
                    by_cases hn : dd < 0
                    · have n1 : 2 * dd < 0 := by omega
                      have n2 : -(2 * dd) - 1 = (Z : Int) := by rw [← hZ]; unfold zigN; rw [if_pos hn]; omega
                      have n3 : IntKind.i64.wrap (-(2 * dd)) = -(2 * dd) := IntWalk.i64_in _ (by omega)
                      have n4 : wrap64 (-(2 * dd)) = -(2 * dd) := IntWalk.wrap64_in _ (by omega)
                      have n5 : IntKind.i64.wrap (Z : Int) = (Z : Int) := IntWalk.i64_in _ (by omega)
                      have n6 : wrap64 (Z : Int) = (Z : Int) := IntWalk.wrap64_in _ (by omega)
                      clear hZ ho
                      go_wp2_with fail
                      refine HGR.out.mono ?_
                      rintro e w2 ⟨v2, rfl, ho2, hb2⟩
                      obtain ⟨Ag, cg, rfl, hrg⟩ := ho2.form
                      have hz2 := hb2.size
                      have hO2 : w2.ownsRow w.heap.size 5 1 u6 X.length (X.map bv) := Own.after (show Own wr w.heap.size u6 X from ho0) hb2 (Nat.le_refl _)
                      have B2 := hbr.trans (hb2.mono hzr)
                      obtain ⟨GL, hGL⟩ : ∃ GL, (grpN Z).length = GL := ⟨_, rfl⟩
                      rw [hGL] at hgz ⊢
                      have hc4 := HCX.out w2 B2
                      have HGL := Lib.hid hGL
                      clear hGL ho0
                      go_wp2_with (first | (at_builtin; refine wpList_app _ rfl (.tmp 77) (.tmp 79) 23 5 1 1 rfl elem8 w.heap.size u6 X.length (X.map bv) rfl hO2 w2.heap.size Ag GL cg ((grpN Z).map bv) rfl (by rw [List.length_map, HGL.out]; simp) hrg (bv_one _) (by unfold maxLen; omega) (by omega) (by omega) ?_; intro v7 w7 hown7 hgrow7 hat7; have HB7 := Lib.hid (B2.grown hgrow7 (by omega) (fun k hk => HOB.out k hk)); have hc7 := HCX.out w7 HB7.out) | fail)
                      have hgl2 := HGL.out
                      go_roundw
                      case rel => exact ⟨j + 1, x, X ++ grpN Z, by omega, by go_num, rfl, hxb, by rw [HE.out, HRW.out]; simp, by simp; omega, Own.of hown7 (by rw [HGL.out]), HB7.out⟩
                      case measure => simp [intOf]; omega
                    · have n1 : ¬ 2 * dd < 0 := by omega
                      have n2 : 2 * dd = (Z : Int) := by rw [← hZ]; unfold zigN; rw [if_neg hn]; omega
                      have n5 : IntKind.i64.wrap (Z : Int) = (Z : Int) := IntWalk.i64_in _ (by omega)
                      have n6 : wrap64 (Z : Int) = (Z : Int) := IntWalk.wrap64_in _ (by omega)
                      clear hZ ho
                      go_wp2_with fail
                      refine HGR.out.mono ?_
                      rintro e w2 ⟨v2, rfl, ho2, hb2⟩
                      obtain ⟨Ag, cg, rfl, hrg⟩ := ho2.form
                      have hz2 := hb2.size
                      have hO2 : w2.ownsRow w.heap.size 5 1 u6 X.length (X.map bv) := Own.after (show Own wr w.heap.size u6 X from ho0) hb2 (Nat.le_refl _)
                      have B2 := hbr.trans (hb2.mono hzr)
                      obtain ⟨GL, hGL⟩ : ∃ GL, (grpN Z).length = GL := ⟨_, rfl⟩
                      rw [hGL] at hgz ⊢
                      have hc4 := HCX.out w2 B2
                      have HGL := Lib.hid hGL
                      clear hGL ho0
                      go_wp2_with (first | (at_builtin; refine wpList_app _ rfl (.tmp 77) (.tmp 79) 23 5 1 1 rfl elem8 w.heap.size u6 X.length (X.map bv) rfl hO2 w2.heap.size Ag GL cg ((grpN Z).map bv) rfl (by rw [List.length_map, HGL.out]; simp) hrg (bv_one _) (by unfold maxLen; omega) (by omega) (by omega) ?_; intro v7 w7 hown7 hgrow7 hat7; have HB7 := Lib.hid (B2.grown hgrow7 (by omega) (fun k hk => HOB.out k hk)); have hc7 := HCX.out w7 HB7.out) | fail)
                      have hgl2 := HGL.out
                      go_roundw
                      case rel => exact ⟨j + 1, x, X ++ grpN Z, by omega, by go_num, rfl, hxb, by rw [HE.out, HRW.out]; simp, by simp; omega, Own.of hown7 (by rw [HGL.out]), HB7.out⟩
                      case measure => simp [intOf]; omega
          · obtain rfl : j = l.length := by omega
            rw [List.drop_length] at hE
            have hE2 : bigE l.length 2 ++ sqz 0 l = X := by rw [hE]; simp [sqz]
            have HE := Lib.hid hE2
            have HO := Lib.hid ho
            clear hE hE2 ho
            go_wp2_with fail
            go_ret2
            refine ⟨_, by rw [HX.out.1]; rfl, ?_, hbr⟩
            rw [HX.out.2, HE.out]
            exact HO.out
end Go.Proofs.Ytdcnpbdkhcdinaa
