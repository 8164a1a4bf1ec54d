/- the program's Squeezed whole. -/
import Derived.Test.YtdcnpbdkhcdinaaSqW
import Derived.Lib.AppendStr
namespace Go.Proofs.Ytdcnpbdkhcdinaa
open Go.RowKit

set_option maxRecDepth 100000 in
set_option maxHeartbeats 400000 in
theorem twithin_any (n a b : Int) (w : World) : Calls Try.prog 47 #[.int .i64 n, .int .i64 a, .int .i64 b] w fun e w' => e = .returned (.bool (decide (a ≤ n ∧ n ≤ b))) ∧ w = w' := by
  by_cases h1 : a ≤ n
  · by_cases h2 : n ≤ b
    · have E := Lib.hid (decide_eq_true (show a ≤ n ∧ n ≤ b from ⟨h1, h2⟩))
      go_enter Try.func47, Try.ntmps47
      go_wp2_with fail
      go_ret
      first | exact ⟨by rw [E.out]; rfl, rfl⟩ | exact ⟨rfl, rfl⟩
    · have E := Lib.hid (decide_eq_false (show ¬ (a ≤ n ∧ n ≤ b) from fun h => h2 h.2))
      have d2 : decide (n ≤ b) = false := decide_eq_false h2
      go_enter Try.func47, Try.ntmps47
      go_wp2_with fail
      go_ret
      first | exact ⟨by rw [E.out]; rfl, rfl⟩ | exact ⟨rfl, rfl⟩
  · have E := Lib.hid (decide_eq_false (show ¬ (a ≤ n ∧ n ≤ b) from fun h => h1 h.1))
    have d1 : decide (a ≤ n) = false := decide_eq_false h1
    go_enter Try.func47, Try.ntmps47
    go_wp2_with fail
    go_ret
    first | exact ⟨by rw [E.out]; rfl, rfl⟩ | exact ⟨rfl, rfl⟩
set_option maxRecDepth 100000 in
set_option maxHeartbeats 400000 in
theorem measured_any (n : Int) (w : World) : Calls Try.prog 35 #[.int .i64 n] w fun e w' => e = .returned (.bool (meaB n)) ∧ w = w' := by
  have H := Lib.hid (show ∀ w, Calls Try.prog 47 #[.int .i64 n, .int .i64 (-1000000000), .int .i64 1000000000] w fun e w' => e = .returned (.bool (meaB n)) ∧ w = w' from fun w => twithin_any n (-1000000000) 1000000000 w)
  go_enter Try.func35, Try.ntmps35
  go_wp2_with fail
  refine (H.out _).mono ?_
  rintro e w' ⟨rfl, rfl⟩
  go_wp2_with fail
  go_ret
  exact ⟨rfl, rfl⟩
theorem sq_bad {l : List Int} (h1 : ¬ 5000 < l.length) (j : Nat) (hj : j < l.length) (h : ¬ meaB l[j] = true) : sqF l = 1 := by
  unfold sqF
  rw [if_neg h1, if_neg]
  intro h2
  exact h (List.all_eq_true.1 h2 _ (List.getElem_mem hj))
set_option maxRecDepth 100000 in
set_option maxHeartbeats 4000000 in
theorem p_squeezed_any (A : Option Addr) (l : List Int) (c B : Nat) (w : World) (hB : B ≤ w.heap.size) (hll : l.length ≤ 9223372036854775807) (hlc : l.length ≤ c) (h : IR w B A l) :
    Calls Try.prog 10 #[.slice A l.length c] w fun e w' => ∃ v, e = .returned (.tuple #[v, .int .i64 (sqF l)]) ∧ Own w' w.heap.size v (sqR l) ∧ Below w.heap.size w w' := by
  have HF := Lib.hid (show sqF l = if 5000 < l.length then 2 else if l.all meaB = true then 0 else 1 from rfl)
  have HR := Lib.hid (show sqR l = if sqF l = 0 then bigE l.length 2 ++ sqz 0 l else [] from rfl)
  by_cases h5 : 5000 < l.length
  · have i5 : (5000 : Int) < (l.length : Int) := by omega
    have hf : sqF l = 2 := by rw [HF.out, if_pos h5]
    have hr : sqR l = [] := by rw [HR.out, if_neg (by omega)]
    rw [hf, hr]
    clear hf hr HF HR
    go_enter Try.func10, Try.ntmps10
    go_wp2_with fail
    go_ret2
    exact ⟨_, rfl, Own.nil _ _, Below.refl _ _⟩
  · have i5 : (l.length : Int) ≤ 5000 := by omega
    have HBAD := Lib.hid (fun j hj hm => sq_bad (l := l) h5 j hj hm)
    go_enter Try.func10, Try.ntmps10
    go_wp2_with fail
    go_loopw [15] (fun i wr => ∃ j : Nat, j ≤ l.length ∧ i = .int .i64 j ∧ (l.take j).all meaB = true ∧ w = wr) (fun i _ => l.length - (intOf i).toNat)
    case atStart => exact ⟨0, Nat.zero_le _, rfl, by simp, rfl⟩
    case round =>
      obtain ⟨j, hj, rfl, hall, rfl⟩ := hrel
      by_cases hlt : j < l.length
      · obtain ⟨ad, hA, -, hc⟩ := h.get j hlt
        have hi0 : (0 : Int) ≤ (j : Int) := by omega
        have hi1 : (j : Int) < (l.length : Int) := by omega
        have HM := Lib.hid (measured_any l[j])
        have HT : Hid ((l.take (j + 1)).all meaB = meaB l[j]) := Lib.hid (by rw [List.take_succ_eq_append_getElem hlt, List.all_append, hall]; simp)
        have HBJ := Lib.hid (HBAD.out j hlt)
        clear h
        subst hA
        generalize l[j] = x at *
        by_cases hm : meaB x = true
        · rw [hm] at HT HM
          go_wp2_with fail
          refine (HM.out _).mono ?_
          rintro e w' ⟨rfl, rfl⟩
          go_wp2_with fail
          go_roundw
          case rel => exact ⟨j + 1, by omega, by go_num, HT.out, trivial⟩
          case measure => simp [intOf]; omega
        · have hf := HBJ.out hm
          have hr : sqR l = [] := by rw [HR.out, if_neg (by omega)]
          have hm2 : meaB x = false := by simpa using hm
          rw [hm2] at HM
          have HX := Lib.hid (And.intro hf hr)
          clear hf hr HF HR hm
          go_wp2_with fail
          refine (HM.out _).mono ?_
          rintro e w' ⟨rfl, rfl⟩
          go_wp2_with fail
          go_ret2
          rw [HX.out.1, HX.out.2]
          exact ⟨_, rfl, Own.nil _ _, Below.refl _ _⟩
      · obtain rfl : j = l.length := by omega
        rw [List.take_length] at hall
        have hf : sqF l = 0 := by rw [HF.out, if_neg h5, if_pos hall]
        have hr : sqR l = bigE l.length 2 ++ sqz 0 l := by rw [HR.out, if_pos hf]
        have HX := Lib.hid (And.intro hf hr)
        have HAL := Lib.hid (List.all_eq_true.1 hall)
        have HAP := Lib.hid (append_any w.heap.size (.slice none 0 0) [] l.length 2 w (by omega) (by omega) (by simp) (Nat.le_refl _) (Own.nil _ _))
        clear hf hr HF HR hall HBAD
        go_wp2_with fail
        refine HAP.out.mono ?_
        rintro e w1 ⟨v1, rfl, ho1, hn1⟩
        rw [List.nil_append] at ho1
        have b1 : Below w.heap.size w w1 := ⟨hn1.1.os, hn1.1.tape, hn1.1.output, hn1.1.size, fun k hk => hn1.1.block k hk (by simp [Value.ownBlock])⟩
        have HO1 := Lib.hid ho1
        have HB1 := Lib.hid b1
        clear ho1 hn1 b1 HAP
        go_wp2_with fail
        go_loopw [6, 7, 8] (fun u i s wr => ∃ (j : Nat) (before : Int) (X : List UInt8), j ≤ l.length ∧ i = .int .i64 j ∧ s = .int .i64 before ∧ (-1000000000 ≤ before ∧ before ≤ 1000000000) ∧ bigE l.length 2 ++ sqz 0 l = X ++ sqz before (l.drop j) ∧ X.length ≤ 2 + 5 * j ∧ Own wr w.heap.size u X ∧ Below w.heap.size w wr) (fun _ i _ _ => l.length - (intOf i).toNat)
        case atStart => exact ⟨0, 0, bigE l.length 2, Nat.zero_le _, rfl, rfl, by omega, rfl, by simp [bigE_len], HO1.out, HB1.out⟩
        case round =>
          obtain ⟨j, before, X, hj, rfl, rfl, hbd, hE, hX, ho, hbr⟩ := hrel
          have hzr := hbr.size
          by_cases hlt : j < l.length
          · have hi0 : (0 : Int) ≤ (j : Int) := by omega
            have hi1 : (j : Int) < (l.length : Int) := by omega
            obtain ⟨ad, hA, hbk, hc⟩ := (h.below (hbr.mono hB)).get j hlt
            obtain ⟨ad', hA', ht⟩ := Cells.tail (h.below (hbr.mono hB)) j (by simpa using hlt)
            obtain rfl : ad = ad' := by rw [hA] at hA'; injection hA'
            subst hA
            have hdl : (l.drop j).length = l.length - j := by simp
            have hms := manySame_any (some (ad.add j)) (l.drop j) (c - j) before B wr (by omega) (by unfold IR; rw [List.map_drop]; exact ht)
            rw [hdl] at hms
            have HMS := Lib.hid hms
            have hsl := same_le before (l.drop j)
            rw [hdl] at hsl
            have HE := Lib.hid hE
            have hxb := HAL.out _ (List.getElem_mem hlt)
            unfold meaB at hxb
            simp only [decide_eq_true_eq] at hxb
            have hrow := @sqz_row before (l.drop j)
            have hone : ¬ 3 ≤ sameN before (l.drop j) → sqz before (l.drop j) = grpN (zigN (l[j] - before)) ++ sqz l[j] (l.drop (j + 1)) := fun h3 => by
              rw [List.drop_eq_getElem_cons hlt] at h3 ⊢
              exact sqz_one h3
            rw [List.drop_drop] at hrow
            have HROW := Lib.hid hrow
            have HONE := Lib.hid hone
            clear hms hE hrow hone ht
            generalize hM : sameN before (l.drop j) = M at *
            have hcj : ¬ c = j := by omega
            obtain ⟨x, hxe⟩ : ∃ x, l[j] = x := ⟨_, rfl⟩
            have HXE := Lib.hid hxe
            rw [hxe] at hc hxb HONE
            clear hxe
            by_cases h3 : 3 ≤ M
            · have i3 : (3 : Int) ≤ (M : Int) := by omega
              have HRW := Lib.hid (HROW.out h3)
              have hg5 := grp_len 4 M (by omega)
              have hg2 : (grpN M).length ≤ 2 := grp_len 1 M (by omega)
              obtain ⟨i, I1, I2, I3, I4⟩ := info_parts info5
              have hs2 : (⟨#[128, 0]⟩ : ByteArray).size = 2 := rfl
              have ho0 : wr.ownsRow w.heap.size 5 1 u6 X.length (X.map bv) := ho
              have HBW := Lib.hid (fun k (hk : u6.ownBlock = some k) => (World.ownsRow.lt ho0 k hk).1)
              clear HROW HONE ho h
              go_wp2_with fail
              refine HMS.out.mono ?_
              rintro e w' ⟨rfl, rfl⟩
              go_wp2_with (first
                | (at_builtin; refine Lib.wpList_append_own_string _ rfl (.tmp 37) (.const (.string ⟨#[128, 0]⟩)) 23 9 rfl w.heap.size 5 i Try.underlying23 Try.underlying9 I1 I2 I3 I4 u6 X.length (X.map bv) rfl ho0 ⟨#[128, 0]⟩ rfl (by rw [hs2]; unfold maxLen; omega) (by rw [hs2]; omega) hzr ?_; intro v7 w7 hown7 hgrow7 hat7)
                | fail)
              have hown7' : Own w7 w.heap.size v7 (X ++ [128, 0]) := by
                have e : Lib.strCells ⟨#[128, 0]⟩ = ([128, 0] : List UInt8).map bv := rfl
                rw [e] at hown7
                exact Own.of hown7 rfl
              have hb7 := hbr.grown hgrow7 hzr (fun k hk => HBW.out k hk)
              have HGR := Lib.hid (groups_any w.heap.size v7 (X ++ [128, 0]) M w7 (by omega) (by simp; omega) hb7.size hown7')
              have HOL := Lib.hid (fun k (hk : v7.ownBlock = some k) => (World.ownsRow.lt (show w7.ownsRow w.heap.size 5 1 v7 _ _ from hown7') k hk).1)
              clear hown7 hown7' hgrow7 hat7
              go_wp2_with fail
              refine HGR.out.mono ?_
              rintro e w8 ⟨v8, rfl, ho8, hn8⟩
              have hb8 := hb7.grown hn8.1 hb7.size (fun k hk => HOL.out k hk)
              have HO8 := Lib.hid ho8
              clear ho8 hn8
              go_wp2_with fail
              go_roundw
              case rel =>
                refine ⟨j + M, before, X ++ [128, 0] ++ grpN M, by omega, by go_num, rfl, hbd, ?_, by simp; omega, HO8.out, hb8⟩
                rw [HE.out, HRW.out]
                simp
              case measure => simp [intOf]; omega
            · have i3 : ¬ (3 : Int) ≤ (M : Int) := by omega
              have HRW := Lib.hid (HONE.out h3)
              have hw1 : IntKind.i64.wrap (x - before) = x - before := IntWalk.i64_in _ (by omega)
              have hw2 : wrap64 (x - before) = x - before := IntWalk.wrap64_in _ (by omega)
              have HUN := Lib.hid (unsigned_any (x - before) wr (by omega) (by omega))
              have hzl := zig_lt (n := x - before) (by omega) (by omega)
              have HGR := Lib.hid (groups_any w.heap.size u6 X (zigN (x - before)) wr hzl (by omega) hzr ho)
              have hg5 := grp_len 4 (zigN (x - before)) (by omega)
              have HOL := Lib.hid (fun k (hk : u6.ownBlock = some k) => (World.ownsRow.lt (show wr.ownsRow w.heap.size 5 1 u6 _ _ from ho) k hk).1)
              have HC := Lib.hid (fun w' (hb : Next wr w' u6 u6) => True.intro)
              have hcell := Lib.hid (fun (w8 : World) (hb : Below w.heap.size w w8) => (h.below (hb.mono hB)).get j hlt)
              clear HROW HONE ho h HC
              generalize zigN (x - before) = z at *
              go_wp2_with fail
              refine HMS.out.mono ?_
              rintro e w' ⟨rfl, rfl⟩
              go_wp2_with fail
              refine HUN.out.mono ?_
              rintro e w' ⟨rfl, rfl⟩
              go_wp2_with fail
              refine HGR.out.mono ?_
              rintro e w8 ⟨v8, rfl, ho8, hn8⟩
              have hb8 := hbr.grown hn8.1 hzr (fun k hk => HOL.out k hk)
              have HO8 := Lib.hid ho8
              obtain ⟨ad8, hA8, -, hc8⟩ := hcell.out w8 hb8
              obtain rfl : ad = ad8 := by injection hA8
              rw [HXE.out] at hc8
              clear ho8 hn8
              go_wp2_with fail
              go_roundw
              case rel =>
                refine ⟨j + 1, x, X ++ grpN z, by omega, by go_num, rfl, hxb, ?_, by simp; omega, HO8.out, hb8⟩
                rw [HE.out, HRW.out]
                simp
              case measure => simp [intOf]; omega
          · obtain rfl : j = l.length := by omega
            rw [List.drop_length] at hE
            have hE2 : bigE l.length 2 ++ sqz 0 l = X := by rw [hE]; simp [sqz]
            have HE := Lib.hid hE2
            have HO := Lib.hid ho
            clear hE hE2 ho
            go_wp2_with fail
            go_ret2
            refine ⟨_, by rw [HX.out.1]; rfl, ?_, hbr⟩
            rw [HX.out.2, HE.out]
            exact HO.out
end Go.Proofs.Ytdcnpbdkhcdinaa
