/- the walk of the law MemoryScrubbedInTimeKeepsAll. -/
import Derived.Test.YteelepjhlhifhaaBase
import Derived.Test.YteelepjhlhifhaaKeepMath
import Derived.Test.YteelepjhlhifhaaWrong
import Derived.Test.YteelepjhlhifhaaBelowN
import Derived.Test.YteelepjhlhifhaaPair
import Derived.Test.YteelepjhlhifhaaOwnFl
import Derived.Deep.RegionHeld3
import Derived.Deep.RegionLaw
import Derived.Deep.RegionHeld3
import Derived.Deep.DrawnRows
namespace Go.Proofs.Yteelepjhlhifhaa
open Go.RowKit
attribute [local go_sem] setCell_draws alloc_draws
attribute [local go_sem ↓] Go.wp_at_zero Go.wp_at_succ

/-- the words that numbers are reduced to -/
def wordsN (l : List Int) : List Nat := l.map fun z => (z % 65536).toNat
theorem wordsN_take (l : List Int) (j : Nat) (h : j < l.length) : wordsN (l.take (j + 1)) = wordsN (l.take j) ++ [(l[j] % 65536).toNat] := by
  rw [List.take_succ_eq_append_getElem h]
  unfold wordsN
  rw [List.map_append]
  rfl
theorem ints_snoc (a : List Nat) (n : Nat) : ints (a ++ [n]) = ints a ++ [(n : Int)] := by simp [ints]
theorem lit_nums {G : Int} (h0 : 0 ≤ G) (h1 : G ≤ 1000) : Hid (wrap64 (G + 1) = G + 1) ∧ Hid (G.tdiv 2 = G / 2) ∧ Hid (wrap64 (G / 2) = G / 2) :=
  ⟨Lib.hid (IntWalk.wrap64_in _ ⟨by omega, by omega⟩), Lib.hid (Int.tdiv_eq_ediv_of_nonneg h0), Lib.hid (IntWalk.wrap64_in _ ⟨by omega, by omega⟩)⟩
theorem boxB (w : World) (o : Obj) : Below w.heap.size w (w.alloc o) := (Below.refl _ _).alloc (Nat.le_refl _) _
theorem boxD (w : World) (o : Obj) : Below w.heap.size w (w.drew.alloc o) := (Below.refl _ _).drew.alloc (Nat.le_refl _) _
theorem flip_stay {W W' : World} {P : Nat} {t p b v : Value} (h : W.heap[P]? = some (.cells #[t, p, b] 66 (0, 0))) (ho : ∀ q, v.ownBlock = some q → q < P) {X : World} (hx : some P ≠ v.ownBlock → W'.heap[P]? = X.heap[P]?) (hX : X.heap[P]? = W.heap[P]?) :
    W'.cell? ⟨P, 0, none⟩ = some t ∧ W'.cell? ⟨P, 1, none⟩ = some p ∧ W'.cell? ⟨P, 2, none⟩ = some b := by
  have e := ((hx fun e => by have := ho P e.symm; omega).trans hX).trans h
  exact ⟨by simp [World.cell?, e], by simp [World.cell?, e], by simp [World.cell?, e]⟩
set_option maxRecDepth 100000 in
set_option maxHeartbeats 80000000 in
theorem keepLoop (A Af : Option Addr) (c cf : Nat) (l : List Int) (e : Int) (f : List Flp) (w : World) (hl : l.length * 8 ≤ 140737488355328) (hI : ∀ k (h : k < l.length), -9223372036854775808 ≤ l[k] ∧ l[k] ≤ 9223372036854775807) (h : IR w w.heap.size A l) (he : -9223372036854775808 ≤ e ∧ e ≤ 9223372036854775807) (hf : FR w w.heap.size Af f) (_hfl : f.length ≤ 9223372036854775807) (hbd : ∀ k (h : k < f.length), f[k].bd) :
    Calls Try.prog 8 #[.slice A l.length c, .int .i64 e, .slice Af f.length cf] w fun e w' => e = .returned (.bool true) ∧ Below w.heap.size w w' := by
  obtain ⟨w0, hw0⟩ : ∃ w0, w.alloc (.cells #[.slice none 0 0, .slice none 0 0] 52) = w0 := ⟨_, rfl⟩
  have b0 : Below w.heap.size w w0 := by rw [← hw0]; exact box_below _ _
  have z0 : w0.heap.size = w.heap.size + 1 := by rw [← hw0]; simp
  have h0 : HeldB w0 w.heap.size (.slice none 0 0) (.slice none 0 0) := by rw [← hw0]; exact HeldB.new _ _ _
  have HW0 := Lib.hid hw0
  clear hw0
  go_enter Try.func8, Try.ntmps8
  go_upto_region 2 with fail
  rw [HW0.out]
  go_wp2_with fail
  go_loopw [9, 10, 11, 24] (fun _ _ _ i wr => ∃ (j : Nat) (vC vS : Value), j ≤ l.length ∧ i = .int .i64 (j : Int) ∧ PairAt w w.heap.size vC vS wr vC vS (ints ((wordsN (l.take j)).map codeN)) (ints (wordsN (l.take j)))) (fun _ _ _ i _ => l.length - (intOf i).toNat)
  case atStart => exact ⟨0, _, _, Nat.zero_le _, rfl, h0, b0, OwnI.nil _ _, OwnI.nil _ _, fun b hb => by cases hb⟩
  case round =>
    obtain ⟨j, vC, vS, hj, rfl, hP⟩ := hrel
    have hK := hP.below
    by_cases hlt : j < l.length
    · obtain ⟨ad, hA, hd, x1⟩ := (h.below hK).get j hlt
      have hi := hI j hlt
      have hj0 : (0 : Int) ≤ (j : Int) := Int.natCast_nonneg _
      have hj1 : (j : Int) < (l.length : Int) := by omega
      subst hA
      have hT := wordsN_take l j hlt
      have hTl : (wordsN (l.take j)).length ≤ j := by simp [wordsN]; omega
      generalize l[j] = z at *
      have HBL := Lib.hid (fun w => belowN_any z 65536 w (by omega) (by omega) hi)
      obtain ⟨n, hn⟩ : ∃ n : Nat, z % ((65536 : Nat) : Int) = (n : Int) := ⟨(z % 65536).toNat, by omega⟩
      have hn2 : n < 65536 := by omega
      have hn3 : (z % 65536).toNat = n := by omega
      rw [hn3] at hT
      have hT1 : ints ((wordsN (l.take (j + 1))).map codeN) = ints ((wordsN (l.take j)).map codeN) ++ [((codeN n : Nat) : Int)] := by rw [hT, List.map_append]; exact ints_snoc _ _
      have hT2 : ints (wordsN (l.take (j + 1))) = ints (wordsN (l.take j)) ++ [(n : Int)] := by rw [hT]; exact ints_snoc _ _
      have hl1 : (ints ((wordsN (l.take j)).map codeN)).length ≤ j := by rw [ints_len, List.length_map]; exact hTl
      have hl2 : (ints (wordsN (l.take j))).length ≤ j := by rw [ints_len]; exact hTl
      have HT1 := Lib.hid hT1
      have HT2 := Lib.hid hT2
      clear hn3 hT hT1 hT2 hTl
      generalize ints ((wordsN (l.take j)).map codeN) = LC at *
      generalize ints (wordsN (l.take j)) = LS at *
      rw [hn] at HBL
      have HCO := Lib.hid (fun w => Coded_any (n : Int) w)
      have hc1 : codS (n : Int) = (((codeN n : Nat) : Int), 0) := by unfold codS; rw [if_pos ⟨by omega, by omega⟩]; simp
      rw [hc1] at HCO
      simp only [two] at HCO
      obtain ⟨p1, p2⟩ := hP.held.cells
      have f1 := hP.held.free 0
      have f2 := hP.held.free 1
      have zwr := hP.held.lt
      have HP0 := Lib.hid hP
      have HP := Lib.hid hP
      have HLE1 : Hid ((LC.length + 1) * 8 ≤ 140737488355328) := Lib.hid (by omega)
      have HLE2 : Hid ((LS.length + 1) * 8 ≤ 140737488355328) := Lib.hid (by omega)
      clear hi hn hc1 hP hK
      generalize codeN n = X at *
      go_upto_region 9 with (first | (go_at_call 35; refine (HBL.out _).mono ?_; rintro e w' ⟨rfl, rfl⟩) | (go_at_call 29; refine (HCO.out _).mono ?_; rintro e w' ⟨rfl, rfl⟩) | fail)
      go_region_law ((rw [if_pos (by rfl)]; first | (refine step_C (w := w) (P := w.heap.size) (vC0 := vC) (vS0 := vS) HP0.out.c (by first | with_reducible exact (HP.out.alloc _).drew | with_reducible exact ((HP.out.alloc _).alloc _).drew | with_reducible exact HP.out.alloc _ | with_reducible exact HP.out | with_reducible exact (HP.out.alloc _).alloc _ | with_reducible exact HP.out.drew) (.tmp 38) (.tmp 40) rfl _ _ (X : Int) rfl rfl (by first | (simp; done) | (rw [HL4.out _ (by omega) (by first | (simp; done) | (simp; omega))]; simp; done)) HLE1.out ?_; intro A3 c3 w3 HP HL3 zz3; obtain ⟨c30, c31⟩ := HP.out.held.cells; have f30 := HP.out.held.free 0; have f31 := HP.out.held.free 1; have z3 := HP.out.held.lt) | (refine step_S (w := w) (P := w.heap.size) (vC0 := vC) (vS0 := vS) HP0.out.s (by first | with_reducible exact (HP.out.alloc _).drew | with_reducible exact ((HP.out.alloc _).alloc _).drew | with_reducible exact HP.out.alloc _ | with_reducible exact HP.out | with_reducible exact (HP.out.alloc _).alloc _ | with_reducible exact HP.out.drew) (.tmp 43) (.tmp 45) rfl _ _ (n : Int) rfl rfl (by first | (simp; done) | (rw [HL3.out _ (by omega) (by first | (simp; done) | (simp; omega))]; simp; done)) HLE2.out ?_; intro A4 c4 w4 HP HL4 zz4; obtain ⟨c40, c41⟩ := HP.out.held.cells; have f40 := HP.out.held.free 0; have f41 := HP.out.held.free 1; have z4 := HP.out.held.lt)))
      all_goals
        go_wp2_with fail
        first
        | exact ⟨⟨j + 1, _, _, by omega, by go_num, (by rw [HT1.out, HT2.out]; with_reducible exact HP.out.sets)⟩, by simp [intOf]; omega⟩
        | exact ⟨⟨j + 1, _, _, by omega, by go_num, (by rw [HT1.out, HT2.out]; with_reducible exact HP.out.sets')⟩, by simp [intOf]; omega⟩
        | exact ⟨⟨j + 1, _, _, by omega, by go_num, (by rw [HT1.out, HT2.out]; with_reducible exact HP.out.sets.drew)⟩, by simp [intOf]; omega⟩
        | exact ⟨⟨j + 1, _, _, by omega, by go_num, (by rw [HT1.out, HT2.out]; with_reducible exact HP.out.sets'.drew)⟩, by simp [intOf]; omega⟩
        | exact ⟨⟨j + 1, _, _, by omega, by go_num, (by rw [HT1.out, HT2.out]; first | exact HP.out.sets | exact HP.out.sets')⟩, by simp [intOf]; omega⟩
    · obtain rfl : j = l.length := by omega
      rw [List.take_length] at hP
      have hwn : ∀ z ∈ wordsN l, z < 65536 := by
        intro z hz
        unfold wordsN at hz
        obtain ⟨y, _, rfl⟩ := List.mem_map.1 hz
        omega
      have hwl : (wordsN l).length = l.length := by simp [wordsN]
      by_cases h0l : l.length = 0
      · have t1 : ((l.length : Int) == 0) = true := by rw [h0l]; rfl
        have hbw := hP.below
        have HBW := Lib.hid hbw
        clear hbw hP
        go_wp2_with (first | (go_at_call 36; refine (awake_any _).mono ?_; rintro e w' ⟨rfl, rfl⟩) | fail)
        go_ret
        exact ⟨rfl, HBW.out⟩
      have t1 : ((l.length : Int) == 0) = false := beq_eq_false_iff_ne.2 (by omega)
      by_cases h50 : 50 < l.length
      · have t2 : decide ((50 : Int) < (l.length : Int)) = true := decide_eq_true (by omega)
        have HBW := Lib.hid hP.below
        clear hP h50
        go_wp2_with (first | (go_at_call 36; refine (awake_any _).mono ?_; rintro e w' ⟨rfl, rfl⟩) | fail)
        go_ret
        exact ⟨rfl, HBW.out⟩
      have t2 : decide ((50 : Int) < (l.length : Int)) = false := decide_eq_false (by omega)
      have hn1 : 1 ≤ l.length := by omega
      have hn2 : l.length ≤ 50 := by omega
      have HBE := Lib.hid (fun w => belowN_any e 20 w (by omega) (by omega) he)
      obtain ⟨E1, hE1⟩ : ∃ n : Nat, e % ((20 : Nat) : Int) = (n : Int) := ⟨(e % 20).toNat, by omega⟩
      have hE2 : E1 < 20 := by omega
      rw [hE1] at HBE
      obtain ⟨E, hE⟩ : ∃ E : Nat, E1 + 1 = E := ⟨_, rfl⟩
      have hEl : 1 ≤ E := by omega
      have hEm : E ≤ 20 := by omega
      have hEq : 1 + (E1 : Int) = (E : Int) := by omega
      have hbw := hP.below
      have hfb : FR wr w.heap.size Af f := hf.below hbw
      have HPP := Lib.hid hP
      have HWN := Lib.hid hwn
      have HWL := Lib.hid hwl
      clear hE1 hE h h0l h50 hwn hwl hP
      have hzb := hbw.size
      have hat : OwnF wr wr.heap.size (.slice none 0 0) (someT f E l.length 0) ∧ Below wr.heap.size wr wr := ⟨OwnF.nil _ _, Below.refl _ _⟩
      go_upto_region 16 with (first | (go_at_call 35; refine (HBE.out _).mono ?_; rintro e w' ⟨rfl, rfl⟩) | fail)
      obtain ⟨wb, hwb⟩ : ∃ wb, wb = wr := ⟨_, rfl⟩
      have HWB := Lib.hid hwb
      rw [← hwb] at hat hfb HPP hbw hzb ⊢
      clear hwb HWB hEq t1 t2
      go_loopw [12, 13, 14, 64] (fun v _ _ i wq => ∃ k : Nat, k ≤ f.length ∧ k ≤ 50 ∧ i = .int .i64 (k : Int) ∧ OwnF wq wb.heap.size v (someT f E l.length k) ∧ Below wb.heap.size wb wq) (fun _ _ _ i _ => f.length - (intOf i).toNat)
      case atStart => exact ⟨0, Nat.zero_le _, by omega, rfl, hat.1, hat.2⟩
      case round =>
        obtain ⟨k, hk, hk50, rfl, hO, hK⟩ := hrel
        by_cases hlt : k < f.length
        · by_cases h5 : k = 50
          · obtain ⟨ad, hA, hd, x0, x1, x2⟩ := (hfb.below (hK.mono hzb)).get k hlt
            have hk0 : (0 : Int) ≤ (k : Int) := Int.natCast_nonneg _
            have hk1 : (k : Int) < (f.length : Int) := by omega
            have hk2 : decide ((50 : Int) ≤ (k : Int)) = true := decide_eq_true (by omega)
            clear h5
            generalize f[k] = x at *
            obtain ⟨xt, xp, xb⟩ := x
            simp only at x0 x1 x2
            subst hA
            go_upto_region 21 with fail
            obtain ⟨wv, hwv⟩ : ∃ wv, wr.alloc (.cells #[.int .i64 xt, .int .i64 xp, .int .i64 xb] 66) = wv := ⟨_, rfl⟩
            have hOv : OwnF wv wb.heap.size u12 (someT f E l.length k) := by rw [← hwv]; exact World.ownsRow.alloc hO _
            have hKv : Below wb.heap.size wb wv := by rw [← hwv]; exact hK.alloc hK.size _
            rw [hwv]
            have hkv : k ≤ 50 := hk50
            clear hwv x0 x1 x2 hO hK hlt hk hk1 hk50 hd hk2
            have hPq := HPP.out
            have hTl := someT_len f E l.length k
            have hlC : (ints ((wordsN l).map codeN)).length = l.length := by rw [ints_len, List.length_map]; exact HWL.out
            have hlS : (ints (wordsN l)).length = l.length := by rw [ints_len]; exact HWL.out
            obtain ⟨Af2, ck2, rfl, hc1, hc2, hFR⟩ := hOv.form
            have hcC := hPq.c.after hKv (Nat.le_refl _)
            have hcS := hPq.s.after hKv (Nat.le_refl _)
            have hPw := hPq.held.below hKv hPq.held.lt
            have hPlt := hPq.held.lt
            have bwb := hPq.below
            obtain ⟨AC, cC, rfl, hIC⟩ := hcC.form
            obtain ⟨AS, cS, rfl, hIS⟩ := hcS.form
            rw [hlC, hlS] at hPw
            have hne : wordsN l ≠ [] := by intro e; have := HWL.out; rw [e] at this; simp at this; omega
            have HALL := Lib.hid (fun (u : Nat) (hu : u ≤ 1001) => keep_all (l := f) (K := k) hEl hEm hkv hne HWN.out (by rw [HWL.out]; omega) u hu)
            rw [HWL.out] at HALL
            have hszq := hKv.size
            obtain ⟨wy, hwy⟩ : ∃ wy, wv.alloc (.cells #[.int .i64 (E : Int), .int .i64 (l.length : Int)] 68) = wy := ⟨_, rfl⟩
            have bY : Below wv.heap.size wv wy := by rw [← hwy]; exact boxB _ _
            have zY : wy.heap.size = wv.heap.size + 1 := by rw [← hwy]; simp
            have xY : wy.heap[wv.heap.size]? = some (.cells #[.int .i64 (E : Int), .int .i64 (l.length : Int)] 68 (0, 0)) := by rw [← hwy]; exact heap_alloc_new wv _
            have HWY := Lib.hid hwy
            have hGl : E * k ≤ 20 * 50 := Nat.mul_le_mul hEm hkv
            have hGm : ((E : Int) * (k : Int)) = ((E * k : Nat) : Int) := by simp
            have u1 : -9223372036854775808 ≤ ((E * k : Nat) : Int) ∧ ((E * k : Nat) : Int) ≤ 9223372036854775807 := by omega
            have hG2 : wrap64 ((E : Int) * (k : Int)) = ((E * k : Nat) : Int) := by rw [hGm]; exact IntWalk.wrap64_in _ u1
            have HG2 := Lib.hid hG2
            clear hGm u1 hwy hG2
            generalize hFe : someT f E l.length k = F at *
            generalize hLCe : ints ((wordsN l).map codeN) = LC at *
            generalize hLSe : ints (wordsN l) = LS at *
            generalize E * k = G at *
            have hG0 : (0 : Int) ≤ (G : Int) := Int.natCast_nonneg _
            have hG1 : (G : Int) ≤ 1000 := by omega
            obtain ⟨HW1, HW2, HW3⟩ := lit_nums hG0 hG1
            obtain ⟨wz, hwz⟩ : ∃ wz, wy.alloc (.cells #[.int .i64 (G : Int), .int .i64 ((G : Int) + 1), .int .i64 ((G : Int) / 2)] 3) = wz := ⟨_, rfl⟩
            have bZ : Below wy.heap.size wy wz := by rw [← hwz]; exact boxB _ _
            have zZ : wz.heap.size = wy.heap.size + 1 := by rw [← hwz]; simp
            have hLit : IR wz wz.heap.size (some ⟨wy.heap.size, 0, none⟩) [(G : Int), (G : Int) + 1, (G : Int) / 2] := Cells.lift (B := wy.heap.size + 1) (by rw [← hwz]; exact Cells.fresh wy _ 3 _ _ rfl) (by omega)
            have hU : ∀ j (h : j < [(G : Int), (G : Int) + 1, (G : Int) / 2].length), ∃ u : Nat, [(G : Int), (G : Int) + 1, (G : Int) / 2][j] = (u : Int) ∧ u ≤ 1001 := by
              intro j h
              match j, h with
              | 0, _ => exact ⟨G, rfl, by omega⟩
              | 1, _ => exact ⟨G + 1, by simp, by omega⟩
              | 2, _ => exact ⟨G / 2, by simp, by omega⟩
            have bVZ : Below wv.heap.size wv wz := bY.trans (bZ.mono (by omega))
            have bWZ : Below w.heap.size w wz := bwb.trans ((hKv.trans (bVZ.mono (by omega))).mono (by omega))
            have hPz := hPw.below bVZ (by omega)
            have xZ := (bZ.block wv.heap.size (by omega)).trans xY
            have HCELL := Lib.hid (fun (w' : World) (hb : Below wz.heap.size wz w') => (show (w'.cell? ⟨w.heap.size, 0, none⟩ = some (.slice AC l.length cC) ∧ w'.cell? ⟨w.heap.size, 1, none⟩ = some (.slice AS l.length cS)) ∧ (w'.cell? ⟨wv.heap.size, 0, none⟩ = some (.int .i64 (E : Int)) ∧ w'.cell? ⟨wv.heap.size, 1, none⟩ = some (.int .i64 (l.length : Int))) from
              ⟨(hPz.below hb (by omega)).cells, rcells (w := w') rfl ((hb.block wv.heap.size (by omega)).trans xZ)⟩))
            have gC : IR wz wz.heap.size AC LC := (hIC.below bVZ).lift (by omega)
            have gS : IR wz wz.heap.size AS LS := (hIS.below bVZ).lift (by omega)
            have gF : FR wz wz.heap.size Af2 F := (hFR.below bVZ).lift (by omega)
            have HL : Hid (∀ (u : Nat), u ≤ 1001 → ∀ w1, Below wz.heap.size wz w1 → Calls Try.prog 37 #[.agg #[.slice AC l.length cC, .slice AS l.length cS], .agg #[.int .i64 (E : Int), .int .i64 (l.length : Int)], .slice Af2 k ck2, .int .i64 (u : Int)] w1 fun e w' => ∃ D q, e = .returned (.tuple #[.slice D 0 q, .int .i64 0]) ∧ Below w1.heap.size w1 w') := Lib.hid (fun u hu w1 hb => by
              have h1 := lost_any AC AS Af2 cC cS ck2 LC LS (E : Int) (l.length : Int) F (u : Int) wz.heap.size w1 hb.size (by omega) (by omega) hc1 hc2 (gC.below hb) (gS.below hb) (gF.below hb)
              obtain ⟨a1, a2, a3⟩ := HALL.out u hu
              unfold PlacesPost at h1
              unfold bankV at h1
              rw [a1, a2, hlC, hlS, hTl] at h1
              exact h1.mono fun e w' ⟨D, q, he, _, hb⟩ => ⟨D, q, he, hb⟩)
            have HW : Hid (∀ (u : Nat), u ≤ 1001 → ∀ w1, Below wz.heap.size wz w1 → Calls Try.prog 38 #[.agg #[.slice AC l.length cC, .slice AS l.length cS], .agg #[.int .i64 (E : Int), .int .i64 (l.length : Int)], .slice Af2 k ck2, .int .i64 (u : Int)] w1 fun e w' => ∃ D q, e = .returned (.tuple #[.slice D 0 q, .int .i64 0]) ∧ Below w1.heap.size w1 w') := Lib.hid (fun u hu w1 hb => by
              have h1 := wrong_any AC AS Af2 cC cS ck2 LC LS (E : Int) (l.length : Int) F (u : Int) wz.heap.size w1 hb.size (by omega) (by omega) hc1 hc2 (gC.below hb) (gS.below hb) (gF.below hb)
              obtain ⟨a1, a2, a3⟩ := HALL.out u hu
              unfold PlacesPost at h1
              unfold bankV at h1
              rw [a1, a3, hlC, hlS, hTl] at h1
              exact h1.mono fun e w' ⟨D, q, he, _, hb⟩ => ⟨D, q, he, hb⟩)
            rw [hTl]
            have HWZ := Lib.hid hwz
            have HU := Lib.hid hU
            have HPF := Lib.hid hTl
            clear hTl hlC hlS hwz hU hFe hLCe hLSe HALL hFR hcC hcS hIC hIS gC gS gF hPq hne hGl hPw hPz xY xZ zY zZ
            go_upto_region 22 with fail
            rw [HWY.out]
            go_upto_region 23 with fail
            rw [HG2.out, HW1.out, HW2.out, HW3.out]
            rw [HWZ.out]
            clear HWY HWZ HG2 bY bZ
            obtain ⟨aL, haL⟩ : ∃ aL : Addr, (⟨wy.heap.size, 0, none⟩ : Addr) = aL := ⟨_, rfl⟩
            rw [haL] at hLit ⊢
            clear haL
            go_loopw [17, 18, 19, 20, 21, 114] (fun _ _ _ _ _ i wq => ∃ j : Nat, j ≤ 3 ∧ i = .int .i64 (j : Int) ∧ Below wz.heap.size wz wq) (fun _ _ _ _ _ i _ => 3 - (intOf i).toNat)
            case atStart => exact ⟨0, by omega, rfl, Below.refl _ _⟩
            case round =>
              obtain ⟨j, hj, rfl, hb⟩ := hrel
              by_cases hlt3 : j < 3
              · obtain ⟨ad, hA, -, hc⟩ := (hLit.below hb).get j (by simpa using hlt3)
                injection hA with hA
                subst hA
                obtain ⟨u, hu, hu2⟩ := HU.out j (by simpa using hlt3)
                rw [hu] at hc
                have hj0 : (0 : Int) ≤ (j : Int) := Int.natCast_nonneg _
                have hj1 : (j : Int) < 3 := by omega
                obtain ⟨⟨p1, p2⟩, p3, p4⟩ := HCELL.out wr hb
                clear hu
                go_wp2_with fail
                refine (HL.out u hu2 wr hb).mono ?_
                rintro e' w1 ⟨D1, q1, rfl, hb1⟩
                have hb1' := hb.trans (hb1.mono hb.size)
                clear p1 p2 p3 p4 hc
                obtain ⟨⟨p1, p2⟩, p3, p4⟩ := HCELL.out w1 hb1'
                go_wp2_with fail
                refine (HW.out u hu2 w1 hb1').mono ?_
                rintro e' w2 ⟨D2, q2, rfl, hb2⟩
                have hb2' := hb1'.trans (hb2.mono hb1'.size)
                clear p1 p2 p3 p4
                go_wp2_with fail
                exact ⟨⟨j + 1, by omega, by go_num, hb2'⟩, by simp [intOf]; omega⟩
              · have hbz := bWZ.trans (hb.mono bWZ.size)
                go_wp2_with (first | (go_at_call 36; refine (awake_any _).mono ?_; rintro e w' ⟨rfl, rfl⟩) | fail)
                go_ret
                exact ⟨rfl, hbz⟩
          · have hk5 : k < 50 := by omega
            obtain ⟨ad, hA, hd, x0, x1, x2⟩ := (hfb.below (hK.mono hzb)).get k hlt
            have hxb := hbd k hlt
            have hg : f.getD k default = f[k] := by simp [List.getD, hlt]
            have HS := Lib.hid (show someT f E l.length (k + 1) = someT f E l.length k ++ [mkF E l.length k (f.getD k default)] from rfl)
            rw [hg] at HS
            have hTl := someT_len f E l.length k
            generalize someT f E l.length k = T at *
            have hk0 : (0 : Int) ≤ (k : Int) := Int.natCast_nonneg _
            have hk1 : (k : Int) < (f.length : Int) := by omega
            have hk2 : decide ((50 : Int) ≤ (k : Int)) = false := decide_eq_false (by omega)
            have hk3 : (k : Int) ≤ 49 := by omega
            obtain ⟨⟨b1, b2⟩, ⟨b3, b4⟩, b5, b6⟩ := hxb
            generalize f[k] = x at *
            obtain ⟨xt, xp, xb⟩ := x
            simp only at x0 x1 x2 b1 b2 b3 b4 b5 b6
            subst hA
            clear hg hk50
            have HTL := Lib.hid hTl
            clear hTl
            go_upto_region 19 with fail
            obtain ⟨wx, hwx⟩ : ∃ wx, wr.alloc (.cells #[.int .i64 xt, .int .i64 xp, .int .i64 xb] 66) = wx := ⟨_, rfl⟩
            have hOx : OwnF wx wb.heap.size u12 T := by rw [← hwx]; exact World.ownsRow.alloc hO _
            have hKx : Below wb.heap.size wb wx := by rw [← hwx]; exact hK.alloc hK.size _
            have y0 : wx.cell? ⟨wr.heap.size, 0, none⟩ = some (.int .i64 xt) := by rw [← hwx]; simp
            have y1 : wx.cell? ⟨wr.heap.size, 1, none⟩ = some (.int .i64 xp) := by rw [← hwx]; simp
            have y2 : wx.cell? ⟨wr.heap.size, 2, none⟩ = some (.int .i64 xb) := by rw [← hwx]; simp
            have hxx : wx.heap[wr.heap.size]? = some (.cells #[.int .i64 xt, .int .i64 xp, .int .i64 xb] 66 (0, 0)) := by rw [← hwx]; exact heap_alloc_new wr _
            have hsw : wr.heap.size < wx.heap.size := by rw [← hwx]; simp
            have how : ∀ q, Value.ownBlock u12 = some q → q < wr.heap.size := fun q hq => (World.ownsRow.lt hO q hq).2
            rw [hwx]
            have hb1 := Lib.hid (fun w => belowN_any xt E w hEl (by omega) ⟨b1, b2⟩)
            have hb2 := Lib.hid (fun w => belowN_any xp l.length w hn1 (by omega) ⟨b3, b4⟩)
            have hb3 := Lib.hid (fun w => belowN_any xb 22 w (by omega) (by omega) ⟨b5, b6⟩)
            have q1 : 0 ≤ xt % (E : Int) := Int.emod_nonneg _ (by omega)
            have q2 : xt % (E : Int) < (E : Int) := Int.emod_lt_of_pos _ (by omega)
            have q3 : 0 ≤ xb % ((22 : Nat) : Int) := Int.emod_nonneg _ (by omega)
            have q4 : xb % ((22 : Nat) : Int) < ((22 : Nat) : Int) := Int.emod_lt_of_pos _ (by omega)
            have HMK := Lib.hid (show mkF E l.length k ⟨xt, xp, xb⟩ = ⟨((E * k : Nat) : Int) + 1 + xt % (E : Int), xp % (l.length : Int), 1 + xb % ((22 : Nat) : Int)⟩ from rfl)
            have hGl : E * k ≤ 20 * 50 := Nat.mul_le_mul hEm (by omega)
            have hGm : ((E : Int) * (k : Int)) = ((E * k : Nat) : Int) := by simp
            generalize mkF E l.length k ⟨xt, xp, xb⟩ = X at *
            generalize xt % (E : Int) = T0 at *
            generalize xp % (l.length : Int) = P0 at *
            generalize xb % ((22 : Nat) : Int) = B0 at *
            have u1 : -9223372036854775808 ≤ ((E * k : Nat) : Int) ∧ ((E * k : Nat) : Int) ≤ 9223372036854775807 := by omega
            have u2 : -9223372036854775808 ≤ ((E * k : Nat) : Int) + 1 ∧ ((E * k : Nat) : Int) + 1 ≤ 9223372036854775807 := by omega
            have u3 : -9223372036854775808 ≤ ((E * k : Nat) : Int) + 1 + T0 ∧ ((E * k : Nat) : Int) + 1 + T0 ≤ 9223372036854775807 := by omega
            have u4 : -9223372036854775808 ≤ 1 + B0 ∧ 1 + B0 ≤ 9223372036854775807 := by omega
            have hG1 : IntKind.i64.wrap ((E : Int) * (k : Int)) = ((E * k : Nat) : Int) := by rw [hGm]; exact IntWalk.i64_in _ u1
            have hG3 : IntKind.i64.wrap (((E * k : Nat) : Int) + 1) = ((E * k : Nat) : Int) + 1 := IntWalk.i64_in _ u2
            have hG4 : IntKind.i64.wrap (((E * k : Nat) : Int) + 1 + T0) = ((E * k : Nat) : Int) + 1 + T0 := IntWalk.i64_in _ u3
            have hG5 : IntKind.i64.wrap (1 + B0) = 1 + B0 := IntWalk.i64_in _ u4
            clear hGm hGl u1 u2 u3 u4 q1 q2 q3 q4
            generalize E * k = G at *
            have hsx := hKx.size
            clear hwx x0 x1 x2 b1 b2 b3 b4 b5 b6 hO hK
            have HXX := Lib.hid hxx
            have HSS := Lib.hid (fun (w' : World) (hb : Below wx.heap.size wx w') => (show w'.cell? ⟨wr.heap.size, 0, none⟩ = some (.int .i64 xt) ∧ w'.cell? ⟨wr.heap.size, 1, none⟩ = some (.int .i64 xp) ∧ w'.cell? ⟨wr.heap.size, 2, none⟩ = some (.int .i64 xb) from
              ⟨(hb.cell (p := ⟨wr.heap.size, 0, none⟩) hsw).trans y0, (hb.cell (p := ⟨wr.heap.size, 1, none⟩) hsw).trans y1, (hb.cell (p := ⟨wr.heap.size, 2, none⟩) hsw).trans y2⟩))
            have r0 : Below wx.heap.size wx wx := Below.refl _ _
            have HOD := Lib.hid hOx
            have HO1 := Lib.hid (fun q (hq : Value.ownBlock u12 = some q) => (World.ownsRow.lt hOx q hq).1)
            have HOW := Lib.hid (fun q (hq : Value.ownBlock u12 = some q) => how q hq)
            have HBW := Lib.hid (fun o => hKx.alloc hsx o)
            have HBW2 := Lib.hid (fun o => hKx.drew.alloc hsx o)
            have hTk : T.length ≤ 50 := by rw [HTL.out]; omega
            clear hxx how
            go_region_held3 (fun w' => w'.cell? ⟨wr.heap.size, 0, none⟩ = some (.int .i64 xt) ∧ w'.cell? ⟨wr.heap.size, 1, none⟩ = some (.int .i64 xp) ∧ w'.cell? ⟨wr.heap.size, 2, none⟩ = some (.int .i64 xb))
              (first | exact HSS.out _ r0 | exact HSS.out _ r0.drew | exact HSS.out _ (boxB _ _) | exact HSS.out _ (boxD _ _) | exact S7.out | go_keep)
              (first
               | (go_at_call 35
                  first
                  | ((with_reducible refine (hb1.out _).mono ?_); rintro e w' ⟨rfl, rfl⟩)
                  | ((with_reducible refine (hb2.out _).mono ?_); rintro e w' ⟨rfl, rfl⟩)
                  | ((refine (hb3.out _).mono ?_); rintro e w' ⟨rfl, rfl⟩))
               | (rw [if_pos (by rfl)]
                  refine oper_app _ (.tmp 71) (.tmp 91) 64 66 3 24 rfl elemF wb.heap.size u12 T.length (fcells T) rfl (World.ownsRow.alloc HOD.out _) (wx.heap.size + 1) _ 1 1 (fcells [⟨(G : Int) + 1 + T0, P0, 1 + B0⟩]) rfl rfl (Cells.fresh wx _ 66 _ _ rfl) (fcells_one _) (by unfold maxLen; omega) (by omega) (by simp; omega) ?_
                  intro v3 w7 hown3 hgrow3 hat3
                  have S7 := Lib.hid (flip_stay HXX.out HOW.out (hgrow3.block wr.heap.size (by simp; omega)) (Below.heap_alloc _ _ _ hsw))
                  have hb7 : Below wb.heap.size wb w7 := by first | exact (HBW.out _).grown hgrow3 (by simp; omega) HO1.out | exact (HBW2.out _).grown hgrow3 (by simp; omega) HO1.out))
            all_goals
              have ho3 := OwnF.of (a := T) (b := [⟨(G : Int) + 1 + T0, P0, 1 + B0⟩]) hown3 rfl
              go_wp2_with fail
              refine ⟨⟨k + 1, by omega, by omega, by go_num, ?_, hb7⟩, by simp [intOf]; omega⟩
              rw [HS.out, HMK.out]
              exact ho3
        · have hkv : k ≤ 50 := hk50
          go_upto_region 21 with fail
          obtain ⟨wv, hwv⟩ : ∃ wv, wr = wv := ⟨_, rfl⟩
          have hOv : OwnF wv wb.heap.size u12 (someT f E l.length k) := by rw [← hwv]; exact hO
          have hKv : Below wb.heap.size wb wv := by rw [← hwv]; exact hK
          rw [hwv]
          clear hwv hO hK hk50
          have hPq := HPP.out
          have hTl := someT_len f E l.length k
          have hlC : (ints ((wordsN l).map codeN)).length = l.length := by rw [ints_len, List.length_map]; exact HWL.out
          have hlS : (ints (wordsN l)).length = l.length := by rw [ints_len]; exact HWL.out
          obtain ⟨Af2, ck2, rfl, hc1, hc2, hFR⟩ := hOv.form
          have hcC := hPq.c.after hKv (Nat.le_refl _)
          have hcS := hPq.s.after hKv (Nat.le_refl _)
          have hPw := hPq.held.below hKv hPq.held.lt
          have hPlt := hPq.held.lt
          have bwb := hPq.below
          obtain ⟨AC, cC, rfl, hIC⟩ := hcC.form
          obtain ⟨AS, cS, rfl, hIS⟩ := hcS.form
          rw [hlC, hlS] at hPw
          have hne : wordsN l ≠ [] := by intro e; have := HWL.out; rw [e] at this; simp at this; omega
          have HALL := Lib.hid (fun (u : Nat) (hu : u ≤ 1001) => keep_all (l := f) (K := k) hEl hEm hkv hne HWN.out (by rw [HWL.out]; omega) u hu)
          rw [HWL.out] at HALL
          have hszq := hKv.size
          obtain ⟨wy, hwy⟩ : ∃ wy, wv.alloc (.cells #[.int .i64 (E : Int), .int .i64 (l.length : Int)] 68) = wy := ⟨_, rfl⟩
          have bY : Below wv.heap.size wv wy := by rw [← hwy]; exact boxB _ _
          have zY : wy.heap.size = wv.heap.size + 1 := by rw [← hwy]; simp
          have xY : wy.heap[wv.heap.size]? = some (.cells #[.int .i64 (E : Int), .int .i64 (l.length : Int)] 68 (0, 0)) := by rw [← hwy]; exact heap_alloc_new wv _
          have HWY := Lib.hid hwy
          have hGl : E * k ≤ 20 * 50 := Nat.mul_le_mul hEm hkv
          have hGm : ((E : Int) * (k : Int)) = ((E * k : Nat) : Int) := by simp
          have u1 : -9223372036854775808 ≤ ((E * k : Nat) : Int) ∧ ((E * k : Nat) : Int) ≤ 9223372036854775807 := by omega
          have hG2 : wrap64 ((E : Int) * (k : Int)) = ((E * k : Nat) : Int) := by rw [hGm]; exact IntWalk.wrap64_in _ u1
          have HG2 := Lib.hid hG2
          clear hGm u1 hwy hG2
          generalize hFe : someT f E l.length k = F at *
          generalize hLCe : ints ((wordsN l).map codeN) = LC at *
          generalize hLSe : ints (wordsN l) = LS at *
          generalize E * k = G at *
          have hG0 : (0 : Int) ≤ (G : Int) := Int.natCast_nonneg _
          have hG1 : (G : Int) ≤ 1000 := by omega
          obtain ⟨HW1, HW2, HW3⟩ := lit_nums hG0 hG1
          obtain ⟨wz, hwz⟩ : ∃ wz, wy.alloc (.cells #[.int .i64 (G : Int), .int .i64 ((G : Int) + 1), .int .i64 ((G : Int) / 2)] 3) = wz := ⟨_, rfl⟩
          have bZ : Below wy.heap.size wy wz := by rw [← hwz]; exact boxB _ _
          have zZ : wz.heap.size = wy.heap.size + 1 := by rw [← hwz]; simp
          have hLit : IR wz wz.heap.size (some ⟨wy.heap.size, 0, none⟩) [(G : Int), (G : Int) + 1, (G : Int) / 2] := Cells.lift (B := wy.heap.size + 1) (by rw [← hwz]; exact Cells.fresh wy _ 3 _ _ rfl) (by omega)
          have hU : ∀ j (h : j < [(G : Int), (G : Int) + 1, (G : Int) / 2].length), ∃ u : Nat, [(G : Int), (G : Int) + 1, (G : Int) / 2][j] = (u : Int) ∧ u ≤ 1001 := by
            intro j h
            match j, h with
            | 0, _ => exact ⟨G, rfl, by omega⟩
            | 1, _ => exact ⟨G + 1, by simp, by omega⟩
            | 2, _ => exact ⟨G / 2, by simp, by omega⟩
          have bVZ : Below wv.heap.size wv wz := bY.trans (bZ.mono (by omega))
          have bWZ : Below w.heap.size w wz := bwb.trans ((hKv.trans (bVZ.mono (by omega))).mono (by omega))
          have hPz := hPw.below bVZ (by omega)
          have xZ := (bZ.block wv.heap.size (by omega)).trans xY
          have HCELL := Lib.hid (fun (w' : World) (hb : Below wz.heap.size wz w') => (show (w'.cell? ⟨w.heap.size, 0, none⟩ = some (.slice AC l.length cC) ∧ w'.cell? ⟨w.heap.size, 1, none⟩ = some (.slice AS l.length cS)) ∧ (w'.cell? ⟨wv.heap.size, 0, none⟩ = some (.int .i64 (E : Int)) ∧ w'.cell? ⟨wv.heap.size, 1, none⟩ = some (.int .i64 (l.length : Int))) from
            ⟨(hPz.below hb (by omega)).cells, rcells (w := w') rfl ((hb.block wv.heap.size (by omega)).trans xZ)⟩))
          have gC : IR wz wz.heap.size AC LC := (hIC.below bVZ).lift (by omega)
          have gS : IR wz wz.heap.size AS LS := (hIS.below bVZ).lift (by omega)
          have gF : FR wz wz.heap.size Af2 F := (hFR.below bVZ).lift (by omega)
          have HL : Hid (∀ (u : Nat), u ≤ 1001 → ∀ w1, Below wz.heap.size wz w1 → Calls Try.prog 37 #[.agg #[.slice AC l.length cC, .slice AS l.length cS], .agg #[.int .i64 (E : Int), .int .i64 (l.length : Int)], .slice Af2 k ck2, .int .i64 (u : Int)] w1 fun e w' => ∃ D q, e = .returned (.tuple #[.slice D 0 q, .int .i64 0]) ∧ Below w1.heap.size w1 w') := Lib.hid (fun u hu w1 hb => by
            have h1 := lost_any AC AS Af2 cC cS ck2 LC LS (E : Int) (l.length : Int) F (u : Int) wz.heap.size w1 hb.size (by omega) (by omega) hc1 hc2 (gC.below hb) (gS.below hb) (gF.below hb)
            obtain ⟨a1, a2, a3⟩ := HALL.out u hu
            unfold PlacesPost at h1
            unfold bankV at h1
            rw [a1, a2, hlC, hlS, hTl] at h1
            exact h1.mono fun e w' ⟨D, q, he, _, hb⟩ => ⟨D, q, he, hb⟩)
          have HW : Hid (∀ (u : Nat), u ≤ 1001 → ∀ w1, Below wz.heap.size wz w1 → Calls Try.prog 38 #[.agg #[.slice AC l.length cC, .slice AS l.length cS], .agg #[.int .i64 (E : Int), .int .i64 (l.length : Int)], .slice Af2 k ck2, .int .i64 (u : Int)] w1 fun e w' => ∃ D q, e = .returned (.tuple #[.slice D 0 q, .int .i64 0]) ∧ Below w1.heap.size w1 w') := Lib.hid (fun u hu w1 hb => by
            have h1 := wrong_any AC AS Af2 cC cS ck2 LC LS (E : Int) (l.length : Int) F (u : Int) wz.heap.size w1 hb.size (by omega) (by omega) hc1 hc2 (gC.below hb) (gS.below hb) (gF.below hb)
            obtain ⟨a1, a2, a3⟩ := HALL.out u hu
            unfold PlacesPost at h1
            unfold bankV at h1
            rw [a1, a3, hlC, hlS, hTl] at h1
            exact h1.mono fun e w' ⟨D, q, he, _, hb⟩ => ⟨D, q, he, hb⟩)
          rw [hTl]
          have HWZ := Lib.hid hwz
          have HU := Lib.hid hU
          have HPF := Lib.hid hTl
          clear hTl hlC hlS hwz hU hFe hLCe hLSe HALL hFR hcC hcS hIC hIS gC gS gF hPq hne hGl hPw hPz xY xZ zY zZ
          go_upto_region 22 with fail
          rw [HWY.out]
          go_upto_region 23 with fail
          rw [HG2.out, HW1.out, HW2.out, HW3.out]
          rw [HWZ.out]
          clear HWY HWZ HG2 bY bZ
          obtain ⟨aL, haL⟩ : ∃ aL : Addr, (⟨wy.heap.size, 0, none⟩ : Addr) = aL := ⟨_, rfl⟩
          rw [haL] at hLit ⊢
          clear haL
          go_loopw [17, 18, 19, 20, 21, 114] (fun _ _ _ _ _ i wq => ∃ j : Nat, j ≤ 3 ∧ i = .int .i64 (j : Int) ∧ Below wz.heap.size wz wq) (fun _ _ _ _ _ i _ => 3 - (intOf i).toNat)
          case atStart => exact ⟨0, by omega, rfl, Below.refl _ _⟩
          case round =>
            obtain ⟨j, hj, rfl, hb⟩ := hrel
            by_cases hlt3 : j < 3
            · obtain ⟨ad, hA, -, hc⟩ := (hLit.below hb).get j (by simpa using hlt3)
              injection hA with hA
              subst hA
              obtain ⟨u, hu, hu2⟩ := HU.out j (by simpa using hlt3)
              rw [hu] at hc
              have hj0 : (0 : Int) ≤ (j : Int) := Int.natCast_nonneg _
              have hj1 : (j : Int) < 3 := by omega
              obtain ⟨⟨p1, p2⟩, p3, p4⟩ := HCELL.out wr hb
              clear hu
              go_wp2_with fail
              refine (HL.out u hu2 wr hb).mono ?_
              rintro e' w1 ⟨D1, q1, rfl, hb1⟩
              have hb1' := hb.trans (hb1.mono hb.size)
              clear p1 p2 p3 p4 hc
              obtain ⟨⟨p1, p2⟩, p3, p4⟩ := HCELL.out w1 hb1'
              go_wp2_with fail
              refine (HW.out u hu2 w1 hb1').mono ?_
              rintro e' w2 ⟨D2, q2, rfl, hb2⟩
              have hb2' := hb1'.trans (hb2.mono hb1'.size)
              clear p1 p2 p3 p4
              go_wp2_with fail
              exact ⟨⟨j + 1, by omega, by go_num, hb2'⟩, by simp [intOf]; omega⟩
            · have hbz := bWZ.trans (hb.mono bWZ.size)
              go_wp2_with (first | (go_at_call 36; refine (awake_any _).mono ?_; rintro e w' ⟨rfl, rfl⟩) | fail)
              go_ret
              exact ⟨rfl, hbz⟩
end Go.Proofs.Yteelepjhlhifhaa
