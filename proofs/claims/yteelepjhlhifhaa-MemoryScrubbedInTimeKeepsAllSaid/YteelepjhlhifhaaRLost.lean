/- the places of words lost, of words read as others, of the reference. -/
import Derived.Test.YteelepjhlhifhaaWrong
import Derived.Test.YteelepjhlhifhaaRDec
namespace Go.Proofs.Yteelepjhlhifhaa
open Go.RowKit
attribute [local go_sem] setCell_draws alloc_draws

theorem rdecS_any (z : Int) (hz : 0 ≤ z ∧ z ≤ 4194303) (w : World) :
    Calls Try.prog 109 #[.int .i64 z] w fun e w' => e = .returned (three' (decS z)) ∧ w = w' := by
  obtain ⟨n, rfl⟩ := Int.eq_ofNat_of_zero_le hz.1
  have h := rdecoded_any n (by omega) w
  have e : decS (n : Int) = ((((decN n).1 : Nat) : Int), (((decN n).2.1 : Nat) : Int), (((decN n).2.2 : Nat) : Int)) := by unfold decS; rw [if_pos hz]; rfl
  rw [e]
  exact h
set_option maxRecDepth 100000 in
set_option maxHeartbeats 2000000 in
theorem rlost_any (D D' : Option Addr) (k k' : Nat) (X X' : List Int) (w1 : World) (hX : X.length ≤ 1048576) (hC : ∀ j (h : j < X.length), 0 ≤ X[j] ∧ X[j] ≤ 4194303) (i1 : IR w1 w1.heap.size D X) (i1' : IR w1 w1.heap.size D' X') :
    Calls Try.prog 83 #[bankV D D' X.length X'.length k k'] w1 fun e w' => ∃ A c, e = .returned (.slice A (lostT X X.length).length c) ∧ IR w' w'.heap.size A (lostT X X.length) ∧ Below w1.heap.size w1 w' := by
  have HC := Lib.hid hC
  clear hC
  unfold bankV
  obtain ⟨R, hRe⟩ : ∃ R, R = lostT X X.length := ⟨_, rfl⟩
  rw [← hRe]
  have HR := Lib.hid hRe
  clear hRe
  obtain ⟨wa, hwa⟩ : ∃ wa, w1.alloc (.cells #[.slice D X.length k, .slice D' X'.length k'] 52) = wa := ⟨_, rfl⟩
  have ba : Below w1.heap.size w1 wa := by rw [← hwa]; exact box_below _ _
  have za : wa.heap.size = w1.heap.size + 1 := by rw [← hwa]; simp
  have g9 : HeldB wa w1.heap.size (.slice D X.length k) (.slice D' X'.length k') := by rw [← hwa]; exact HeldB.new _ _ _
  have f1' : IR wa wa.heap.size D' X' := (i1'.below ba).lift (by omega)
  have f1 : IR wa wa.heap.size D X := (i1.below ba).lift (by omega)
  obtain ⟨p1, -⟩ := g9.cells
  have hat : OwnI wa wa.heap.size (.slice none 0 0) (lostT X 0) ∧ Below wa.heap.size wa wa := ⟨OwnI.nil _ _, Below.refl _ _⟩
  have HWA := Lib.hid hwa
  clear hwa i1 i1'
  go_enter Try.func83, Try.ntmps83
  go_upto_region 1 with fail
  rw [HWA.out]
  go_wp2_with fail
  clear p1 HWA
  go_loopw [3, 4, 5, 6, 7, 8, 12] (fun v _ _ _ _ _ i wr => ∃ j : Nat, j ≤ X.length ∧ i = .int .i64 (j : Int) ∧ OwnI wr wa.heap.size v (lostT X j) ∧ Below wa.heap.size wa wr) (fun _ _ _ _ _ _ i _ => X.length - (intOf i).toNat)
  case atStart => exact ⟨0, Nat.zero_le _, rfl, hat⟩
  case round =>
    obtain ⟨j, hj, rfl, hO, hK⟩ := hrel
    by_cases hlt : j < X.length
    · obtain ⟨ad, hA, hd, x1⟩ := (f1.below hK).get j hlt
      have gx : X.getD j 0 = X[j] := by simp [List.getD, hlt]
      have HS := Lib.hid (show lostT X (j + 1) = if (decS (X.getD j 0)).2.2 = 0 then lostT X j else lostT X j ++ [(j : Int)] from rfl)
      rw [gx] at HS
      have HD := Lib.hid (fun (w : World) => rdecS_any X[j] (HC.out j hlt) w)
      have hDl := lostT_len X j
      generalize lostT X j = T at *
      generalize X[j] = x at *
      have hj0 : (0 : Int) ≤ (j : Int) := Int.natCast_nonneg _
      have hj1 : (j : Int) < (X.length : Int) := by omega
      subst hA
      generalize decS x = d at *
      obtain ⟨d1, d2, d3⟩ := d
      unfold three' at HD
      simp only at HS HD
      by_cases h3 : d3 = 0
      · have t3 : (d3 != (0 : Int)) = false := by simpa using h3
        rw [if_pos h3] at HS
        go_wp2_with (first | (go_at_call 109; refine (HD.out _).mono ?_; rintro e w' ⟨rfl, rfl⟩) | fail)
        refine ⟨⟨j + 1, by omega, by go_num, ?_⟩, by simp [intOf]; omega⟩
        rw [HS.out]
        first | exact ⟨hO, hK⟩ | exact ⟨hO.drew, hK.drew⟩ | exact ⟨hO.drew.drew, hK.drew.drew⟩
      · rw [if_neg h3] at HS
        have t3 : (d3 != (0 : Int)) = true := by simpa using h3
        have hsz6 := hK.size
        have HO1 := Lib.hid (fun q (hq : Value.ownBlock u3 = some q) => (World.ownsRow.lt hO q hq).1)
        have HBW := Lib.hid (fun o => hK.alloc (by omega) o)
        go_wp2_with (first | (go_at_call 109; refine (HD.out _).mono ?_; rintro e w' ⟨rfl, rfl⟩) | (at_builtin; refine wpList_app _ rfl (.tmp 25) (.tmp 27) 22 3 1 8 rfl elemI wa.heap.size u3 T.length (T.map iv) rfl (World.ownsRow.alloc hO _) (wr.heap.size + 1) _ 1 1 ([(j : Int)].map iv) rfl rfl (Cells.fresh wr _ 3 _ _ rfl) (iv_one _) (by unfold maxLen; omega) (by omega) (by simp; omega) ?_; intro v3 w7 hown3 hgrow3 hat3; have hb7 := (HBW.out _).grown hgrow3 (by simp; omega) HO1.out) | fail)
        have ho3 := OwnI.of (a := T) (b := [(j : Int)]) hown3 rfl
        refine ⟨⟨j + 1, by omega, by go_num, ?_⟩, by simp [intOf]; omega⟩
        rw [HS.out]
        exact ⟨ho3, hb7⟩
    · obtain rfl : j = X.length := by omega
      obtain ⟨Dd, ck, rfl, hID⟩ := hO.form
      go_wp2_with fail
      refine bodyPost_ret (v := .slice Dd (lostT X X.length).length ck) (by simp [results, Try.results83, go_sem]) rfl ?_
      rw [HR.out]
      exact ⟨Dd, ck, rfl, hID, ba.trans (hK.mono (by omega))⟩
set_option maxRecDepth 100000 in
set_option maxHeartbeats 2000000 in
theorem rwrong_any (D D' : Option Addr) (k k' : Nat) (X X' : List Int) (w1 : World) (hX : X.length ≤ 1048576) (hX' : X'.length = X.length) (hC : ∀ j (h : j < X.length), 0 ≤ X[j] ∧ X[j] ≤ 4194303) (i1 : IR w1 w1.heap.size D X) (i1' : IR w1 w1.heap.size D' X') :
    Calls Try.prog 84 #[bankV D D' X.length X'.length k k'] w1 fun e w' => ∃ A c, e = .returned (.slice A (wrongT X X' X.length).length c) ∧ IR w' w'.heap.size A (wrongT X X' X.length) ∧ Below w1.heap.size w1 w' := by
  have HC := Lib.hid hC
  clear hC
  have HX' := Lib.hid hX'
  clear hX'
  unfold bankV
  obtain ⟨R, hRe⟩ : ∃ R, R = wrongT X X' X.length := ⟨_, rfl⟩
  rw [← hRe]
  have HR := Lib.hid hRe
  clear hRe
  obtain ⟨wa, hwa⟩ : ∃ wa, w1.alloc (.cells #[.slice D X.length k, .slice D' X'.length k'] 52) = wa := ⟨_, rfl⟩
  have ba : Below w1.heap.size w1 wa := by rw [← hwa]; exact box_below _ _
  have za : wa.heap.size = w1.heap.size + 1 := by rw [← hwa]; simp
  have g9 : HeldB wa w1.heap.size (.slice D X.length k) (.slice D' X'.length k') := by rw [← hwa]; exact HeldB.new _ _ _
  have f1' : IR wa wa.heap.size D' X' := (i1'.below ba).lift (by omega)
  have f1 : IR wa wa.heap.size D X := (i1.below ba).lift (by omega)
  obtain ⟨p1, -⟩ := g9.cells
  have hat : OwnI wa wa.heap.size (.slice none 0 0) (wrongT X X' 0) ∧ Below wa.heap.size wa wa := ⟨OwnI.nil _ _, Below.refl _ _⟩
  have HWA := Lib.hid hwa
  clear hwa i1 i1'
  go_enter Try.func84, Try.ntmps84
  go_upto_region 1 with fail
  rw [HWA.out]
  go_wp2_with fail
  clear p1 HWA
  go_loopw [3, 4, 5, 6, 7, 8, 12] (fun v _ _ _ _ _ i wr => ∃ j : Nat, j ≤ X.length ∧ i = .int .i64 (j : Int) ∧ OwnI wr wa.heap.size v (wrongT X X' j) ∧ Below wa.heap.size wa wr) (fun _ _ _ _ _ _ i _ => X.length - (intOf i).toNat)
  case atStart => exact ⟨0, Nat.zero_le _, rfl, hat⟩
  case round =>
    obtain ⟨j, hj, rfl, hO, hK⟩ := hrel
    by_cases hlt : j < X.length
    · obtain ⟨ad, hA, hd, x1⟩ := (f1.below hK).get j hlt
      have hlt' : j < X'.length := by have := HX'.out; omega
      obtain ⟨ad', hA', hd', x1'⟩ := (f1'.below hK).get j hlt'
      obtain ⟨-, e9⟩ := (g9.below hK (by omega)).cells
      have gy : X'.getD j 0 = X'[j] := by simp [List.getD, hlt']
      have gx : X.getD j 0 = X[j] := by simp [List.getD, hlt]
      have HS := Lib.hid (show wrongT X X' (j + 1) = if (decS (X.getD j 0)).2.2 = 0 ∧ (decS (X.getD j 0)).1 ≠ X'.getD j 0 then wrongT X X' j ++ [(j : Int)] else wrongT X X' j from rfl)
      rw [gx, gy] at HS
      have HD := Lib.hid (fun (w : World) => rdecS_any X[j] (HC.out j hlt) w)
      have hDl := wrongT_len X X' j
      generalize wrongT X X' j = T at *
      generalize X[j] = x at *
      generalize X'[j] = y at *
      have hj2 : (j : Int) < (X'.length : Int) := by omega
      have hj0 : (0 : Int) ≤ (j : Int) := Int.natCast_nonneg _
      have hj1 : (j : Int) < (X.length : Int) := by omega
      subst hA hA'
      generalize decS x = d at *
      obtain ⟨d1, d2, d3⟩ := d
      unfold three' at HD
      simp only at HS HD
      by_cases h3 : d3 = 0
      · have t3 : (d3 == (0 : Int)) = true := by simpa using h3
        by_cases h4 : d1 = y
        · have t4 : (d1 != y) = false := by simpa using h4
          rw [if_neg (fun q => q.2 h4)] at HS
          go_wp2_with (first | (go_at_call 109; refine (HD.out _).mono ?_; rintro e w' ⟨rfl, rfl⟩) | fail)
          refine ⟨⟨j + 1, by omega, by go_num, ?_⟩, by simp [intOf]; omega⟩
          rw [HS.out]
          first | exact ⟨hO, hK⟩ | exact ⟨hO.drew, hK.drew⟩ | exact ⟨hO.drew.drew, hK.drew.drew⟩
        · have t4 : (d1 != y) = true := by simpa using h4
          rw [if_pos ⟨h3, h4⟩] at HS
          have hsz6 := hK.size
          have HO1 := Lib.hid (fun q (hq : Value.ownBlock u3 = some q) => (World.ownsRow.lt hO q hq).1)
          have HBW := Lib.hid (fun o => hK.alloc (by omega) o)
          go_wp2_with (first | (go_at_call 109; refine (HD.out _).mono ?_; rintro e w' ⟨rfl, rfl⟩) | (at_builtin; refine wpList_app _ rfl (.tmp 34) (.tmp 36) 22 3 1 8 rfl elemI wa.heap.size u3 T.length (T.map iv) rfl (World.ownsRow.alloc hO _) (wr.heap.size + 1) _ 1 1 ([(j : Int)].map iv) rfl rfl (Cells.fresh wr _ 3 _ _ rfl) (iv_one _) (by unfold maxLen; omega) (by omega) (by simp; omega) ?_; intro v3 w7 hown3 hgrow3 hat3; have hb7 := (HBW.out _).grown hgrow3 (by simp; omega) HO1.out) | fail)
          have ho3 := OwnI.of (a := T) (b := [(j : Int)]) hown3 rfl
          refine ⟨⟨j + 1, by omega, by go_num, ?_⟩, by simp [intOf]; omega⟩
          rw [HS.out]
          exact ⟨ho3, hb7⟩
      · have t3 : (d3 == (0 : Int)) = false := by simpa using h3
        rw [if_neg (fun q => h3 q.1)] at HS
        go_wp2_with (first | (go_at_call 109; refine (HD.out _).mono ?_; rintro e w' ⟨rfl, rfl⟩) | fail)
        refine ⟨⟨j + 1, by omega, by go_num, ?_⟩, by simp [intOf]; omega⟩
        rw [HS.out]
        first | exact ⟨hO, hK⟩ | exact ⟨hO.drew, hK.drew⟩ | exact ⟨hO.drew.drew, hK.drew.drew⟩
    · obtain rfl : j = X.length := by omega
      obtain ⟨Dd, ck, rfl, hID⟩ := hO.form
      go_wp2_with fail
      refine bodyPost_ret (v := .slice Dd (wrongT X X' X.length).length ck) (by simp [results, Try.results84, go_sem]) rfl ?_
      rw [HR.out]
      exact ⟨Dd, ck, rfl, hID, ba.trans (hK.mono (by omega))⟩
end Go.Proofs.Yteelepjhlhifhaa
