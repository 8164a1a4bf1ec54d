/- the places whose words are read as others than were written: the walk of the program's Wrong. -/
import Derived.Test.YteelepjhlhifhaaLost
namespace Go.Proofs.Yteelepjhlhifhaa
open Go.RowKit
attribute [local go_sem] setCell_draws alloc_draws

/-- the places among the first k whose codes are read as other words -/
def wrongT (l l' : List Int) : Nat → List Int
  | 0 => []
  | k + 1 => if (decS (l.getD k 0)).2.2 = 0 ∧ (decS (l.getD k 0)).1 ≠ l'.getD k 0 then wrongT l l' k ++ [(k : Int)] else wrongT l l' k
theorem wrongT_len (l l' : List Int) : ∀ k, (wrongT l l' k).length ≤ k
  | 0 => Nat.le_refl _
  | k + 1 => by
    have := wrongT_len l l' k
    unfold wrongT
    split <;> simp <;> omega

set_option maxRecDepth 100000 in
set_option maxHeartbeats 2000000 in
theorem wrong_any (A A' Af : Option Addr) (c c' cf : Nat) (l l' : List Int) (e m : Int) (f : List Flp) (u : Int) (B : Nat) (w : World) (hB : B ≤ w.heap.size) (hl : l.length ≤ 9223372036854775807) (hl' : l'.length ≤ 9223372036854775807) (hfl : f.length ≤ cf) (hcf : cf ≤ maxLen) (h : IR w B A l) (h' : IR w B A' l') (hf : FR w B Af f) :
    Calls Try.prog 38 #[bankV A A' l.length l'.length c c', .agg #[.int .i64 e, .int .i64 m], .slice Af f.length cf, .int .i64 u] w (PlacesPost (wrongT (roundsS l l' e m f u).1.1 (roundsS l l' e m f u).1.2 (roundsS l l' e m f u).1.1.length, (roundsS l l' e m f u).2.2) w) := by
  have C1 := Lib.hid (fun (w1 : World) (hb : Below w.heap.size w w1) => rounds_any A A' Af c c' cf l l' e m f u B w1 (Nat.le_trans hB hb.size) hl hl' hfl hcf (h.below (hb.mono hB)) (h'.below (hb.mono hB)) (hf.below (hb.mono hB)))
  have hlens := roundsS_lens l l' e m f u
  generalize roundsS l l' e m f u = Z at *
  obtain ⟨⟨X, X'⟩, S, F⟩ := Z
  unfold ScrubPost at C1
  unfold bankV at C1 ⊢
  simp only at hlens C1 ⊢
  obtain ⟨hX, hX'⟩ := hlens
  have HX' := Lib.hid hX'
  clear hX'
  obtain ⟨w0, hw0⟩ : ∃ w0, (w.alloc (.cells #[.slice A l.length c, .slice A' l'.length c'] 52)).alloc (.cells #[.int .i64 e, .int .i64 m] 68) = w0 := ⟨_, rfl⟩
  obtain ⟨b0, z0, h0, hx0⟩ := boxes2_held _ _ _ _ w w0 hw0
  clear h h' hf
  obtain ⟨p1, p2⟩ := h0.cells
  obtain ⟨p3, p4⟩ := rcells (w := w0) rfl hx0
  have C1' := Lib.hid (C1.out w0 b0)
  have HW0 := Lib.hid hw0
  clear hw0
  obtain ⟨R, hRe⟩ : ∃ R, R = wrongT X X' X.length := ⟨_, rfl⟩
  rw [← hRe]
  have HR := Lib.hid hRe
  clear hRe
  go_enter Try.func38, Try.ntmps38
  go_upto_region 1 with fail
  rw [HW0.out]
  go_wp2_with fail
  refine C1'.out.mono ?_
  rintro e' w1 ⟨D, D', k, k', G, q, rfl, i1, i1', i1'', hb1, -, -, -⟩
  clear HW0 p1 p2 p3 p4 C1 C1'
  have bx1 := b0.trans (hb1.mono (by omega))
  have s1 := hb1.size
  generalize hwa : w1.alloc (.cells #[.slice D X.length k, .slice D' X'.length k'] 52) = wa
  have ba : Below w1.heap.size w1 wa := by rw [← hwa]; exact box_below _ _
  have za : wa.heap.size = w1.heap.size + 1 := by rw [← hwa]; simp
  have g9 : HeldB wa w1.heap.size (.slice D X.length k) (.slice D' X'.length k') := by rw [← hwa]; exact HeldB.new _ _ _
  have bxa := bx1.trans (ba.mono (by omega))
  have f1' : IR wa wa.heap.size D' X' := (i1'.below ba).lift (by omega)
  have f1 : IR wa wa.heap.size D X := (i1.below ba).lift (by omega)
  obtain ⟨p1, -⟩ := g9.cells
  have hat : OwnI wa wa.heap.size (.slice none 0 0) (wrongT X X' 0) ∧ Below wa.heap.size wa wa := ⟨OwnI.nil _ _, Below.refl _ _⟩
  go_wp2_with fail
  clear hwa p1 i1 i1' i1''
  go_loopw [13, 14, 15, 16, 17, 18, 31] (fun v _ _ _ _ _ i wr => ∃ j : Nat, j ≤ X.length ∧ i = .int .i64 (j : Int) ∧ OwnI wr wa.heap.size v (wrongT X X' j) ∧ Below wa.heap.size wa wr) (fun _ _ _ _ _ _ i _ => X.length - (intOf i).toNat)
  case atStart => exact ⟨0, Nat.zero_le _, rfl, hat⟩
  case round =>
    obtain ⟨j, hj, rfl, hO, hK⟩ := hrel
    by_cases hlt : j < X.length
    · obtain ⟨ad, hA, hd, x1⟩ := (f1.below hK).get j hlt
      have hlt' : j < X'.length := by have := HX'.out; omega
      obtain ⟨ad', hA', hd', x1'⟩ := (f1'.below hK).get j hlt'
      obtain ⟨-, e9⟩ := (g9.below hK (by omega)).cells
      have gy : X'.getD j 0 = X'[j] := by simp [List.getD, hlt']
      have gx : X.getD j 0 = X[j] := by simp [List.getD, hlt]
      have HS := Lib.hid (show wrongT X X' (j + 1) = if (decS (X.getD j 0)).2.2 = 0 ∧ (decS (X.getD j 0)).1 ≠ X'.getD j 0 then wrongT X X' j ++ [(j : Int)] else wrongT X X' j from rfl)
      rw [gx, gy] at HS
      have HD := Lib.hid (fun (w : World) => Decoded_any X[j] w)
      have hDl := wrongT_len X X' j
      generalize wrongT X X' j = T at *
      generalize X[j] = x at *
      generalize X'[j] = y at *
      have hj2 : (j : Int) < (X'.length : Int) := by omega
      have hj0 : (0 : Int) ≤ (j : Int) := Int.natCast_nonneg _
      have hj1 : (j : Int) < (X.length : Int) := by omega
      subst hA hA'
      generalize decS x = d at *
      obtain ⟨d1, d2, d3⟩ := d
      unfold three' at HD
      simp only at HS HD
      by_cases h3 : d3 = 0
      · have t3 : (d3 == (0 : Int)) = true := by simpa using h3
        by_cases h4 : d1 = y
        · have t4 : (d1 != y) = false := by simpa using h4
          rw [if_neg (fun q => q.2 h4)] at HS
          go_wp2_with (first | (go_at_call 72; refine (HD.out _).mono ?_; rintro e w' ⟨rfl, rfl⟩) | fail)
          refine ⟨⟨j + 1, by omega, by go_num, ?_⟩, by simp [intOf]; omega⟩
          rw [HS.out]
          first | exact ⟨hO, hK⟩ | exact ⟨hO.drew, hK.drew⟩ | exact ⟨hO.drew.drew, hK.drew.drew⟩
        · have t4 : (d1 != y) = true := by simpa using h4
          rw [if_pos ⟨h3, h4⟩] at HS
          have hsz6 := hK.size
          have HO1 := Lib.hid (fun q (hq : Value.ownBlock u13 = some q) => (World.ownsRow.lt hO q hq).1)
          have HBW := Lib.hid (fun o => hK.alloc (by omega) o)
          go_wp2_with (first | (go_at_call 72; refine (HD.out _).mono ?_; rintro e w' ⟨rfl, rfl⟩) | (at_builtin; refine wpList_app _ rfl (.tmp 53) (.tmp 55) 22 3 1 8 rfl elemI wa.heap.size u13 T.length (T.map iv) rfl (World.ownsRow.alloc hO _) (wr.heap.size + 1) _ 1 1 ([(j : Int)].map iv) rfl rfl (Cells.fresh wr _ 3 _ _ rfl) (iv_one _) (by unfold maxLen; omega) (by omega) (by simp; omega) ?_; intro v3 w7 hown3 hgrow3 hat3; have hb7 := (HBW.out _).grown hgrow3 (by simp; omega) HO1.out) | fail)
          have ho3 := OwnI.of (a := T) (b := [(j : Int)]) hown3 rfl
          refine ⟨⟨j + 1, by omega, by go_num, ?_⟩, by simp [intOf]; omega⟩
          rw [HS.out]
          exact ⟨ho3, hb7⟩
      · have t3 : (d3 == (0 : Int)) = false := by simpa using h3
        rw [if_neg (fun q => h3 q.1)] at HS
        go_wp2_with (first | (go_at_call 72; refine (HD.out _).mono ?_; rintro e w' ⟨rfl, rfl⟩) | fail)
        refine ⟨⟨j + 1, by omega, by go_num, ?_⟩, by simp [intOf]; omega⟩
        rw [HS.out]
        first | exact ⟨hO, hK⟩ | exact ⟨hO.drew, hK.drew⟩ | exact ⟨hO.drew.drew, hK.drew.drew⟩
    · obtain rfl : j = X.length := by omega
      obtain ⟨Dd, ck, rfl, hID⟩ := hO.form
      go_wp2_with fail
      refine bodyPost_ret (v := .tuple #[.slice Dd (wrongT X X' X.length).length ck, .int .i64 F]) (by simp [results, Try.results38, go_sem]) rfl ?_
      rw [HR.out]
      exact ⟨Dd, ck, rfl, hID, bxa.trans (hK.mono (by omega))⟩
end Go.Proofs.Yteelepjhlhifhaa
