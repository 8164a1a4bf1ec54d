/- the walks of both CheckGround. -/
import Derived.Test.YteikggieekhfkaaGndMath
namespace Go.Proofs.Yteikggieekhfkaa
open Go.RowKit

theorem blk_g {w : World} {g : Nat} {f s : Int} {Q : Value} {wd : Int} {st : Bool} {t : TypeId} (h : Blk w g (grdC f s Q wd st) t) : w.cell? ⟨g, 0, none⟩ = some (.int .i64 f) ∧ w.cell? ⟨g, 1, none⟩ = some (.int .i64 s) ∧ w.cell? ⟨g, 2, none⟩ = some Q ∧ w.cell? ⟨g, 3, none⟩ = some (.int .i64 wd) ∧ w.cell? ⟨g, 4, none⟩ = some (.bool st) :=
  ⟨h.cell 0 _ rfl, h.cell 1 _ rfl, h.cell 2 _ rfl, h.cell 3 _ rfl, h.cell 4 _ rfl⟩
set_option maxRecDepth 100000 in
set_option maxHeartbeats 1600000 in
theorem p_checkGround_any (f s : Int) (A : Option Addr) (q : List (List UInt8)) (c : Nat) (wd : Int) (st : Bool) (B : Nat) (w : World) (hB : B ≤ w.heap.size) (hl : q.length ≤ 9223372036854775807) (h : QR w B A q) :
    Calls Try.prog 94 #[grdV f s (.slice A q.length c) wd st] w fun e w' => e = .returned (.int .i64 (gndS f s q wd)) ∧ Below w.heap.size w w' := by
  have HE := Lib.hid (show gndS f s q wd = if 0 ≤ f ∧ f ≤ 255 then (if 1 ≤ wd ∧ wd ≤ 127 then (if 500 < q.length then 2 else if bodsS q = 0 then (if 0 ≤ s ∧ s ≤ min wd (q.length : Int) then 0 else 1) else bodsS q) else 1) else 1 from rfl)
  generalize gndS f s q wd = X at *
  unfold grdV
  by_cases h1 : 0 ≤ f ∧ f ≤ 255
  · have d1 : decide (0 ≤ f ∧ f ≤ 255) = true := decide_eq_true h1
    by_cases h2 : 1 ≤ wd ∧ wd ≤ 127
    · have d2 : decide (1 ≤ wd ∧ wd ≤ 127) = true := decide_eq_true h2
      by_cases h3 : 500 < q.length
      · have HR : Hid (X = 2) := Lib.hid (by rw [HE.out, if_pos h1, if_pos h2, if_pos h3])
        have d3 : decide ((500 : Int) < (q.length : Int)) = true := decide_eq_true (by omega)
        clear HE h1 h2
        go_enter Try.func94, Try.ntmps94
        go_wp2_with (first | (go_at_call 55; refine (p_within_any _ _ _ _).mono ?_; rintro e w' ⟨rfl, rfl⟩) | (go_at_call 54; refine (p_isNumber_any _ _).mono ?_; rintro e w' ⟨rfl, rfl⟩) | fail)
        go_ret
        exact ⟨ret_int HR.out.symm, (Below.refl _ _).alloc (Nat.le_refl _) _⟩
      · have d3 : decide ((500 : Int) < (q.length : Int)) = false := decide_eq_false (by omega)
        have HR : Hid (X = if bodsS q = 0 then (if 0 ≤ s ∧ s ≤ min wd (q.length : Int) then 0 else 1) else bodsS q) := Lib.hid (by rw [HE.out, if_pos h1, if_pos h2, if_neg h3])
        have hq : QR (w.alloc (.cells (grdC f s (.slice A q.length c) wd st) 41)) w.heap.size A q := (h.lift hB).below ((Below.refl _ _).alloc (Nat.le_refl _) _)
        have hle : (q.length : Int) ≤ 500 := by omega
        obtain ⟨hw0, hw1⟩ := h2
        have hm1 : wd ≤ (q.length : Int) → min wd (q.length : Int) = wd := fun q => by omega
        have hm2 : (q.length : Int) < wd → min wd (q.length : Int) = (q.length : Int) := fun q => by omega
        have HM := Lib.hid (show min wd (q.length : Int) = wd ∨ min wd (q.length : Int) = (q.length : Int) by omega)
        unfold grdC at hq
        clear HE h1 h3 h hm1 hm2
        go_enter Try.func94, Try.ntmps94
        go_wp2_with (first | (go_at_call 55; refine (p_within_any _ _ _ _).mono ?_; rintro e w' ⟨rfl, rfl⟩) | (go_at_call 54; refine (p_isNumber_any _ _).mono ?_; rintro e w' ⟨rfl, rfl⟩) | fail)
        go_loop [23] (fun i => ∃ k : Nat, k ≤ q.length ∧ i = .int .i64 (k : Int) ∧ ∀ i (_ : i < k) (h' : i < q.length), bodS q[i].length = 0) (fun i => q.length - (intOf i).toNat)
        case atStart => exact ⟨0, Nat.zero_le _, rfl, fun i hi => by omega⟩
        case round =>
          obtain ⟨k, hk, rfl, hall⟩ := hrel
          by_cases hlt : k < q.length
          · obtain ⟨ad, Y, cy, hA, hbk, hc, -⟩ := hq.get k hlt
            subst hA
            have hi0 : (0 : Int) ≤ (k : Int) := by omega
            have hi1 : (k : Int) < (q.length : Int) := by omega
            have HBF := Lib.hid (bods_first q k hlt (fun i hi => hall i hi (by omega)))
            have HC := Lib.hid (p_checkBody_any Y q[k].length cy)
            have HN : Hid (bodS q[k].length = 0 → ∀ i (_ : i < k + 1) (h' : i < q.length), bodS q[i].length = 0) := Lib.hid (fun h0 i hi h' => by
              by_cases e : i = k
              · subst e; exact h0
              · exact hall i (by omega) h')
            generalize bodS q[k].length = F at *
            generalize q[k].length = N at *
            clear hall
            by_cases hF : F = 0
            · have hf0 : (F != 0) = false := by simpa using hF
              have HN2 := Lib.hid (HN.out hF)
              clear hF HBF HN
              go_wp2_with (first | (go_at_call 69; refine (HC.out _).mono ?_; rintro e w' ⟨rfl, rfl⟩) | fail)
              go_round
              case rel => exact ⟨k + 1, by omega, by go_num, HN2.out⟩
              case measure => simp [intOf]; omega
            · have hf0 : (F != 0) = true := by simpa using hF
              have HX : Hid (X = F) := Lib.hid (by rw [HR.out, if_neg (by rw [HBF.out hF]; exact hF), HBF.out hF])
              clear hF HBF HN
              go_wp2_with (first | (go_at_call 69; refine (HC.out _).mono ?_; rintro e w' ⟨rfl, rfl⟩) | fail)
              go_ret
              exact ⟨ret_int HX.out.symm, (Below.refl _ _).alloc (Nat.le_refl _) _⟩
          · have hbq : bodsS q = 0 := bods_all q fun i hi => hall i (by omega) hi
            have HX : Hid (X = if 0 ≤ s ∧ s ≤ min wd (q.length : Int) then 0 else 1) := Lib.hid (by rw [HR.out, if_pos hbq])
            clear hall hbq HR
            by_cases hmn : wd ≤ (q.length : Int)
            · have hm2 : ¬ (q.length : Int) < wd := by omega
              have hmm : min wd (q.length : Int) = wd := by omega
              by_cases h5 : 0 ≤ s ∧ s ≤ wd
              · have HY : Hid (X = 0) := Lib.hid (by rw [HX.out, if_pos (by rw [hmm]; exact h5)])
                have d5 : decide (0 ≤ s ∧ s ≤ wd) = true := decide_eq_true h5
                clear HX h5 hmm
                go_wp2_with (first | (go_at_call 55; refine (p_within_any _ _ _ _).mono ?_; rintro e w' ⟨rfl, rfl⟩) | fail)
                go_ret
                exact ⟨ret_int HY.out.symm, (Below.refl _ _).alloc (Nat.le_refl _) _⟩
              · have HY : Hid (X = 1) := Lib.hid (by rw [HX.out, if_neg (by rw [hmm]; exact h5)])
                have d5 : decide (0 ≤ s ∧ s ≤ wd) = false := decide_eq_false h5
                clear HX h5 hmm
                go_wp2_with (first | (go_at_call 55; refine (p_within_any _ _ _ _).mono ?_; rintro e w' ⟨rfl, rfl⟩) | fail)
                go_ret
                exact ⟨ret_int HY.out.symm, (Below.refl _ _).alloc (Nat.le_refl _) _⟩
            · have hm2 : (q.length : Int) < wd := by omega
              have hmm : min wd (q.length : Int) = (q.length : Int) := by omega
              by_cases h5 : 0 ≤ s ∧ s ≤ (q.length : Int)
              · have HY : Hid (X = 0) := Lib.hid (by rw [HX.out, if_pos (by rw [hmm]; exact h5)])
                have d5 : decide (0 ≤ s ∧ s ≤ (q.length : Int)) = true := decide_eq_true h5
                clear HX h5 hmm
                go_wp2_with (first | (go_at_call 55; refine (p_within_any _ _ _ _).mono ?_; rintro e w' ⟨rfl, rfl⟩) | fail)
                go_ret
                exact ⟨ret_int HY.out.symm, (Below.refl _ _).alloc (Nat.le_refl _) _⟩
              · have HY : Hid (X = 1) := Lib.hid (by rw [HX.out, if_neg (by rw [hmm]; exact h5)])
                have d5 : decide (0 ≤ s ∧ s ≤ (q.length : Int)) = false := decide_eq_false h5
                clear HX h5 hmm
                go_wp2_with (first | (go_at_call 55; refine (p_within_any _ _ _ _).mono ?_; rintro e w' ⟨rfl, rfl⟩) | fail)
                go_ret
                exact ⟨ret_int HY.out.symm, (Below.refl _ _).alloc (Nat.le_refl _) _⟩
    · have d2 : decide (1 ≤ wd ∧ wd ≤ 127) = false := decide_eq_false h2
      have HR : Hid (X = 1) := Lib.hid (by rw [HE.out, if_pos h1, if_neg h2])
      clear HE h1 h2
      go_enter Try.func94, Try.ntmps94
      go_wp2_with (first | (go_at_call 55; refine (p_within_any _ _ _ _).mono ?_; rintro e w' ⟨rfl, rfl⟩) | (go_at_call 54; refine (p_isNumber_any _ _).mono ?_; rintro e w' ⟨rfl, rfl⟩) | fail)
      go_ret
      exact ⟨ret_int HR.out.symm, (Below.refl _ _).alloc (Nat.le_refl _) _⟩
  · have d1 : decide (0 ≤ f ∧ f ≤ 255) = false := decide_eq_false h1
    have HR : Hid (X = 1) := Lib.hid (by rw [HE.out, if_neg h1])
    clear HE h1
    go_enter Try.func94, Try.ntmps94
    go_wp2_with (first | (go_at_call 55; refine (p_within_any _ _ _ _).mono ?_; rintro e w' ⟨rfl, rfl⟩) | (go_at_call 54; refine (p_isNumber_any _ _).mono ?_; rintro e w' ⟨rfl, rfl⟩) | fail)
    go_ret
    exact ⟨ret_int HR.out.symm, (Below.refl _ _).alloc (Nat.le_refl _) _⟩
set_option maxRecDepth 100000 in
set_option maxHeartbeats 1600000 in
theorem r_checkGround_any (f s : Int) (A : Option Addr) (q : List (List UInt8)) (c : Nat) (wd : Int) (st : Bool) (B : Nat) (w : World) (hB : B ≤ w.heap.size) (hl : q.length ≤ 9223372036854775807) (h : QR w B A q) :
    Calls Try.prog 63 #[grdV f s (.slice A q.length c) wd st] w fun e w' => e = .returned (.int .i64 (gndS f s q wd)) ∧ Below w.heap.size w w' := by
  have HE := Lib.hid (show gndS f s q wd = if 0 ≤ f ∧ f ≤ 255 then (if 1 ≤ wd ∧ wd ≤ 127 then (if 500 < q.length then 2 else if bodsS q = 0 then (if 0 ≤ s ∧ s ≤ min wd (q.length : Int) then 0 else 1) else bodsS q) else 1) else 1 from rfl)
  generalize gndS f s q wd = X at *
  unfold grdV
  by_cases h1 : 0 ≤ f ∧ f ≤ 255
  · have d1 : decide (0 ≤ f ∧ f ≤ 255) = true := decide_eq_true h1
    by_cases h2 : 1 ≤ wd ∧ wd ≤ 127
    · have d2 : decide (1 ≤ wd ∧ wd ≤ 127) = true := decide_eq_true h2
      by_cases h3 : 500 < q.length
      · have HR : Hid (X = 2) := Lib.hid (by rw [HE.out, if_pos h1, if_pos h2, if_pos h3])
        have d3 : decide ((500 : Int) < (q.length : Int)) = true := decide_eq_true (by omega)
        clear HE h1 h2
        go_enter Try.func63, Try.ntmps63
        go_wp2_with (first | (go_at_call 56; refine (r_within_any _ _ _ _).mono ?_; rintro e w' ⟨rfl, rfl⟩) | fail)
        go_ret
        exact ⟨ret_int HR.out.symm, (Below.refl _ _).alloc (Nat.le_refl _) _⟩
      · have d3 : decide ((500 : Int) < (q.length : Int)) = false := decide_eq_false (by omega)
        have HR : Hid (X = if bodsS q = 0 then (if 0 ≤ s ∧ s ≤ min wd (q.length : Int) then 0 else 1) else bodsS q) := Lib.hid (by rw [HE.out, if_pos h1, if_pos h2, if_neg h3])
        have hq : QR (w.alloc (.cells (grdC f s (.slice A q.length c) wd st) 41)) w.heap.size A q := (h.lift hB).below ((Below.refl _ _).alloc (Nat.le_refl _) _)
        have hle : (q.length : Int) ≤ 500 := by omega
        obtain ⟨hw0, hw1⟩ := h2
        have hm1 : wd ≤ (q.length : Int) → min wd (q.length : Int) = wd := fun q => by omega
        have hm2 : (q.length : Int) < wd → min wd (q.length : Int) = (q.length : Int) := fun q => by omega
        have HM := Lib.hid (show min wd (q.length : Int) = wd ∨ min wd (q.length : Int) = (q.length : Int) by omega)
        unfold grdC at hq
        clear HE h1 h3 h hm1 hm2
        go_enter Try.func63, Try.ntmps63
        go_wp2_with (first | (go_at_call 56; refine (r_within_any _ _ _ _).mono ?_; rintro e w' ⟨rfl, rfl⟩) | fail)
        go_loop [23] (fun i => ∃ k : Nat, k ≤ q.length ∧ i = .int .i64 (k : Int) ∧ ∀ i (_ : i < k) (h' : i < q.length), bodS q[i].length = 0) (fun i => q.length - (intOf i).toNat)
        case atStart => exact ⟨0, Nat.zero_le _, rfl, fun i hi => by omega⟩
        case round =>
          obtain ⟨k, hk, rfl, hall⟩ := hrel
          by_cases hlt : k < q.length
          · obtain ⟨ad, Y, cy, hA, hbk, hc, -⟩ := hq.get k hlt
            subst hA
            have hi0 : (0 : Int) ≤ (k : Int) := by omega
            have hi1 : (k : Int) < (q.length : Int) := by omega
            have HBF := Lib.hid (bods_first q k hlt (fun i hi => hall i hi (by omega)))
            have HC := Lib.hid (r_checkBody_any Y q[k].length cy)
            have HN : Hid (bodS q[k].length = 0 → ∀ i (_ : i < k + 1) (h' : i < q.length), bodS q[i].length = 0) := Lib.hid (fun h0 i hi h' => by
              by_cases e : i = k
              · subst e; exact h0
              · exact hall i (by omega) h')
            generalize bodS q[k].length = F at *
            generalize q[k].length = N at *
            clear hall
            by_cases hF : F = 0
            · have hf0 : (F != 0) = false := by simpa using hF
              have HN2 := Lib.hid (HN.out hF)
              clear hF HBF HN
              go_wp2_with (first | (go_at_call 72; refine (HC.out _).mono ?_; rintro e w' ⟨rfl, rfl⟩) | fail)
              go_round
              case rel => exact ⟨k + 1, by omega, by go_num, HN2.out⟩
              case measure => simp [intOf]; omega
            · have hf0 : (F != 0) = true := by simpa using hF
              have HX : Hid (X = F) := Lib.hid (by rw [HR.out, if_neg (by rw [HBF.out hF]; exact hF), HBF.out hF])
              clear hF HBF HN
              go_wp2_with (first | (go_at_call 72; refine (HC.out _).mono ?_; rintro e w' ⟨rfl, rfl⟩) | fail)
              go_ret
              exact ⟨ret_int HX.out.symm, (Below.refl _ _).alloc (Nat.le_refl _) _⟩
          · have hbq : bodsS q = 0 := bods_all q fun i hi => hall i (by omega) hi
            have HX : Hid (X = if 0 ≤ s ∧ s ≤ min wd (q.length : Int) then 0 else 1) := Lib.hid (by rw [HR.out, if_pos hbq])
            clear hall hbq HR
            by_cases hmn : wd ≤ (q.length : Int)
            · have hm2 : ¬ (q.length : Int) < wd := by omega
              have hmm : min wd (q.length : Int) = wd := by omega
              by_cases h5 : 0 ≤ s ∧ s ≤ wd
              · have HY : Hid (X = 0) := Lib.hid (by rw [HX.out, if_pos (by rw [hmm]; exact h5)])
                have d5 : decide (0 ≤ s ∧ s ≤ wd) = true := decide_eq_true h5
                clear HX h5 hmm
                go_wp2_with (first | (go_at_call 56; refine (r_within_any _ _ _ _).mono ?_; rintro e w' ⟨rfl, rfl⟩) | fail)
                go_ret
                exact ⟨ret_int HY.out.symm, (Below.refl _ _).alloc (Nat.le_refl _) _⟩
              · have HY : Hid (X = 1) := Lib.hid (by rw [HX.out, if_neg (by rw [hmm]; exact h5)])
                have d5 : decide (0 ≤ s ∧ s ≤ wd) = false := decide_eq_false h5
                clear HX h5 hmm
                go_wp2_with (first | (go_at_call 56; refine (r_within_any _ _ _ _).mono ?_; rintro e w' ⟨rfl, rfl⟩) | fail)
                go_ret
                exact ⟨ret_int HY.out.symm, (Below.refl _ _).alloc (Nat.le_refl _) _⟩
            · have hm2 : (q.length : Int) < wd := by omega
              have hmm : min wd (q.length : Int) = (q.length : Int) := by omega
              by_cases h5 : 0 ≤ s ∧ s ≤ (q.length : Int)
              · have HY : Hid (X = 0) := Lib.hid (by rw [HX.out, if_pos (by rw [hmm]; exact h5)])
                have d5 : decide (0 ≤ s ∧ s ≤ (q.length : Int)) = true := decide_eq_true h5
                clear HX h5 hmm
                go_wp2_with (first | (go_at_call 56; refine (r_within_any _ _ _ _).mono ?_; rintro e w' ⟨rfl, rfl⟩) | fail)
                go_ret
                exact ⟨ret_int HY.out.symm, (Below.refl _ _).alloc (Nat.le_refl _) _⟩
              · have HY : Hid (X = 1) := Lib.hid (by rw [HX.out, if_neg (by rw [hmm]; exact h5)])
                have d5 : decide (0 ≤ s ∧ s ≤ (q.length : Int)) = false := decide_eq_false h5
                clear HX h5 hmm
                go_wp2_with (first | (go_at_call 56; refine (r_within_any _ _ _ _).mono ?_; rintro e w' ⟨rfl, rfl⟩) | fail)
                go_ret
                exact ⟨ret_int HY.out.symm, (Below.refl _ _).alloc (Nat.le_refl _) _⟩
    · have d2 : decide (1 ≤ wd ∧ wd ≤ 127) = false := decide_eq_false h2
      have HR : Hid (X = 1) := Lib.hid (by rw [HE.out, if_pos h1, if_neg h2])
      clear HE h1 h2
      go_enter Try.func63, Try.ntmps63
      go_wp2_with (first | (go_at_call 56; refine (r_within_any _ _ _ _).mono ?_; rintro e w' ⟨rfl, rfl⟩) | fail)
      go_ret
      exact ⟨ret_int HR.out.symm, (Below.refl _ _).alloc (Nat.le_refl _) _⟩
  · have d1 : decide (0 ≤ f ∧ f ≤ 255) = false := decide_eq_false h1
    have HR : Hid (X = 1) := Lib.hid (by rw [HE.out, if_neg h1])
    clear HE h1
    go_enter Try.func63, Try.ntmps63
    go_wp2_with (first | (go_at_call 56; refine (r_within_any _ _ _ _).mono ?_; rintro e w' ⟨rfl, rfl⟩) | fail)
    go_ret
    exact ⟨ret_int HR.out.symm, (Below.refl _ _).alloc (Nat.le_refl _) _⟩
end Go.Proofs.Yteikggieekhfkaa
