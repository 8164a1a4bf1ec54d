/- the walks of the program's and the reference's CheckBank. -/
import Derived.Test.YteelepjhlhifhaaBase
import Derived.Test.YteelepjhlhifhaaBankMath
import Derived.Test.YteelepjhlhifhaaAppend
namespace Go.Proofs.Yteelepjhlhifhaa
open Go.RowKit

/-- a bank as a value -/
def bankV (A A' : Option Addr) (n n' c c' : Nat) : Value := .agg #[.slice A n c, .slice A' n' c']
theorem zip_take {α β : Type} (l : List α) (l' : List β) (k : Nat) (h : k < l.length) (h' : k < l'.length) : (l.zip l').take (k + 1) = (l.zip l').take k ++ [(l[k], l'[k])] := by
  rw [List.take_succ_eq_append_getElem (by simp; omega)]
  simp

set_option maxRecDepth 100000 in
set_option maxHeartbeats 1000000 in
theorem checkBank_any (A A' : Option Addr) (c c' : Nat) (l l' : List Int) (B : Nat) (w : World) (hB : B ≤ w.heap.size) (hl : l.length ≤ 9223372036854775807) (hl' : l'.length ≤ 9223372036854775807) (h : IR w B A l) (h' : IR w B A' l') :
    Calls Try.prog 98 #[bankV A A' l.length l'.length c c'] w fun e w' => e = .returned (.int .i64 (chkB l l')) ∧ Below w.heap.size w w' := by
  unfold bankV
  have HE := Lib.hid (show chkB l l' = if l.length = 0 then 9 else if 2000 < l.length then 2 else if l'.length ≠ l.length then 3 else if (l.zip l').all okAt = true then 0 else 1 from rfl)
  generalize chkB l l' = R at *
  by_cases h1 : l.length = 0
  · have HR : Hid (R = 9) := Lib.hid (by have := HE.out; rw [if_pos h1] at this; exact this)
    clear HE
    have h1' : ((l.length : Int) == 0) = true := beq_iff_eq.2 (by omega)
    go_enter Try.func98, Try.ntmps98
    go_wp2_with fail
    go_ret
    exact ⟨ret_int HR.out.symm, (Below.refl _ _).alloc (Nat.le_refl _) _⟩
  have hne : ((l.length : Int) == 0) = false := beq_eq_false_iff_ne.2 (by omega)
  by_cases h2 : 2000 < l.length
  · have HR : Hid (R = 2) := Lib.hid (by have := HE.out; rw [if_neg h1, if_pos h2] at this; exact this)
    clear HE
    go_enter Try.func98, Try.ntmps98
    go_wp2_with fail
    go_ret
    exact ⟨ret_int HR.out.symm, (Below.refl _ _).alloc (Nat.le_refl _) _⟩
  by_cases h3 : l'.length ≠ l.length
  · have HR : Hid (R = 3) := Lib.hid (by have := HE.out; rw [if_neg h1, if_neg h2, if_pos h3] at this; exact this)
    clear HE
    have hn3 : ((l'.length : Int) != (l.length : Int)) = true := by simp; omega
    clear h3
    go_enter Try.func98, Try.ntmps98
    go_wp2_with fail
    go_ret
    exact ⟨ret_int HR.out.symm, (Below.refl _ _).alloc (Nat.le_refl _) _⟩
  have HR : Hid (R = if (l.zip l').all okAt = true then 0 else 1) := Lib.hid (by have := HE.out; rw [if_neg h1, if_neg h2, if_neg h3] at this; exact this)
  have hsame : l'.length = l.length := by omega
  have HSAME := Lib.hid hsame
  have hn3 : ((l'.length : Int) != (l.length : Int)) = false := by simp; omega
  clear h3 HE
  have hle : l.length ≤ l'.length := by omega
  have g1 : IR (w.alloc (.cells #[.slice A l.length c, .slice A' l'.length c'] 52)) w.heap.size A l := (h.lift hB).below ((Below.refl _ _).alloc (Nat.le_refl _) _)
  have g2 : IR (w.alloc (.cells #[.slice A l.length c, .slice A' l'.length c'] 52)) w.heap.size A' l' := (h'.lift hB).below ((Below.refl _ _).alloc (Nat.le_refl _) _)
  clear hsame
  go_enter Try.func98, Try.ntmps98
  go_wp2_with fail
  go_loop [3, 4, 26] (fun _ _ i => ∃ k : Nat, k ≤ l.length ∧ i = .int .i64 (k : Int) ∧ ((l.zip l').take k).all okAt = true) (fun _ _ i => l.length - (intOf i).toNat)
  case atStart => exact ⟨0, Nat.zero_le _, rfl, rfl⟩
  case round =>
    obtain ⟨k, hk, rfl, hall⟩ := hrel
    by_cases hlt : k < l.length
    · obtain ⟨ad, hA, hbk, hc⟩ := g1.get k hlt
      obtain ⟨ad', hA', hbk', hc'⟩ := g2.get k (by omega)
      subst hA hA'
      have hk0 : (0 : Int) ≤ (k : Int) := Int.natCast_nonneg _
      have hk1 : (k : Int) < (l.length : Int) := by omega
      have hk2 : (k : Int) < (l'.length : Int) := by omega
      have HZ := Lib.hid (zip_take l l' k hlt (by omega))
      have HALL := Lib.hid hall
      have HBAD : Hid (okAt (l[k], l'[k]'(by omega)) = false → R = 1) := Lib.hid (by
        intro q
        rw [HR.out, if_neg]
        intro q2
        have := List.all_eq_true.1 q2 (l[k], l'[k]'(by omega)) (by
          have hz : k < (l.zip l').length := by simp; omega
          have e : (l.zip l')[k] = (l[k], l'[k]'(by omega)) := by simp
          rw [← e]
          exact List.getElem_mem hz)
        rw [q] at this
        cases this)
      have HO := Lib.hid (show okAt (l[k], l'[k]'(by omega)) = (decide (0 ≤ l[k] ∧ l[k] ≤ 4194303) && decide (0 ≤ l'[k]'(by omega) ∧ l'[k]'(by omega) ≤ 65535)) from rfl)
      generalize l[k] = x at *
      generalize l'[k]'(by omega) = y at *
      clear hall
      by_cases hx : 0 ≤ x ∧ x ≤ 4194303
      · have hd : decide (0 ≤ x ∧ x ≤ 4194303) = true := by simp only [hx, decide_true, and_self]
        by_cases hy : 0 ≤ y ∧ y ≤ 65535
        · have hd2 : decide (0 ≤ y ∧ y ≤ 65535) = true := by simp only [hy, decide_true, and_self]
          have HN : Hid (((l.zip l').take (k + 1)).all okAt = true) := Lib.hid (by rw [HZ.out, List.all_append, HALL.out]; simp [HO.out, hd, hd2])
          clear hx hy
          go_wp2_with (first | (go_at_call 67; refine (within_any _ _ _ _).mono ?_; rintro e w' ⟨rfl, rfl⟩) | fail)
          go_round
          case rel => exact ⟨k + 1, by omega, by go_num, HN.out⟩
          case measure => simp [intOf]; omega
        · have hd2 : decide (0 ≤ y ∧ y ≤ 65535) = false := by simp; omega
          have HN := Lib.hid (HBAD.out (by rw [HO.out, hd2]; simp))
          clear hx hy
          go_wp2_with (first | (go_at_call 67; refine (within_any _ _ _ _).mono ?_; rintro e w' ⟨rfl, rfl⟩) | fail)
          go_ret
          exact ⟨ret_int HN.out.symm, (Below.refl _ _).alloc (Nat.le_refl _) _⟩
      · have hd : decide (0 ≤ x ∧ x ≤ 4194303) = false := by simp; omega
        have HN := Lib.hid (HBAD.out (by rw [HO.out, hd]; simp))
        clear hx
        go_wp2_with (first | (go_at_call 67; refine (within_any _ _ _ _).mono ?_; rintro e w' ⟨rfl, rfl⟩) | fail)
        go_ret
        exact ⟨ret_int HN.out.symm, (Below.refl _ _).alloc (Nat.le_refl _) _⟩
    · have HN : Hid (R = 0) := Lib.hid (by
        rw [HR.out, if_pos]
        rw [List.take_of_length_le (by simp; omega)] at hall
        exact hall)
      clear hall
      go_wp2_with fail
      go_ret
      exact ⟨ret_int HN.out.symm, (Below.refl _ _).alloc (Nat.le_refl _) _⟩
set_option maxRecDepth 100000 in
set_option maxHeartbeats 1000000 in
theorem rcheckBank_any (A A' : Option Addr) (c c' : Nat) (l l' : List Int) (B : Nat) (w : World) (hB : B ≤ w.heap.size) (hl : l.length ≤ 9223372036854775807) (hl' : l'.length ≤ 9223372036854775807) (h : IR w B A l) (h' : IR w B A' l') :
    Calls Try.prog 105 #[bankV A A' l.length l'.length c c'] w fun e w' => e = .returned (.int .i64 (chkB l l')) ∧ Below w.heap.size w w' := by
  unfold bankV
  have HE := Lib.hid (show chkB l l' = if l.length = 0 then 9 else if 2000 < l.length then 2 else if l'.length ≠ l.length then 3 else if (l.zip l').all okAt = true then 0 else 1 from rfl)
  generalize chkB l l' = R at *
  by_cases h1 : l.length = 0
  · have HR : Hid (R = 9) := Lib.hid (by have := HE.out; rw [if_pos h1] at this; exact this)
    clear HE
    have h1' : ((l.length : Int) == 0) = true := beq_iff_eq.2 (by omega)
    go_enter Try.func105, Try.ntmps105
    go_wp2_with fail
    go_ret
    exact ⟨ret_int HR.out.symm, (Below.refl _ _).alloc (Nat.le_refl _) _⟩
  have hne : ((l.length : Int) == 0) = false := beq_eq_false_iff_ne.2 (by omega)
  by_cases h2 : 2000 < l.length
  · have HR : Hid (R = 2) := Lib.hid (by have := HE.out; rw [if_neg h1, if_pos h2] at this; exact this)
    clear HE
    go_enter Try.func105, Try.ntmps105
    go_wp2_with fail
    go_ret
    exact ⟨ret_int HR.out.symm, (Below.refl _ _).alloc (Nat.le_refl _) _⟩
  by_cases h3 : l'.length ≠ l.length
  · have HR : Hid (R = 3) := Lib.hid (by have := HE.out; rw [if_neg h1, if_neg h2, if_pos h3] at this; exact this)
    clear HE
    have hn3 : ((l'.length : Int) != (l.length : Int)) = true := by simp; omega
    clear h3
    go_enter Try.func105, Try.ntmps105
    go_wp2_with fail
    go_ret
    exact ⟨ret_int HR.out.symm, (Below.refl _ _).alloc (Nat.le_refl _) _⟩
  have HR : Hid (R = if (l.zip l').all okAt = true then 0 else 1) := Lib.hid (by have := HE.out; rw [if_neg h1, if_neg h2, if_neg h3] at this; exact this)
  have hsame : l'.length = l.length := by omega
  have HSAME := Lib.hid hsame
  have hn3 : ((l'.length : Int) != (l.length : Int)) = false := by simp; omega
  clear h3 HE
  have hle : l.length ≤ l'.length := by omega
  have g1 : IR (w.alloc (.cells #[.slice A l.length c, .slice A' l'.length c'] 52)) w.heap.size A l := (h.lift hB).below ((Below.refl _ _).alloc (Nat.le_refl _) _)
  have g2 : IR (w.alloc (.cells #[.slice A l.length c, .slice A' l'.length c'] 52)) w.heap.size A' l' := (h'.lift hB).below ((Below.refl _ _).alloc (Nat.le_refl _) _)
  clear hsame
  go_enter Try.func105, Try.ntmps105
  go_wp2_with fail
  go_loop [3, 4, 26] (fun _ _ i => ∃ k : Nat, k ≤ l.length ∧ i = .int .i64 (k : Int) ∧ ((l.zip l').take k).all okAt = true) (fun _ _ i => l.length - (intOf i).toNat)
  case atStart => exact ⟨0, Nat.zero_le _, rfl, rfl⟩
  case round =>
    obtain ⟨k, hk, rfl, hall⟩ := hrel
    by_cases hlt : k < l.length
    · obtain ⟨ad, hA, hbk, hc⟩ := g1.get k hlt
      obtain ⟨ad', hA', hbk', hc'⟩ := g2.get k (by omega)
      subst hA hA'
      have hk0 : (0 : Int) ≤ (k : Int) := Int.natCast_nonneg _
      have hk1 : (k : Int) < (l.length : Int) := by omega
      have hk2 : (k : Int) < (l'.length : Int) := by omega
      have HZ := Lib.hid (zip_take l l' k hlt (by omega))
      have HALL := Lib.hid hall
      have HBAD : Hid (okAt (l[k], l'[k]'(by omega)) = false → R = 1) := Lib.hid (by
        intro q
        rw [HR.out, if_neg]
        intro q2
        have := List.all_eq_true.1 q2 (l[k], l'[k]'(by omega)) (by
          have hz : k < (l.zip l').length := by simp; omega
          have e : (l.zip l')[k] = (l[k], l'[k]'(by omega)) := by simp
          rw [← e]
          exact List.getElem_mem hz)
        rw [q] at this
        cases this)
      have HO := Lib.hid (show okAt (l[k], l'[k]'(by omega)) = (decide (0 ≤ l[k] ∧ l[k] ≤ 4194303) && decide (0 ≤ l'[k]'(by omega) ∧ l'[k]'(by omega) ≤ 65535)) from rfl)
      generalize l[k] = x at *
      generalize l'[k]'(by omega) = y at *
      clear hall
      by_cases hx : 0 ≤ x ∧ x ≤ 4194303
      · have hd : decide (0 ≤ x ∧ x ≤ 4194303) = true := by simp only [hx, decide_true, and_self]
        by_cases hy : 0 ≤ y ∧ y ≤ 65535
        · have hd2 : decide (0 ≤ y ∧ y ≤ 65535) = true := by simp only [hy, decide_true, and_self]
          have HN : Hid (((l.zip l').take (k + 1)).all okAt = true) := Lib.hid (by rw [HZ.out, List.all_append, HALL.out]; simp [HO.out, hd, hd2])
          clear hx hy
          go_wp2_with (first | (go_at_call 81; refine (rwithin_any _ _ _ _).mono ?_; rintro e w' ⟨rfl, rfl⟩) | fail)
          go_round
          case rel => exact ⟨k + 1, by omega, by go_num, HN.out⟩
          case measure => simp [intOf]; omega
        · have hd2 : decide (0 ≤ y ∧ y ≤ 65535) = false := by simp; omega
          have HN := Lib.hid (HBAD.out (by rw [HO.out, hd2]; simp))
          clear hx hy
          go_wp2_with (first | (go_at_call 81; refine (rwithin_any _ _ _ _).mono ?_; rintro e w' ⟨rfl, rfl⟩) | fail)
          go_ret
          exact ⟨ret_int HN.out.symm, (Below.refl _ _).alloc (Nat.le_refl _) _⟩
      · have hd : decide (0 ≤ x ∧ x ≤ 4194303) = false := by simp; omega
        have HN := Lib.hid (HBAD.out (by rw [HO.out, hd]; simp))
        clear hx
        go_wp2_with (first | (go_at_call 81; refine (rwithin_any _ _ _ _).mono ?_; rintro e w' ⟨rfl, rfl⟩) | fail)
        go_ret
        exact ⟨ret_int HN.out.symm, (Below.refl _ _).alloc (Nat.le_refl _) _⟩
    · have HN : Hid (R = 0) := Lib.hid (by
        rw [HR.out, if_pos]
        rw [List.take_of_length_le (by simp; omega)] at hall
        exact hall)
      clear hall
      go_wp2_with fail
      go_ret
      exact ⟨ret_int HN.out.symm, (Below.refl _ _).alloc (Nat.le_refl _) _⟩
end Go.Proofs.Yteelepjhlhifhaa
