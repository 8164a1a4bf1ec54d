/- rows of values, spread again by the reference (numbers in at most 7 groups): plain mathematics. -/
import Derived.Test.YtdcnpbdkhcdinaaSpU
namespace Go.Proofs.Ytdcnpbdkhcdinaa
open Go.RowKit

theorem bigN_two : ∀ (b : List UInt8) (h : 2 ≤ b.length), bigN (b.take 2) = b[0].toNat * 256 + b[1].toNat
  | x :: y :: t, _ => by simp [bigN]
  | [x], h => by simp at h
  | [], h => by simp at h
/-- a row begins here -/
def rowT (rest : List UInt8) : Prop := 2 < rest.length ∧ rest.take 2 = [128, 0]
instance (rest : List UInt8) : Decidable (rowT rest) := inferInstanceAs (Decidable (_ ∧ _))
theorem rowT_get : ∀ (rest : List UInt8) (h : 2 < rest.length), rowT rest ↔ (rest[0].toNat = 128 ∧ rest[1].toNat = 0)
  | x :: y :: t, h => by
    unfold rowT
    have e1 : x = 128 ↔ x.toNat = 128 := ⟨fun h => by rw [h]; rfl, fun h => UInt8.toNat_inj.1 h⟩
    have e2 : y = 0 ↔ y.toNat = 0 := ⟨fun h => by rw [h]; rfl, fun h => UInt8.toNat_inj.1 h⟩
    simp only [List.take_succ_cons, List.take_zero, List.cons.injEq, and_true, List.getElem_cons_zero, List.getElem_cons_succ]
    rw [e1, e2]
    exact ⟨fun h => h.2, fun q => ⟨h, q⟩⟩
  | [x], h => by simp at h
  | [], h => by simp at h
theorem sqz_some (v x : Int) (t : List Int) : 0 < (sqz v (x :: t)).length := by
  by_cases h3 : 3 ≤ sameN v (x :: t)
  · rw [sqz_row h3]; simp
  · rw [sqz_one h3]
    have := grp_pos (zigN (x - v))
    simp
    omega
theorem read_row7 {b : List UInt8} {acc : List Int} {value : Int} {rest : List UInt8} (h : ReadSo b acc value rest) (hm : rowT rest) (n u : Nat) (hg : unG 7 (rest.drop 2) = (n, u)) : ReadSo b (acc ++ List.replicate n value) value ((rest.drop 2).drop u) := fun l hl => by
  have hm := hm.2
  obtain ⟨j, hj, rfl, hr, hv⟩ := h l hl
  obtain ⟨a, c, e⟩ := good_parts hl
  match hd : l.drop j with
  | [] => rw [hd] at hr; rw [hr] at hm; simp [sqz] at hm
  | x :: t =>
    rw [hd] at hr
    by_cases h3 : 3 ≤ sameN value (x :: t)
    · rw [sqz_row h3] at hr
      have hs := same_le value (x :: t)
      have hdl : (x :: t).length = l.length - j := by rw [← hd]; simp
      have hM : sameN value (x :: t) < 128 ^ 7 := by omega
      have hr2 : rest.drop 2 = grpN (sameN value (x :: t)) ++ sqz value ((x :: t).drop (sameN value (x :: t))) := by rw [hr]; rfl
      rw [hr2, unG_grp 7 _ _ hM (by omega)] at hg
      injection hg with hn hu
      rw [← hn, ← hu, hr2, List.drop_left]
      have hal := same_all value (x :: t)
      generalize sameN value (x :: t) = M at *
      refine ⟨j + M, by omega, ?_, ?_, hv⟩
      · rw [List.take_add, hd, hal]
      · rw [← hd, List.drop_drop]
    · rw [sqz_one h3] at hr
      rw [hr] at hm
      exact absurd hm (grp_mark _ _)
theorem read_more {b : List UInt8} {acc : List Int} {value : Int} {rest : List UInt8} (h : ReadSo b acc value rest) (hr : 0 < rest.length) : ∀ l, GoodB l b → acc.length < l.length := fun l hl => by
  obtain ⟨j, hj, rfl, hr', hv⟩ := h l hl
  by_cases hjl : j < l.length
  · simp; omega
  · rw [hr', List.drop_of_length_le (by omega)] at hr
    simp [sqz] at hr
theorem read_one7 {b : List UInt8} {acc : List Int} {value : Int} {rest : List UInt8} (h : ReadSo b acc value rest) (hm : ¬ rowT rest) (hr0 : 0 < rest.length) (n u : Nat) (hg : unG 7 rest = (n, u)) : ReadSo b (acc ++ [value + sgnN n]) (value + sgnN n) (rest.drop u) := fun l hl => by
  have hlt := read_more h hr0 l hl
  obtain ⟨j, hj, rfl, hr, hv⟩ := h l hl
  obtain ⟨a, c, e⟩ := good_parts hl
  have hjl : j < l.length := by simp at hlt; omega
  have hd : l.drop j = l[j] :: l.drop (j + 1) := List.drop_eq_getElem_cons hjl
  rw [hd] at hr
  by_cases h3 : 3 ≤ sameN value (l[j] :: l.drop (j + 1))
  · rw [sqz_row h3] at hr
    have hp := grp_pos (sameN value (l[j] :: l.drop (j + 1)))
    have e := congrArg List.length hr
    simp only [List.length_append, List.length_cons, List.length_nil] at e
    exact absurd ⟨by omega, by rw [hr]; rfl⟩ hm
  · rw [sqz_one h3] at hr
    have hx := c l[j] (List.getElem_mem hjl)
    have hz := zig_lt (n := l[j] - value) (by omega) (by omega)
    rw [hr, unG_grp 7 _ _ (by omega) (by omega)] at hg
    injection hg with hn hu
    rw [← hn, ← hu, hr, List.drop_left, sgn_zig, show value + (l[j] - value) = l[j] by omega]
    exact ⟨j + 1, by omega, by rw [List.take_succ_eq_append_getElem hjl], rfl, hx⟩
/-- what was read is not too much -/
theorem read_len {b : List UInt8} {acc : List Int} {value : Int} {rest : List UInt8} (h : ReadSo b acc value rest) : ∀ l, GoodB l b → acc.length ≤ 5000 := fun l hl => by
  obtain ⟨j, hj, rfl, -, -⟩ := h l hl
  obtain ⟨a, -, -⟩ := good_parts hl
  simp; omega
theorem read_done {b : List UInt8} {acc : List Int} {value : Int} {rest : List UInt8} (h : ReadSo b acc value rest) (hr : ¬ 0 < rest.length) : ∀ l, GoodB l b → acc = l := fun l hl => by
  obtain ⟨j, hj, rfl, hr', hv⟩ := h l hl
  match hd : l.drop j with
  | [] =>
    have := congrArg List.length hd
    simp at this
    exact List.take_of_length_le (by omega)
  | x :: t =>
    rw [hd] at hr'
    have := sqz_some value x t
    rw [hr'] at hr
    exact absurd this hr
theorem read_can7 {b : List UInt8} {acc : List Int} {value : Int} {rest : List UInt8} (h : ReadSo b acc value rest) (hr0 : 0 < rest.length) {l : List Int} (hl : GoodB l b) :
    (rowT rest → 0 < (unG 7 (rest.drop 2)).2 ∧ (unG 7 (rest.drop 2)).1 ≤ 5000) ∧ (¬ rowT rest → 0 < (unG 7 rest).2) := by
  have hmore := read_more h hr0 l hl
  obtain ⟨j, hj, rfl, hr, hv⟩ := h l hl
  obtain ⟨a, c, e⟩ := good_parts hl
  have hjl : j < l.length := by simp at hmore; omega
  have hd : l.drop j = l[j] :: l.drop (j + 1) := List.drop_eq_getElem_cons hjl
  by_cases h3 : 3 ≤ sameN value (l.drop j)
  · rw [sqz_row h3] at hr
    have hs := same_le value (l.drop j)
    have hr2 : rest.drop 2 = grpN (sameN value (l.drop j)) ++ sqz value ((l.drop j).drop (sameN value (l.drop j))) := by rw [hr]; rfl
    have hM : sameN value (l.drop j) < 128 ^ 7 := by simp at hs; omega
    have hp := grp_pos (sameN value (l.drop j))
    have e := congrArg List.length hr
    simp only [List.length_append, List.length_cons, List.length_nil] at e
    refine ⟨fun _ => ?_, fun hm => absurd ⟨by omega, by rw [hr]; rfl⟩ hm⟩
    rw [hr2, unG_grp 7 _ _ hM (by omega)]
    refine ⟨hp, ?_⟩
    simp at hs ⊢
    omega
  · rw [hd] at hr h3
    rw [sqz_one h3] at hr
    have hx := c l[j] (List.getElem_mem hjl)
    have hz := zig_lt (n := l[j] - value) (by omega) (by omega)
    refine ⟨fun hm => absurd (by rw [← hr]; exact hm.2) (grp_mark _ _), fun _ => ?_⟩
    rw [hr, unG_grp 7 _ _ (by omega) (by omega)]
    exact grp_pos _
theorem sgn_lt7 {n : Nat} (h : n < 562949953421312) : -281474976710656 ≤ sgnN n ∧ sgnN n ≤ 281474976710656 := by unfold sgnN; split <;> omega
theorem sgn_odd {n : Nat} (h : n % 2 = 1) : sgnN n = -((n / 2 : Nat) : Int) - 1 := by unfold sgnN; rw [if_pos h]; omega
theorem sgn_even {n : Nat} (h : ¬ n % 2 = 1) : sgnN n = ((n / 2 : Nat) : Int) := by unfold sgnN; rw [if_neg h]
end Go.Proofs.Ytdcnpbdkhcdinaa
