/- rows of values, spread again: plain mathematics. -/
import Derived.Test.YtdcnpbdkhcdinaaSqMath
namespace Go.Proofs.Ytdcnpbdkhcdinaa
open Go.RowKit

/-- a number in at most k groups, and how many bytes it has; 0: it is none -/
def unG : Nat → List UInt8 → Nat × Nat
  | 0, _ => (0, 0)
  | _ + 1, [] => (0, 0)
  | k + 1, x :: r => if x.toNat < 128 then (x.toNat, 1) else if (unG k r).2 = 0 then (0, 0) else (x.toNat % 128 + 128 * (unG k r).1, (unG k r).2 + 1)
theorem unG_le : ∀ (k : Nat) (b : List UInt8), (unG k b).2 ≤ b.length ∧ (unG k b).2 ≤ k ∧ (unG k b).1 < 128 ^ k
  | 0, b => by simp [unG]
  | k + 1, [] => ⟨by simp [unG], by simp [unG], by show 0 < 128 ^ (k + 1); exact Nat.one_le_pow _ _ (by omega)⟩
  | k + 1, x :: r => by
    obtain ⟨a, b, c⟩ := unG_le k r
    unfold unG
    have hp : 128 ^ (k + 1) = 128 ^ k * 128 := Nat.pow_succ ..
    have h1 : 1 ≤ 128 ^ k := Nat.one_le_pow _ _ (by omega)
    split
    · simp only [List.length_cons]; omega
    · split
      · simp; omega
      · simp only [List.length_cons]; omega
theorem grp_first (n : Nat) : ∃ a t, grpN n = a :: t ∧ ((n < 128 ∧ a = UInt8.ofNat n ∧ t = []) ∨ (127 < n ∧ a = UInt8.ofNat (n % 128 + 128) ∧ t = grpN (n / 128))) := by
  by_cases h : 127 < n
  · exact ⟨_, _, grp_more h, .inr ⟨h, rfl, rfl⟩⟩
  · exact ⟨_, _, grp_last h, .inl ⟨by omega, rfl, rfl⟩⟩
theorem u8_nat (n : Nat) (h : n < 256) : (UInt8.ofNat n).toNat = n := by
  rw [show (UInt8.ofNat n).toNat = n % 256 from UInt8.toNat_ofNat']
  omega
theorem unG_grp : ∀ (k n : Nat) (r : List UInt8), n < 128 ^ k → 0 < k → unG k (grpN n ++ r) = (n, (grpN n).length)
  | 0, n, r, _, h => by omega
  | k + 1, n, r, hn, _ => by
    obtain ⟨a, t, e, h | h⟩ := grp_first n
    · obtain ⟨h1, rfl, rfl⟩ := h
      rw [e]
      simp only [List.cons_append, List.nil_append, unG]
      rw [u8_nat n (by omega), if_pos h1]
      rfl
    · obtain ⟨h1, rfl, rfl⟩ := h
      rw [e]
      have hd : n / 128 < 128 ^ k := by
        rw [Nat.div_lt_iff_lt_mul (by omega)]
        rw [Nat.pow_succ] at hn
        exact hn
      have hk : 0 < k := by
        rcases k with _ | k
        · simp at hd; omega
        · omega
      have ih := unG_grp k (n / 128) r hd hk
      have hl : 0 < (grpN (n / 128)).length := by
        obtain ⟨a, t, e, -⟩ := grp_first (n / 128)
        rw [e]; simp
      simp only [List.cons_append, unG]
      rw [ih, u8_nat _ (by omega), if_neg (by omega), if_neg (by simp only; omega)]
      simp only [List.length_cons, Prod.mk.injEq, and_true]
      omega
theorem grp_pos (n : Nat) : 0 < (grpN n).length := by
  obtain ⟨a, t, e, -⟩ := grp_first n
  rw [e]; simp
/-- no number in groups begins a row -/
theorem grp_mark (n : Nat) (r : List UInt8) : (grpN n ++ r).take 2 ≠ [128, 0] := by
  obtain ⟨a, t, e, h | h⟩ := grp_first n
  · obtain ⟨h1, rfl, rfl⟩ := h
    rw [e]
    intro hh
    have : UInt8.ofNat n = 128 := by
      simp only [List.cons_append, List.nil_append, List.take_succ_cons, List.cons.injEq] at hh
      exact hh.1
    have := congrArg UInt8.toNat this
    rw [u8_nat n (by omega)] at this
    simp at this
    omega
  · obtain ⟨h1, rfl, rfl⟩ := h
    obtain ⟨a', t', e', h' | h'⟩ := grp_first (n / 128)
    · obtain ⟨h2, rfl, rfl⟩ := h'
      rw [e, e']
      intro hh
      simp only [List.cons_append, List.nil_append, List.take_succ_cons, List.take_zero, List.cons.injEq, and_true] at hh
      have := congrArg UInt8.toNat hh.2
      rw [u8_nat _ (by omega)] at this
      simp at this
      omega
    · obtain ⟨h2, rfl, rfl⟩ := h'
      rw [e, e']
      intro hh
      simp only [List.cons_append, List.take_succ_cons, List.take_zero, List.cons.injEq, and_true] at hh
      have := congrArg UInt8.toNat hh.2
      rw [u8_nat _ (by omega)] at this
      simp at this
/-- the number of which zigN is -/
def sgnN (n : Nat) : Int := if n % 2 = 1 then -(((n + 1) / 2 : Nat) : Int) else ((n / 2 : Nat) : Int)
theorem sgn_zig (n : Int) : sgnN (zigN n) = n := by
  unfold sgnN zigN
  by_cases h : n < 0
  · rw [if_pos h]
    have : (-2 * n - 1).toNat % 2 = 1 := by omega
    rw [if_pos this]
    omega
  · rw [if_neg h]
    have : ¬ (2 * n).toNat % 2 = 1 := by omega
    rw [if_neg this]
    omega
theorem sgn_lt {n : Nat} (h : n < 34359738368) : -17179869184 ≤ sgnN n ∧ sgnN n ≤ 17179869184 := by unfold sgnN; split <;> omega
/-- these bytes are what these values are squeezed to -/
def GoodB (l : List Int) (b : List UInt8) : Prop := sqF l = 0 ∧ sqR l = b
theorem sqF_zero {l : List Int} (h : sqF l = 0) : l.length ≤ 5000 ∧ ∀ x ∈ l, -1000000000 ≤ x ∧ x ≤ 1000000000 := by
  unfold sqF at h
  by_cases h1 : 5000 < l.length
  · rw [if_pos h1] at h; simp at h
  · rw [if_neg h1] at h
    by_cases h2 : l.all meaB = true
    · refine ⟨by omega, fun x hx => ?_⟩
      have := List.all_eq_true.1 h2 x hx
      unfold meaB at this
      simpa using this
    · rw [if_neg h2] at h; simp at h
theorem good_parts {l : List Int} {b : List UInt8} (h : GoodB l b) : l.length ≤ 5000 ∧ (∀ x ∈ l, -1000000000 ≤ x ∧ x ≤ 1000000000) ∧ b = bigE l.length 2 ++ sqz 0 l := by
  obtain ⟨a, c⟩ := sqF_zero h.1
  refine ⟨a, c, ?_⟩
  rw [← h.2]
  unfold sqR
  rw [if_pos h.1]
theorem same_all (b : Int) : ∀ (l : List Int), l.take (sameN b l) = List.replicate (sameN b l) b
  | [] => by simp [sameN]
  | x :: l => by
    unfold sameN
    by_cases h : x = b
    · rw [if_pos h, List.take_succ_cons, List.replicate_succ, same_all b l, h]
    · rw [if_neg h]; rfl
theorem sqz_len : ∀ (k : Nat) (before : Int) (l : List Int), l.length ≤ k → k ≤ 5000 → (-1000000000 ≤ before ∧ before ≤ 1000000000) → (∀ x ∈ l, -1000000000 ≤ x ∧ x ≤ 1000000000) → (sqz before l).length ≤ 5 * l.length
  | _, before, [], _, _, _, _ => by simp [sqz]
  | 0, before, x :: l, h, _, _, _ => by simp at h
  | k + 1, before, x :: l, h, hk, hb, hx => by
    by_cases h3 : 3 ≤ sameN before (x :: l)
    · rw [sqz_row h3]
      have hs := same_le before (x :: l)
      have hg : (grpN (sameN before (x :: l))).length ≤ 2 := grp_len 1 _ (by simp at hs h; omega)
      have ih := sqz_len k before ((x :: l).drop (sameN before (x :: l))) (by simp at h ⊢; omega) (by omega) hb (fun y hy => hx y (List.mem_of_mem_drop hy))
      generalize sameN before (x :: l) = M at *
      simp only [List.length_append, List.length_cons, List.length_nil, List.length_drop] at ih hs ⊢
      omega
    · rw [sqz_one h3]
      have hxx := hx x (by simp)
      have hg : (grpN (zigN (x - before))).length ≤ 5 := grp_len 4 _ (by have := zig_lt (n := x - before) (by omega) (by omega); omega)
      have ih := sqz_len k x l (by simp at h; omega) (by omega) hxx (fun y hy => hx y (by simp [hy]))
      simp only [List.length_append, List.length_cons]
      omega
theorem good_len {l : List Int} {b : List UInt8} (h : GoodB l b) : b.length ≤ 30000 := by
  obtain ⟨a, c, e⟩ := good_parts h
  have := sqz_len 5000 0 l a (by omega) (by omega) c
  rw [e, List.length_append, bigE_len]
  omega
/-- so far: what was read is the beginning of these values, the rest is theirs -/
def ReadSo (b : List UInt8) (acc : List Int) (value : Int) (rest : List UInt8) : Prop := ∀ l, GoodB l b → ∃ j, j ≤ l.length ∧ acc = l.take j ∧ rest = sqz value (l.drop j) ∧ (-1000000000 ≤ value ∧ value ≤ 1000000000)
theorem read_begin {b : List UInt8} : ReadSo b [] 0 (b.drop 2) := fun l h => by
  obtain ⟨a, c, e⟩ := good_parts h
  refine ⟨0, Nat.zero_le _, by simp, ?_, by omega⟩
  rw [e, List.drop_zero]
  have : (bigE l.length 2).length = 2 := bigE_len _ _
  conv => lhs; rw [← this]
  exact List.drop_left
theorem good_many {l : List Int} {b : List UInt8} (h : GoodB l b) : bigN (b.take 2) = l.length := by
  obtain ⟨a, c, e⟩ := good_parts h
  have h2 : (bigE l.length 2).length = 2 := bigE_len _ _
  rw [e]
  have : (bigE l.length 2 ++ sqz 0 l).take 2 = bigE l.length 2 := by
    conv => lhs; rw [← h2]
    exact List.take_left
  rw [this]
  simp only [bigE, bigN, List.foldl_cons, List.foldl_nil]
  rw [u8_nat _ (by omega), show (UInt8.ofNat (l.length / 256 ^ 0)).toNat = l.length / 256 ^ 0 % 256 from UInt8.toNat_ofNat']
  omega
/-- one number more, or a row -/
theorem read_row {b : List UInt8} {acc : List Int} {value : Int} {rest : List UInt8} (h : ReadSo b acc value rest) (hm : rest.take 2 = [128, 0]) (n u : Nat) (hg : unG 5 (rest.drop 2) = (n, u)) : ReadSo b (acc ++ List.replicate n value) value ((rest.drop 2).drop u) := fun l hl => by
  obtain ⟨j, hj, rfl, hr, hv⟩ := h l hl
  obtain ⟨a, c, e⟩ := good_parts hl
  match hd : l.drop j with
  | [] => rw [hd] at hr; rw [hr] at hm; simp [sqz] at hm
  | x :: t =>
    rw [hd] at hr
    by_cases h3 : 3 ≤ sameN value (x :: t)
    · rw [sqz_row h3] at hr
      have hs := same_le value (x :: t)
      have hdl : (x :: t).length = l.length - j := by rw [← hd]; simp
      have hM : sameN value (x :: t) < 128 ^ 5 := by omega
      have hr2 : rest.drop 2 = grpN (sameN value (x :: t)) ++ sqz value ((x :: t).drop (sameN value (x :: t))) := by rw [hr]; rfl
      rw [hr2, unG_grp 5 _ _ hM (by omega)] at hg
      injection hg with hn hu
      rw [← hn, ← hu, hr2, List.drop_left]
      have hal := same_all value (x :: t)
      generalize sameN value (x :: t) = M at *
      refine ⟨j + M, by omega, ?_, ?_, hv⟩
      · rw [List.take_add, hd, hal]
      · rw [← hd, List.drop_drop]
    · rw [sqz_one h3] at hr
      rw [hr] at hm
      exact absurd hm (grp_mark _ _)
theorem read_one {b : List UInt8} {acc : List Int} {value : Int} {rest : List UInt8} (h : ReadSo b acc value rest) (hm : ¬ rest.take 2 = [128, 0]) (hmore : ∀ l, GoodB l b → acc.length < l.length) (n u : Nat) (hg : unG 5 rest = (n, u)) : ReadSo b (acc ++ [value + sgnN n]) (value + sgnN n) (rest.drop u) := fun l hl => by
  have hlt := hmore l hl
  obtain ⟨j, hj, rfl, hr, hv⟩ := h l hl
  obtain ⟨a, c, e⟩ := good_parts hl
  have hjl : j < l.length := by simp at hlt; omega
  have hd : l.drop j = l[j] :: l.drop (j + 1) := List.drop_eq_getElem_cons hjl
  rw [hd] at hr
  by_cases h3 : 3 ≤ sameN value (l[j] :: l.drop (j + 1))
  · rw [sqz_row h3] at hr
    rw [hr] at hm
    exact absurd rfl hm
  · rw [sqz_one h3] at hr
    have hx := c l[j] (List.getElem_mem hjl)
    have hz := zig_lt (n := l[j] - value) (by omega) (by omega)
    rw [hr, unG_grp 5 _ _ (by omega) (by omega)] at hg
    injection hg with hn hu
    rw [← hn, ← hu, hr, List.drop_left, sgn_zig, show value + (l[j] - value) = l[j] by omega]
    exact ⟨j + 1, by omega, by rw [List.take_succ_eq_append_getElem hjl], rfl, hx⟩
/-- all was read -/
theorem read_end {b : List UInt8} {acc : List Int} {value : Int} {rest : List UInt8} (h : ReadSo b acc value rest) (hm : ∀ l, GoodB l b → l.length ≤ acc.length) : ∀ l, GoodB l b → acc = l := fun l hl => by
  have hlt := hm l hl
  obtain ⟨j, hj, rfl, -, -⟩ := h l hl
  simp at hlt
  rw [List.take_of_length_le (by omega)]
/-- it can be read on -/
theorem read_can {b : List UInt8} {acc : List Int} {value : Int} {rest : List UInt8} (h : ReadSo b acc value rest) {l : List Int} (hl : GoodB l b) (hmore : acc.length < l.length) :
    (rest.take 2 = [128, 0] → 0 < (unG 5 (rest.drop 2)).2 ∧ (unG 5 (rest.drop 2)).1 ≤ l.length - acc.length) ∧ (¬ rest.take 2 = [128, 0] → 0 < (unG 5 rest).2) := by
  obtain ⟨j, hj, rfl, hr, hv⟩ := h l hl
  obtain ⟨a, c, e⟩ := good_parts hl
  have hjl : j < l.length := by simp at hmore; omega
  have hd : l.drop j = l[j] :: l.drop (j + 1) := List.drop_eq_getElem_cons hjl
  by_cases h3 : 3 ≤ sameN value (l.drop j)
  · rw [sqz_row h3] at hr
    have hs := same_le value (l.drop j)
    have hr2 : rest.drop 2 = grpN (sameN value (l.drop j)) ++ sqz value ((l.drop j).drop (sameN value (l.drop j))) := by rw [hr]; rfl
    have hM : sameN value (l.drop j) < 128 ^ 5 := by simp at hs; omega
    refine ⟨fun _ => ?_, fun hm => absurd (by rw [hr]; rfl) hm⟩
    rw [hr2, unG_grp 5 _ _ hM (by omega)]
    refine ⟨grp_pos _, ?_⟩
    simp at hs ⊢
    omega
  · rw [hd] at hr h3
    rw [sqz_one h3] at hr
    have hx := c l[j] (List.getElem_mem hjl)
    have hz := zig_lt (n := l[j] - value) (by omega) (by omega)
    refine ⟨fun hm => absurd (by rw [← hr]; exact hm) (grp_mark _ _), fun _ => ?_⟩
    rw [hr, unG_grp 5 _ _ (by omega) (by omega)]
    exact grp_pos _
end Go.Proofs.Ytdcnpbdkhcdinaa
