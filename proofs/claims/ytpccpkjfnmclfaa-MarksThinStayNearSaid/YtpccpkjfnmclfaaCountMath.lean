/- plain mathematics of counters that go around. -/
import Derived.WalkKit
namespace Go.Proofs.Ytpccpkjfnmclfaa

/-- a list turned one by one: the state, what came out so far, what is left; a step gives the new state, what comes out, the fault -/
def turnG (step : Int → Int → Int × Int × Int) : Int → List Int → List Int → List Int × Int
  | _, acc, [] => (acc, 0)
  | t, acc, x :: xs => if (step t x).2.2 = 0 then turnG step (step t x).1 (acc ++ [(step t x).2.1]) xs else ([], (step t x).2.2)
def stepU (R t x : Int) : Int × Int × Int :=
  if x < 0 ∨ R ≤ x then (t, 0, 1) else if 1000000000000 < t + (x - t) % R then (t + (x - t) % R, 0, 1) else (t + (x - t) % R, t + (x - t) % R, 0)
def stepR (R t x : Int) : Int × Int × Int :=
  if x < 0 ∨ 1000000000000 < x then (t, 0, 1) else if x < t then (t, 0, 8) else (x, x % R, 0)
def roundOf (b : Int) : Int := 2 ^ b.toNat
def turned (step : Int → Int → Int → Int × Int × Int) (l : List Int) (b : Int) : List Int × Int :=
  if b < 4 ∨ 40 < b then ([], 1) else if 5000 < l.length then ([], 2) else turnG (step (roundOf b)) 0 [] l

theorem roundOf_bd (b : Int) (h4 : 4 ≤ b) (h40 : b ≤ 40) : 16 ≤ roundOf b ∧ roundOf b ≤ 1099511627776 := by
  unfold roundOf
  obtain ⟨n, rfl⟩ : ∃ n : Nat, b = n := ⟨b.toNat, by omega⟩
  rw [Int.toNat_natCast]
  have e : ((2 : Int) ^ n) = ((2 ^ n : Nat) : Int) := by simp
  rw [e]
  have h1 : 2 ^ 4 ≤ 2 ^ n := Nat.pow_le_pow_right (by omega) (by omega)
  have h2 : 2 ^ n ≤ 2 ^ 40 := Nat.pow_le_pow_right (by omega) (by omega)
  omega
theorem turnG_len (step : Int → Int → Int × Int × Int) : ∀ (l : List Int) (t : Int) (acc : List Int), (turnG step t acc l).1.length ≤ acc.length + l.length
  | [], t, acc => by simp [turnG]
  | x :: xs, t, acc => by
    unfold turnG
    split
    · have := turnG_len step xs (step t x).1 (acc ++ [(step t x).2.1])
      simp at this ⊢
      omega
    · simp
theorem turned_len (step : Int → Int → Int → Int × Int × Int) (l : List Int) (b : Int) : (turned step l b).1.length ≤ l.length ∧ (turned step l b).1.length ≤ 5000 := by
  unfold turned
  split
  · simp
  split
  · simp
  · have := turnG_len (step (roundOf b)) l 0 []
    simp at this
    omega
theorem turnG_fault (step : Int → Int → Int × Int × Int) : ∀ (l : List Int) (t : Int) (acc : List Int), (turnG step t acc l).2 ≠ 0 → (turnG step t acc l).1 = []
  | [], t, acc => by simp [turnG]
  | x :: xs, t, acc => by
    unfold turnG
    split
    · exact turnG_fault step xs _ _
    · simp
theorem turned_fault (step : Int → Int → Int → Int × Int × Int) (l : List Int) (b : Int) (h : (turned step l b).2 ≠ 0) : (turned step l b).1 = [] := by
  unfold turned at *
  split
  · rfl
  split
  · rfl
  · rename_i h1 h2
    rw [if_neg h1, if_neg h2] at h
    exact turnG_fault _ _ _ _ h
/-- a step out of the middle -/
theorem turnG_good {step : Int → Int → Int × Int × Int} {t x : Int} {acc : List Int} {xs : List Int} {u o : Int} (h : step t x = (u, o, 0)) : turnG step t acc (x :: xs) = turnG step u (acc ++ [o]) xs := by
  rw [turnG, h]; simp
theorem turnG_bad {step : Int → Int → Int × Int × Int} {t x : Int} {acc : List Int} {xs : List Int} {u o f : Int} (h : step t x = (u, o, f)) (hf : f ≠ 0) : turnG step t acc (x :: xs) = ([], f) := by
  rw [turnG, h]; simp [hf]
theorem drop_one (l : List Int) (k : Nat) (h : k < l.length) : l.drop k = l[k] :: l.drop (k + 1) := List.drop_eq_getElem_cons h

/-- the ticks of readings -/
def ticksU (R : Int) : Int → List Int → List Int
  | _, [] => []
  | t, x :: xs => (t + (x - t) % R) :: ticksU R (t + (x - t) % R) xs
theorem ticksU_len (R : Int) : ∀ (l : List Int) (t : Int), (ticksU R t l).length = l.length
  | [], _ => rfl
  | x :: xs, t => by simp [ticksU, ticksU_len R xs]
theorem stepU_ok {R t x : Int} (h : (stepU R t x).2.2 = 0) : 0 ≤ x ∧ x < R ∧ t + (x - t) % R ≤ 1000000000000 ∧ stepU R t x = (t + (x - t) % R, t + (x - t) % R, 0) := by
  unfold stepU at h ⊢
  by_cases h1 : x < 0 ∨ R ≤ x
  · rw [if_pos h1] at h; simp at h
  rw [if_neg h1] at h ⊢
  by_cases h2 : 1000000000000 < t + (x - t) % R
  · rw [if_pos h2] at h; simp at h
  rw [if_neg h2]
  exact ⟨by omega, by omega, by omega, rfl⟩
theorem turnU_ok (R : Int) : ∀ (l : List Int) (t : Int) (acc : List Int), (turnG (stepU R) t acc l).2 = 0 → (turnG (stepU R) t acc l).1 = acc ++ ticksU R t l
  | [], t, acc => by simp [turnG, ticksU]
  | x :: xs, t, acc => by
    intro h
    by_cases hs : (stepU R t x).2.2 = 0
    · obtain ⟨_, _, _, e⟩ := stepU_ok hs
      rw [turnG_good e] at h ⊢
      rw [turnU_ok R xs _ _ h, ticksU]
      simp
    · rw [turnG, if_neg hs] at h
      exact absurd h hs
theorem back (t x R : Int) (hx : 0 ≤ x) (hR : x < R) : (t + (x - t) % R) % R = x := by
  rw [Int.add_emod_emod, show t + (x - t) = x by omega]
  exact Int.emod_eq_of_lt hx hR
/-- what is unrolled is rolled again -/
theorem roll_back (R : Int) (hR : 0 < R) : ∀ (l : List Int) (t : Int) (acc acc' : List Int), 0 ≤ t → (turnG (stepU R) t acc l).2 = 0 → turnG (stepR R) t acc' (ticksU R t l) = (acc' ++ l, 0)
  | [], t, acc, acc', _ => by simp [turnG, ticksU]
  | x :: xs, t, acc, acc', ht => by
    intro h
    by_cases hs : (stepU R t x).2.2 = 0
    · obtain ⟨h0, h1, h2, e⟩ := stepU_ok hs
      rw [turnG_good e] at h
      have hm := Int.emod_nonneg (x - t) (show R ≠ 0 by omega)
      have es : stepR R t (t + (x - t) % R) = (t + (x - t) % R, x, 0) := by
        unfold stepR
        rw [if_neg (by omega), if_neg (by omega), back t x R h0 h1]
      rw [ticksU, turnG_good es, roll_back R hR xs _ _ (acc' ++ [x]) (by omega) h]
      simp
    · rw [turnG, if_neg hs] at h
      exact absurd h hs
/-- ticks never fall, by less than a round each, from t on -/
theorem ticks_near (R : Int) (hR : 0 < R) : ∀ (l : List Int) (t : Int) (i : Nat) (a b : Int), (t :: ticksU R t l)[i]? = some a → (t :: ticksU R t l)[i + 1]? = some b → a ≤ b ∧ b < a + R
  | [], t, i, a, b => by intro _ h; simp [ticksU] at h
  | x :: xs, t, 0, a, b => by
    intro ha hb
    simp [ticksU] at ha hb
    subst ha hb
    have h1 := Int.emod_nonneg (x - t) (show R ≠ 0 by omega)
    have h2 := Int.emod_lt_of_pos (x - t) hR
    omega
  | x :: xs, t, i + 1, a, b => by
    intro ha hb
    rw [ticksU] at ha hb
    exact ticks_near R hR xs _ i a b (by simpa using ha) (by simpa using hb)
theorem ticks_step (R : Int) (hR : 0 < R) (l : List Int) (i : Nat) (h : i + 1 < (ticksU R 0 l).length) : (ticksU R 0 l)[i] ≤ (ticksU R 0 l)[i + 1] ∧ (ticksU R 0 l)[i + 1] < (ticksU R 0 l)[i] + R :=
  ticks_near R hR l 0 (i + 1) _ _ (by simp) (by simp)
theorem ticks_bd (R : Int) (hR : 0 < R) : ∀ (l : List Int) (t : Int) (acc : List Int), 0 ≤ t → (turnG (stepU R) t acc l).2 = 0 → ∀ a ∈ ticksU R t l, 0 ≤ a ∧ a ≤ 1000000000000
  | [], t, acc, _ => by simp [ticksU]
  | x :: xs, t, acc, ht => by
    intro h a ha
    by_cases hs : (stepU R t x).2.2 = 0
    · obtain ⟨h0, h1, h2, e⟩ := stepU_ok hs
      rw [turnG_good e] at h
      have hm := Int.emod_nonneg (x - t) (show R ≠ 0 by omega)
      rw [ticksU, List.mem_cons] at ha
      rcases ha with rfl | ha
      · omega
      · exact ticks_bd R hR xs _ _ (by omega) h a ha
    · rw [turnG, if_neg hs] at h
      exact absurd h hs
theorem turned_parts {step : Int → Int → Int → Int × Int × Int} {l : List Int} {b : Int} (h : (turned step l b).2 = 0) :
    (4 ≤ b ∧ b ≤ 40) ∧ l.length ≤ 5000 ∧ turned step l b = turnG (step (roundOf b)) 0 [] l := by
  have hb : ¬ (b < 4 ∨ 40 < b) := by intro q; unfold turned at h; rw [if_pos q] at h; simp at h
  have hl : ¬ 5000 < l.length := by intro q; unfold turned at h; rw [if_neg hb, if_pos q] at h; simp at h
  exact ⟨by omega, by omega, by unfold turned; rw [if_neg hb, if_neg hl]⟩
/-- the law CountersComeBack in plain words -/
theorem comes_back (raw : List Int) (b : Int) (h : (turned stepU raw b).2 = 0) :
    ∃ L, turned stepU raw b = (L, 0) ∧ turned stepR L b = (raw, 0) ∧ (∀ a ∈ L, 0 ≤ a ∧ a ≤ 1000000000000) ∧ (4 ≤ b ∧ b ≤ 40) ∧ L.length = raw.length ∧ raw.length ≤ 5000 ∧
    ∀ (i : Nat) (h : i + 1 < L.length), L[i] ≤ L[i + 1] ∧ L[i + 1] < L[i] + roundOf b := by
  obtain ⟨hb, hl, e⟩ := turned_parts h
  obtain ⟨hR, _⟩ := roundOf_bd b (by omega) (by omega)
  rw [e] at h
  have e1 := turnU_ok _ _ _ _ h
  rw [List.nil_append] at e1
  have hlen := ticksU_len (roundOf b) raw 0
  refine ⟨ticksU (roundOf b) 0 raw, ?_, ?_, ticks_bd _ (by omega) _ _ _ (by omega) h, hb, hlen, hl, ticks_step _ (by omega) raw⟩
  · rw [e]
    exact Prod.ext e1 h
  · have e2 := roll_back (roundOf b) (by omega) raw 0 [] [] (by omega) h
    unfold turned
    rw [if_neg (by omega), if_neg (by omega), e2]
    rfl

theorem stepR_ok {R t x : Int} (h : (stepR R t x).2.2 = 0) : 0 ≤ x ∧ x ≤ 1000000000000 ∧ t ≤ x ∧ stepR R t x = (x, x % R, 0) := by
  unfold stepR at h ⊢
  by_cases h1 : x < 0 ∨ 1000000000000 < x
  · rw [if_pos h1] at h; simp at h
  rw [if_neg h1] at h ⊢
  by_cases h2 : x < t
  · rw [if_pos h2] at h; simp at h
  rw [if_neg h2]
  exact ⟨by omega, by omega, by omega, rfl⟩
theorem turnR_ok (R : Int) : ∀ (l : List Int) (t : Int) (acc : List Int), (turnG (stepR R) t acc l).2 = 0 → (turnG (stepR R) t acc l).1 = acc ++ l.map (· % R)
  | [], t, acc => by simp [turnG]
  | x :: xs, t, acc => by
    intro h
    by_cases hs : (stepR R t x).2.2 = 0
    · obtain ⟨_, _, _, e⟩ := stepR_ok hs
      rw [turnG_good e] at h ⊢
      rw [turnR_ok R xs _ _ h]
      simp
    · rw [turnG, if_neg hs] at h
      exact absurd h hs
/-- no two ticks one behind the other are a round apart -/
def near (R : Int) : Int → List Int → Prop
  | _, [] => True
  | t, x :: xs => x - t < R ∧ near R x xs
theorem unroll_back (R : Int) (hR : 0 < R) : ∀ (l : List Int) (t s : Int) (acc acc' : List Int), s ≤ t → (t - s) % R = 0 → near R t l → (turnG (stepR R) t acc l).2 = 0 →
    turnG (stepU R) s acc' (l.map (· % R)) = (acc' ++ l.map (· - (t - s)), 0)
  | [], t, s, acc, acc', _, _, _ => by simp [turnG]
  | x :: xs, t, s, acc, acc', hst, hm, hn => by
    intro h
    by_cases hs : (stepR R t x).2.2 = 0
    · obtain ⟨h0, h1, h2, e⟩ := stepR_ok hs
      rw [turnG_good e] at h
      obtain ⟨n1, n2⟩ := hn
      have em : (x % R - s) % R = x - t := by
        rw [Int.emod_sub_emod, show x - s = (x - t) + (t - s) by omega, Int.add_emod, hm, Int.add_zero, Int.emod_emod, Int.emod_eq_of_lt (by omega) (by omega)]
      have g1 := Int.emod_nonneg x (show R ≠ 0 by omega)
      have g2 := Int.emod_lt_of_pos x hR
      have es : stepU R s (x % R) = (s + (x - t), s + (x - t), 0) := by
        unfold stepU
        rw [if_neg (by omega), em, if_neg (by omega)]
      rw [List.map_cons, turnG_good es, unroll_back R hR xs x (s + (x - t)) _ _ (by omega) (by rw [show x - (s + (x - t)) = t - s by omega]; exact hm) n2 h, List.map_cons]
      simp only [List.append_assoc, List.cons_append, List.nil_append, Prod.mk.injEq, and_true, List.append_cancel_left_eq, List.cons.injEq]
      refine ⟨by omega, ?_⟩
      congr 1
      funext y
      omega
    · rw [turnG, if_neg hs] at h
      exact absurd h hs
theorem near_of (R : Int) : ∀ (l : List Int) (t : Int), (∀ (i : Nat) (h : i + 1 < (t :: l).length), (t :: l)[i + 1] - (t :: l)[i] < R) → near R t l
  | [], t, _ => trivial
  | x :: xs, t, h => ⟨h 0 (by simp), near_of R xs x fun i hi => h (i + 1) (by simp at hi ⊢; omega)⟩
theorem turnR_first (R : Int) (x : Int) (xs : List Int) (h : (turnG (stepR R) 0 [] (x :: xs)).2 = 0) : 0 ≤ x ∧ x ≤ 1000000000000 ∧ (turnG (stepR R) x [x % R] xs).2 = 0 := by
  by_cases hs : (stepR R 0 x).2.2 = 0
  · obtain ⟨h0, h1, h2, e⟩ := stepR_ok hs
    rw [turnG_good e] at h
    exact ⟨h0, h1, by simpa using h⟩
  · rw [turnG, if_neg hs] at h
    exact absurd h hs
theorem turnR_bd (R : Int) : ∀ (l : List Int) (t : Int) (acc : List Int), (turnG (stepR R) t acc l).2 = 0 → ∀ a ∈ l, 0 ≤ a ∧ a ≤ 1000000000000
  | [], t, acc => by simp
  | x :: xs, t, acc => by
    intro h a ha
    by_cases hs : (stepR R t x).2.2 = 0
    · obtain ⟨h0, h1, h2, e⟩ := stepR_ok hs
      rw [turnG_good e] at h
      rw [List.mem_cons] at ha
      rcases ha with rfl | ha
      · exact ⟨h0, h1⟩
      · exact turnR_bd R xs _ _ h a ha
    · rw [turnG, if_neg hs] at h
      exact absurd h hs
/-- the law CountersUnrollRolled in plain words -/
theorem unrolls (l : List Int) (b : Int) (h : (turned stepR l b).2 = 0) :
    turned stepR l b = (l.map (· % roundOf b), 0) ∧ (4 ≤ b ∧ b ≤ 40) ∧ l.length ≤ 5000 ∧ (∀ a ∈ l, 0 ≤ a ∧ a ≤ 1000000000000) ∧
    ((∀ (i : Nat) (h : i + 1 < l.length), l[i + 1] - l[i] < roundOf b) → ∃ D : Int, D % roundOf b = 0 ∧ 0 ≤ D ∧ D ≤ 1000000000000 ∧ turned stepU (l.map (· % roundOf b)) b = (l.map (· - D), 0)) := by
  obtain ⟨hb, hl, e⟩ := turned_parts h
  obtain ⟨hR, _⟩ := roundOf_bd b (by omega) (by omega)
  rw [e] at h
  have e1 := turnR_ok _ _ _ _ h
  rw [List.nil_append] at e1
  refine ⟨by rw [e]; exact Prod.ext e1 h, hb, hl, turnR_bd _ _ _ _ h, fun hn => ?_⟩
  have hU : turned stepU (l.map (· % roundOf b)) b = turnG (stepU (roundOf b)) 0 [] (l.map (· % roundOf b)) := by
    unfold turned
    rw [if_neg (by omega), if_neg (by simp; omega)]
  rw [hU]
  match l, hn, h with
  | [], _, _ => exact ⟨0, by simp, by omega, by omega, by simp [turnG]⟩
  | x :: xs, hn, h =>
    obtain ⟨h0, h1, h2⟩ := turnR_first _ _ _ h
    have g1 := Int.emod_nonneg x (show roundOf b ≠ 0 by omega)
    have g2 := Int.emod_lt_of_pos x (show 0 < roundOf b by omega)
    have g3 : x % roundOf b ≤ x := by
      have q1 := Int.mul_ediv_add_emod x (roundOf b)
      have q2 := Int.mul_nonneg (show 0 ≤ roundOf b by omega) (Int.ediv_nonneg h0 (show 0 ≤ roundOf b by omega))
      omega
    have es : stepU (roundOf b) 0 (x % roundOf b) = (x % roundOf b, x % roundOf b, 0) := by
      unfold stepU
      have e0 : 0 + (x % roundOf b - 0) % roundOf b = x % roundOf b := by simp
      rw [if_neg (by omega), e0, if_neg (by omega)]
    refine ⟨x - x % roundOf b, ?_, by omega, by omega, ?_⟩
    · exact Int.emod_eq_zero_of_dvd (Int.dvd_self_sub_emod)
    · rw [List.map_cons, turnG_good es, unroll_back (roundOf b) (by omega) xs x (x % roundOf b) _ _ g3 (Int.emod_eq_zero_of_dvd (Int.dvd_self_sub_emod)) (near_of _ _ _ hn) h2, List.map_cons]
      simp only [List.nil_append, List.cons_append, Prod.mk.injEq, and_true, List.cons.injEq]
      omega
end Go.Proofs.Ytpccpkjfnmclfaa
