/- what is wrong with a flash: plain mathematics. -/
namespace Go.Proofs.Ythcijelebjgfkaa

/-- what is wrong with sizes -/
def shapeS (b p s : Int) : Int := if (1 ≤ b ∧ b ≤ 64) ∧ (1 ≤ p ∧ p ≤ 64) ∧ (64 ≤ s ∧ s ≤ 1024) then (if 262144 < b * p * s then 2 else 0) else 1
/-- what is wrong with the bad blocks, the one before being u -/
def badF (b : Int) : Int → List Int → Int
  | _, [] => 0
  | u, x :: l => if 0 ≤ x ∧ x ≤ b - 1 then (if x ≤ u then 8 else badF b x l) else 1
def wornB (z : Int) : Bool := decide (0 ≤ z ∧ z ≤ 1000000)
/-- what is wrong with a flash of n bytes -/
def flashS (b p s : Int) (n : Nat) (v x : List Int) : Int :=
  if shapeS b p s = 0 then (if (n : Int) = b * p * s ∧ (v.length : Int) = b then (if v.all wornB = true then badF b (-1) x else 1) else 3) else shapeS b p s
theorem shape_cases (b p s : Int) : (¬ (1 ≤ b ∧ b ≤ 64) ∧ shapeS b p s = 1) ∨ ((1 ≤ b ∧ b ≤ 64) ∧ ¬ (1 ≤ p ∧ p ≤ 64) ∧ shapeS b p s = 1) ∨ ((1 ≤ b ∧ b ≤ 64) ∧ (1 ≤ p ∧ p ≤ 64) ∧ ¬ (64 ≤ s ∧ s ≤ 1024) ∧ shapeS b p s = 1) ∨
    ((1 ≤ b ∧ b ≤ 64) ∧ (1 ≤ p ∧ p ≤ 64) ∧ (64 ≤ s ∧ s ≤ 1024) ∧ shapeS b p s = if 262144 < b * p * s then 2 else 0) := by
  unfold shapeS
  by_cases h1 : 1 ≤ b ∧ b ≤ 64
  · by_cases h2 : 1 ≤ p ∧ p ≤ 64
    · by_cases h3 : 64 ≤ s ∧ s ≤ 1024
      · exact .inr (.inr (.inr ⟨h1, h2, h3, by rw [if_pos ⟨h1, h2, h3⟩]⟩))
      · exact .inr (.inr (.inl ⟨h1, h2, h3, by rw [if_neg (fun q => h3 q.2.2)]⟩))
    · exact .inr (.inl ⟨h1, h2, by rw [if_neg (fun q => h2 q.2.1)]⟩)
  · exact .inl ⟨h1, by rw [if_neg (fun q => h1 q.1)]⟩
theorem shape_ok {b p s : Int} (h : shapeS b p s = 0) : (1 ≤ b ∧ b ≤ 64) ∧ (1 ≤ p ∧ p ≤ 64) ∧ (64 ≤ s ∧ s ≤ 1024) ∧ b * p * s ≤ 262144 := by
  rcases shape_cases b p s with ⟨_, e⟩ | ⟨_, _, e⟩ | ⟨_, _, _, e⟩ | ⟨h1, h2, h3, e⟩
  · omega
  · omega
  · omega
  · rw [e] at h
    refine ⟨h1, h2, h3, ?_⟩
    by_cases h4 : 262144 < b * p * s
    · rw [if_pos h4] at h; omega
    · omega
theorem mul_bd {b p : Int} (hb : 1 ≤ b ∧ b ≤ 64) (hp : 1 ≤ p ∧ p ≤ 64) : 1 ≤ b * p ∧ b * p ≤ 4096 := by
  constructor
  · have := Int.mul_le_mul hb.1 hp.1 (by omega) (by omega); omega
  · have := Int.mul_le_mul hb.2 hp.2 (by omega) (by omega); omega
theorem mul_bd3 {b p s : Int} (hb : 1 ≤ b ∧ b ≤ 64) (hp : 1 ≤ p ∧ p ≤ 64) (hs : 64 ≤ s ∧ s ≤ 1024) : 64 ≤ b * p * s ∧ b * p * s ≤ 4194304 := by
  have h := mul_bd hb hp
  constructor
  · have := Int.mul_le_mul h.1 hs.1 (by omega) (by omega); omega
  · have := Int.mul_le_mul h.2 hs.2 (by omega) (by omega); omega
/-- a flash with which nothing is wrong -/
structure FlOk (b p s : Int) (n : Nat) (v x : List Int) : Prop where
  hb : 1 ≤ b ∧ b ≤ 64
  hp : 1 ≤ p ∧ p ≤ 64
  hs : 64 ≤ s ∧ s ≤ 1024
  few : b * p * s ≤ 262144
  len : (n : Int) = b * p * s
  wear : (v.length : Int) = b
  worn : v.all wornB = true
  bad : badF b (-1) x = 0
theorem flash_ok {b p s : Int} {n : Nat} {v x : List Int} (h : flashS b p s n v x = 0) : FlOk b p s n v x := by
  unfold flashS at h
  by_cases h1 : shapeS b p s = 0
  · rw [if_pos h1] at h
    obtain ⟨a1, a2, a3, a4⟩ := shape_ok h1
    by_cases h2 : (n : Int) = b * p * s ∧ (v.length : Int) = b
    · rw [if_pos h2] at h
      by_cases h3 : v.all wornB = true
      · rw [if_pos h3] at h
        exact ⟨a1, a2, a3, a4, h2.1, h2.2, h3, h⟩
      · rw [if_neg h3] at h; omega
    · rw [if_neg h2] at h; omega
  · rw [if_neg h1] at h; omega
theorem ok_flash {b p s : Int} {n : Nat} {v x : List Int} (h : FlOk b p s n v x) : flashS b p s n v x = 0 := by
  have h1 : shapeS b p s = 0 := by
    unfold shapeS
    rw [if_pos ⟨h.hb, h.hp, h.hs⟩, if_neg (by have := h.few; omega)]
  unfold flashS
  rw [if_pos h1, if_pos ⟨h.len, h.wear⟩, if_pos h.worn]
  exact h.bad
/-- no more bad blocks than blocks -/
theorem bad_len {b : Int} : ∀ {x : List Int} {u : Int}, badF b u x = 0 → -1 ≤ u → (x.length : Int) + u + 1 ≤ max b (u + 1)
  | [], u, _, _ => by simp; omega
  | y :: l, u, h, hu => by
    unfold badF at h
    by_cases h1 : 0 ≤ y ∧ y ≤ b - 1
    · rw [if_pos h1] at h
      by_cases h2 : y ≤ u
      · rw [if_pos h2] at h; omega
      · rw [if_neg h2] at h
        have := bad_len h (by omega)
        simp only [List.length_cons]
        omega
    · rw [if_neg h1] at h; omega
theorem FlOk.badLen {b p s : Int} {n : Nat} {v x : List Int} (h : FlOk b p s n v x) : x.length ≤ 64 := by
  have := bad_len h.bad (by omega)
  have := h.hb
  omega
end Go.Proofs.Ythcijelebjgfkaa
