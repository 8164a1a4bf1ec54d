/- keys: what CheckKeys tells, and that keys which have seen a counter are right: plain mathematics. -/
import Derived.Test.YteikggieekhfkaaOpn
import Derived.Test.YteikggieekhfkaaSeenM
import Derived.Test.YteikggieekhfkaaSgd
namespace Go.Proofs.Yteikggieekhfkaa
open Go.RowKit

theorem chk_zero (least : Int) : ∀ (l : List Int) (b : Int), chkS least b l = 0 ↔ (∀ x ∈ l, inB least x = true ∧ b < x) ∧ l.Pairwise (· < ·)
  | [], b => by simp [chkS]
  | n :: l, b => by
    have ih := chk_zero least l n
    unfold chkS
    by_cases h1 : inB least n = true
    · rw [if_pos h1]
      by_cases h2 : n ≤ b
      · rw [if_pos h2]
        constructor
        · intro h; simp at h
        · intro h; have := (h.1 n (by simp)).2; omega
      · rw [if_neg h2, ih]
        constructor
        · rintro ⟨h3, h4⟩
          refine ⟨fun x hx => ?_, List.pairwise_cons.2 ⟨fun x hx => (h3 x hx).2, h4⟩⟩
          rcases List.mem_cons.1 hx with rfl | hx
          · exact ⟨h1, by omega⟩
          · have := h3 x hx; exact ⟨this.1, by omega⟩
        · rintro ⟨h3, h4⟩
          rw [List.pairwise_cons] at h4
          exact ⟨fun x hx => ⟨(h3 x (by simp [hx])).1, h4.1 x hx⟩, h4.2⟩
    · rw [if_neg h1]
      constructor
      · intro h; simp at h
      · intro h; exact absurd (h.1 n (by simp)).1 h1
/-- right keys -/
def Right (least : Int) (l : List Int) : Prop := 0 ≤ least ∧ least ≤ 1000000001 ∧ l.length ≤ 64 ∧ (∀ x ∈ l, least < x ∧ x ≤ least + 64 ∧ x ≤ 1000000000) ∧ l.Pairwise (· < ·)
theorem inB_iff (least n : Int) : inB least n = true ↔ least < n ∧ n ≤ least + 64 ∧ n ≤ 1000000000 := by unfold inB; simp only [decide_eq_true_eq]; omega
theorem keys_zero (key least : Int) (l : List Int) : keysS key least l = 0 ↔ keyB key = true ∧ Right least l := by
  unfold keysS Right
  by_cases h1 : keyB key = true ∧ leastB least = true
  · rw [if_pos h1]
    have h2 := h1.2
    unfold leastB at h2
    simp only [decide_eq_true_eq] at h2
    by_cases h3 : 64 < l.length
    · rw [if_pos h3]
      constructor
      · intro h; simp at h
      · rintro ⟨-, -, -, h, -⟩; omega
    · rw [if_neg h3, chk_zero]
      constructor
      · rintro ⟨h4, h5⟩
        exact ⟨h1.1, h2.1, h2.2, by omega, fun x hx => (inB_iff _ _).1 (h4 x hx).1, h5⟩
      · rintro ⟨-, -, -, -, h4, h5⟩
        exact ⟨fun x hx => ⟨(inB_iff _ _).2 (h4 x hx), (h4 x hx).1⟩, h5⟩
  · rw [if_neg h1]
    constructor
    · intro h; simp at h
    · rintro ⟨h, h4, h5, -⟩
      exact absurd ⟨h, by unfold leastB; simp only [decide_eq_true_eq]; exact ⟨h4, h5⟩⟩ h1
theorem pair_asc {l : List Int} (h : l.Pairwise (· < ·)) : Asc l := fun i j hij hj => List.pairwise_iff_getElem.1 h i j (by omega) hj hij
theorem pair_len : ∀ (k : Nat) (l : List Int) (a : Int), l.Pairwise (· < ·) → (∀ x ∈ l, a < x ∧ x ≤ a + k) → l.length ≤ k
  | _, [], _, _, _ => by simp
  | 0, x :: l, a, _, h => by have := h x (by simp); omega
  | k + 1, x :: l, a, hp, h => by
    rw [List.pairwise_cons] at hp
    have := pair_len k l (a + 1) hp.2 (fun y hy => by have h1 := h x (by simp); have h2 := hp.1 y hy; have h3 := h y (by simp [hy]); omega)
    simp; omega
theorem ins_cons (a n : Int) (l : List Int) (hp : (a :: l).Pairwise (· < ·)) : insL (a :: l) (place (a :: l) n) n = if a < n then a :: insL l (place l n) n else n :: a :: l := by
  unfold place insL
  by_cases h : a < n
  · rw [if_pos h, List.countP_cons_of_pos (by simpa using h)]
    rfl
  · rw [if_neg h, List.countP_cons_of_neg (by simpa using h)]
    rw [List.pairwise_cons] at hp
    have : l.countP (· < n) = 0 := List.countP_eq_zero.2 fun x hx => by have := hp.1 x hx; simp; omega
    rw [this]
    rfl
theorem ins_mem (n x : Int) (l : List Int) : x ∈ insL l (place l n) n ↔ x = n ∨ x ∈ l := by
  unfold insL
  rw [List.mem_append, List.mem_cons]
  constructor
  · rintro (h | h | h)
    · exact .inr (List.mem_of_mem_take h)
    · exact .inl h
    · exact .inr (List.mem_of_mem_drop h)
  · rintro (h | h)
    · exact .inr (.inl h)
    · rw [← List.take_append_drop (place l n) l, List.mem_append] at h
      rcases h with h | h
      · exact .inl h
      · exact .inr (.inr h)
theorem ins_pair (n : Int) : ∀ (l : List Int), l.Pairwise (· < ·) → n ∉ l → (insL l (place l n) n).Pairwise (· < ·)
  | [], _, _ => by simp [insL, place]
  | a :: l, hp, hn => by
    rw [ins_cons a n l hp]
    simp only [List.mem_cons, not_or] at hn
    have hp' := hp
    rw [List.pairwise_cons] at hp
    by_cases h : a < n
    · rw [if_pos h, List.pairwise_cons]
      refine ⟨fun x hx => ?_, ins_pair n l hp.2 hn.2⟩
      rcases (ins_mem n x l).1 hx with rfl | hx
      · exact h
      · exact hp.1 x hx
    · rw [if_neg h, List.pairwise_cons]
      refine ⟨fun x hx => ?_, hp'⟩
      rcases List.mem_cons.1 hx with rfl | hx
      · omega
      · have := hp.1 x hx; omega
/-- what strip leaves -/
theorem strip_right : ∀ (L : List Int) (least : Int), 0 ≤ least → least ≤ 1000000001 → L.Pairwise (· < ·) → (∀ x ∈ L, least ≤ x ∧ x ≤ least + 64 ∧ x ≤ 1000000000) → Right (strip least L).1 (strip least L).2
  | [], least, h0, h1, _, _ => ⟨h0, h1, by simp [strip], by simp [strip], by simp [strip]⟩
  | n :: L, least, h0, h1, hp, h => by
    unfold strip
    rw [List.pairwise_cons] at hp
    have hn := h n (by simp)
    by_cases e : n = least
    · rw [if_pos e]
      refine strip_right L (least + 1) (by omega) (by omega) hp.2 fun x hx => ?_
      have h2 := hp.1 x hx
      have h3 := h x (by simp [hx])
      omega
    · rw [if_neg e]
      have ha : ∀ x ∈ n :: L, least < x ∧ x ≤ least + 64 ∧ x ≤ 1000000000 := fun x hx => by
        have h3 := h x hx
        rcases List.mem_cons.1 hx with rfl | hx
        · omega
        · have h2 := hp.1 x hx; omega
      exact ⟨h0, h1, pair_len 64 _ least (List.pairwise_cons.2 hp) (fun x hx => by have := ha x hx; omega), ha, List.pairwise_cons.2 hp⟩
theorem strip_mem (x : Int) : ∀ (L : List Int) (least : Int), x ∈ L → x < (strip least L).1 ∨ x ∈ (strip least L).2
  | [], _, h => by simp at h
  | n :: L, least, h => by
    unfold strip
    by_cases e : n = least
    · rw [if_pos e]
      rcases List.mem_cons.1 h with rfl | h
      · left
        have hge : ∀ (L : List Int) (b : Int), b ≤ (strip b L).1 := by
          intro L
          induction L with
          | nil => intro b; simp [strip]
          | cons m L ih =>
            intro b
            unfold strip
            by_cases e2 : m = b
            · rw [if_pos e2]; have := ih (b + 1); omega
            · rw [if_neg e2]; exact Int.le_refl _
        have := hge L (least + 1)
        omega
      · exact strip_mem x L (least + 1) h
    · rw [if_neg e]
      exact .inr h
theorem seen_right {least n : Int} {l : List Int} (h : Right least l) (h1 : least ≤ n) (h2 : n ≤ least + 64) (h3 : n ≤ 1000000000) (h4 : n ∉ l) : Right (seenS least l n).1 (seenS least l n).2 :=
  strip_right _ _ h.1 h.2.1 (ins_pair n l h.2.2.2.2 h4) fun x hx => by
    rcases (ins_mem n x l).1 hx with rfl | hx
    · exact ⟨h1, h2, h3⟩
    · have := h.2.2.2.1 x hx; omega
theorem seen_mem (least n : Int) (l : List Int) : n < (seenS least l n).1 ∨ n ∈ (seenS least l n).2 := strip_mem n _ least ((ins_mem n n l).2 (.inl rfl))
/-- opening what was signed -/
theorem open_signed {key least n : Int} {l : List Int} {body : List UInt8} (h : signC key n body.length = 0) : openC key least l (signL key n body) = if n < least ∨ n ∈ l then 7 else if least + 64 < n then 11 else 0 := by
  obtain ⟨⟨-, hc⟩, hb⟩ : (keyB key = true ∧ ctrB n = true) ∧ bodS body.length = 0 := by
    unfold signC at h
    split at h
    · rename_i hh; exact ⟨hh, h⟩
    · simp at h
  unfold ctrB at hc
  simp only [decide_eq_true_eq] at hc
  have hb2 : 1 ≤ body.length ∧ body.length ≤ 200 := by
    unfold bodS at hb
    split at hb
    · simp at hb
    · split at hb
      · simp at hb
      · omega
  obtain ⟨m, hm⟩ : ∃ m : Nat, n = (m : Int) := ⟨n.toNat, by omega⟩
  subst hm
  unfold signL
  rw [u64_nat m (by omega)]
  have he8 : (bigE m 8).length = 8 := bigE_len m 8
  generalize hP : bigE m 8 ++ body = P
  have hPl : P.length = body.length + 8 := by rw [← hP]; simp; omega
  have hl : (P ++ bigE (sgN key P) 8).length = P.length + 8 := by simp [bigE_len]
  unfold openC
  rw [hl, show P.length + 8 - 8 = P.length by omega, List.drop_left, List.take_left]
  have ht8 : (P ++ bigE (sgN key P) 8).take 8 = bigE m 8 := by
    rw [← hP, List.append_assoc]
    conv => lhs; rw [← he8]
    exact List.take_left
  rw [ht8, bigN_bigE 8 m (by omega)]
  rw [if_neg (by omega), if_neg (by omega), if_pos rfl, if_pos (by omega)]
end Go.Proofs.Yteikggieekhfkaa
