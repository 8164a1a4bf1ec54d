/- moments, and what thinning leaves of them: plain mathematics. -/
import Derived.Test.YtdcnpbdkhcdinaaSRow
namespace Go.Proofs.Ytdcnpbdkhcdinaa
open Go.RowKit

/-- a moment -/
structure Mo where
  t : Int
  v : Int
  deriving DecidableEq
instance : Inhabited Mo := ⟨⟨0, 0⟩⟩
def Mo.cells (x : Mo) : List Value := [.int .i64 x.t, .int .i64 x.v]
theorem Mo.two (x : Mo) : x.cells.length = 2 := rfl
def moV (x : Mo) : Value := .agg #[.int .i64 x.t, .int .i64 x.v]
def moB (x : Mo) : Bool := decide ((0 ≤ x.t ∧ x.t ≤ 1000000000000) ∧ (-1000000000 ≤ x.v ∧ x.v ≤ 1000000000))
/-- the fault of moments behind a moment -/
def chkM (b : Int) : List Mo → Int
  | [] => 0
  | x :: l => if moB x = true then (if x.t ≤ b then 8 else chkM x.t l) else 1
def momF (l : List Mo) : Int := if 5000 < l.length then 2 else chkM (-1) l
def thinF (l : List Mo) (width : Int) : Int := if momF l = 0 then (if 0 ≤ width ∧ width ≤ 1000000000 then 0 else 1) else momF l
/-- the moment ahead of one -/
def prevT (l : List Mo) (j : Nat) : Int := if j = 0 then -1 else (l.getD (j - 1) default).t
theorem prev_next (l : List Mo) (j : Nat) (hj : j < l.length) : prevT l (j + 1) = l[j].t := by simp [prevT, List.getD, hj]
theorem chk_step (l : List Mo) (j : Nat) (hj : j < l.length) : chkM (prevT l j) (l.drop j) = if moB l[j] = true then (if l[j].t ≤ prevT l j then 8 else chkM (prevT l (j + 1)) (l.drop (j + 1))) else 1 := by
  rw [List.drop_eq_getElem_cons hj, prev_next l j hj]
  rfl
theorem chk_end (l : List Mo) (b : Int) : chkM b (l.drop l.length) = 0 := by simp [chkM]
theorem chk_facts : ∀ (l : List Mo) (b : Int), chkM b l = 0 → (∀ x ∈ l, moB x = true ∧ b < x.t) ∧ l.Pairwise (fun x y => x.t < y.t)
  | [], b, _ => ⟨by simp, .nil⟩
  | x :: l, b, h => by
    unfold chkM at h
    by_cases h1 : moB x = true
    · rw [if_pos h1] at h
      by_cases h2 : x.t ≤ b
      · rw [if_pos h2] at h; simp at h
      · rw [if_neg h2] at h
        obtain ⟨a, c⟩ := chk_facts l x.t h
        refine ⟨fun y hy => ?_, List.pairwise_cons.2 ⟨fun y hy => (a y hy).2, c⟩⟩
        rcases List.mem_cons.1 hy with rfl | hy
        · exact ⟨h1, by omega⟩
        · have := a y hy; exact ⟨this.1, by omega⟩
    · rw [if_neg h1] at h; simp at h
/-- near enough -/
def nearB (width a b : Int) : Bool := decide (-width ≤ a - b ∧ a - b ≤ width)
def thinStep (width : Int) (T : List Mo) (x : Mo) : List Mo := if T = [] then [x] else if nearB width x.v (T.getD (T.length - 1) default).v = true then T else T ++ [x]
def thinL (width : Int) (l : List Mo) : List Mo := l.foldl (thinStep width) []
def thinR (l : List Mo) (width : Int) : List Mo := if thinF l width = 0 then thinL width l else []
theorem thin_next (width : Int) (l : List Mo) (j : Nat) (hj : j < l.length) : thinL width (l.take (j + 1)) = thinStep width (thinL width (l.take j)) l[j] := by
  unfold thinL
  rw [List.take_succ_eq_append_getElem hj, List.foldl_append]
  rfl
theorem thin_len (width : Int) (l : List Mo) : ∀ j, (thinL width (l.take j)).length ≤ j
  | 0 => by simp [thinL]
  | j + 1 => by
    by_cases hj : j < l.length
    · rw [thin_next width l j hj]
      have := thin_len width l j
      unfold thinStep
      split
      · simp
      · split
        · omega
        · simp; omega
    · have e : l.take (j + 1) = l.take j := by rw [List.take_of_length_le (by omega), List.take_of_length_le (by omega)]
      rw [e]
      have := thin_len width l j
      omega
/-- the number of moments that are left of the first ones -/
def thinN (width : Int) (l : List Mo) (j : Nat) : Nat := (thinL width (l.take j)).length
theorem thin_pre (width : Int) (l : List Mo) (j : Nat) (hj : j < l.length) : ∃ s, thinL width (l.take (j + 1)) = thinL width (l.take j) ++ s := by
  rw [thin_next width l j hj]
  unfold thinStep
  split
  · rename_i h; exact ⟨[l[j]], by rw [h]; rfl⟩
  · split
    · exact ⟨[], by simp⟩
    · exact ⟨_, rfl⟩
theorem thin_prefix (width : Int) (l : List Mo) (j : Nat) : ∀ d, ∃ s, thinL width (l.take (j + d)) = thinL width (l.take j) ++ s
  | 0 => ⟨[], by simp⟩
  | d + 1 => by
    obtain ⟨s, hs⟩ := thin_prefix width l j d
    by_cases h : j + d < l.length
    · obtain ⟨s', hs'⟩ := thin_pre width l (j + d) h
      exact ⟨s ++ s', by rw [← Nat.add_assoc, hs', hs, List.append_assoc]⟩
    · exact ⟨s, by rw [← hs, List.take_of_length_le (by omega), List.take_of_length_le (by omega)]⟩
theorem thin_mem (width : Int) (l : List Mo) : ∀ j, ∀ x ∈ thinL width (l.take j), x ∈ l.take j
  | 0 => by simp [thinL]
  | j + 1 => by
    intro x hx
    by_cases hj : j < l.length
    · rw [thin_next width l j hj] at hx
      rw [List.take_succ_eq_append_getElem hj]
      unfold thinStep at hx
      split at hx
      · obtain rfl := List.mem_singleton.1 hx
        exact List.mem_append.2 (.inr (List.mem_singleton.2 rfl))
      · split at hx
        · exact List.mem_append.2 (.inl (thin_mem width l j x hx))
        · rcases List.mem_append.1 hx with hx | hx
          · exact List.mem_append.2 (.inl (thin_mem width l j x hx))
          · obtain rfl := List.mem_singleton.1 hx
            exact List.mem_append.2 (.inr (List.mem_singleton.2 rfl))
    · have e : l.take (j + 1) = l.take j := by rw [List.take_of_length_le (by omega), List.take_of_length_le (by omega)]
      rw [e] at hx ⊢
      exact thin_mem width l j x hx
/-- what was told last is near -/
theorem thin_near (width : Int) (hw : 0 ≤ width) (l : List Mo) (j : Nat) (hj : j < l.length) :
    0 < thinN width l (j + 1) ∧ nearB width l[j].v ((thinL width l).getD (thinN width l (j + 1) - 1) default).v = true := by
  unfold thinN
  obtain ⟨s, hs⟩ := thin_prefix width l (j + 1) (l.length - (j + 1))
  rw [show j + 1 + (l.length - (j + 1)) = l.length by omega, List.take_length] at hs
  rw [hs, thin_next width l j hj]
  generalize thinL width (l.take j) = T
  generalize l[j] = x
  unfold thinStep
  by_cases h : T = []
  · rw [if_pos h]
    refine ⟨by simp, ?_⟩
    simp [nearB]
    omega
  · rw [if_neg h]
    have hl : 0 < T.length := List.length_pos_iff.2 h
    by_cases h2 : nearB width x.v (T.getD (T.length - 1) default).v = true
    · rw [if_pos h2]
      refine ⟨hl, ?_⟩
      rw [show (T ++ s).getD (T.length - 1) default = T.getD (T.length - 1) default by
        simp only [List.getD]
        rw [List.getElem?_append_left (by omega)]]
      exact h2
    · rw [if_neg h2]
      refine ⟨by simp, ?_⟩
      rw [show ((T ++ [x]) ++ s).getD ((T ++ [x]).length - 1) default = x by
        simp only [List.getD]
        rw [List.getElem?_append_left (by simp)]
        simp]
      simp [nearB]
      omega
/-- what the law's second counter does: all that was told among the first j + 1 moments has a time that is not later than the moment's, what is told behind is later -/
theorem thin_times (width : Int) (l : List Mo) (hp : l.Pairwise (fun x y => x.t < y.t)) (j : Nat) (hj : j < l.length) (k : Nat) (hk : k < (thinL width l).length) : (thinL width l)[k].t ≤ l[j].t ↔ k < thinN width l (j + 1) := by
  unfold thinN
  obtain ⟨s, hs⟩ := thin_prefix width l (j + 1) (l.length - (j + 1))
  rw [show j + 1 + (l.length - (j + 1)) = l.length by omega, List.take_length] at hs
  have hmono : ∀ x ∈ l.take (j + 1), x.t ≤ l[j].t := by
    intro x hx
    obtain ⟨i, hi, rfl⟩ := List.getElem_of_mem hx
    simp at hi
    rw [List.getElem_take]
    by_cases e : i = j
    · subst e; exact Int.le_refl _
    · exact Int.le_of_lt (List.pairwise_iff_getElem.1 hp i j (by omega) hj (by omega))
  constructor
  · intro h
    refine Nat.lt_of_not_le fun hle => ?_
    -- k lies in s: a moment told later
    have : ∀ d, (thinL width (l.take (j + 1 + d))).length ≤ (thinL width (l.take (j + 1))).length ∨ True := fun _ => .inr trivial
    clear this
    have key : ∀ d i (hi : i < (thinL width (l.take (j + 1 + d))).length), (thinL width (l.take (j + 1))).length ≤ i → l[j].t < (thinL width (l.take (j + 1 + d)))[i].t := by
      intro d
      induction d with
      | zero => intro i hi hge; simp at hi hge; omega
      | succ d ih =>
        intro i hi hge
        by_cases hlt : j + 1 + d < l.length
        · have hn := thin_next width l (j + 1 + d) hlt
          have e : j + 1 + (d + 1) = j + 1 + d + 1 := by omega
          simp only [e] at hi ⊢
          simp only [hn] at hi ⊢
          generalize thinL width (l.take (j + 1 + d)) = T at *
          have hx : l[j].t < (l[j + 1 + d]).t := List.pairwise_iff_getElem.1 hp j (j + 1 + d) hj hlt (by omega)
          by_cases h1 : T = []
          · simp only [thinStep, if_pos h1] at hi ⊢
            have : i = 0 := by simp at hi; omega
            subst this
            exact hx
          · by_cases h2 : nearB width l[j + 1 + d].v (T.getD (T.length - 1) default).v = true
            · simp only [thinStep, if_neg h1, if_pos h2] at hi ⊢
              exact ih i hi hge
            · simp only [thinStep, if_neg h1, if_neg h2] at hi ⊢
              by_cases h3 : i < T.length
              · rw [List.getElem_append_left h3]
                exact ih i h3 hge
              · have : i = T.length := by simp at hi; omega
                subst this
                simp
                exact hx
        · have e : l.take (j + 1 + (d + 1)) = l.take (j + 1 + d) := by rw [List.take_of_length_le (by omega), List.take_of_length_le (by omega)]
          simp only [e] at hi ⊢
          exact ih i hi hge
    have hk2 := key (l.length - (j + 1)) k (by rw [show j + 1 + (l.length - (j + 1)) = l.length by omega, List.take_length]; exact hk) hle
    simp only [show j + 1 + (l.length - (j + 1)) = l.length by omega, List.take_length] at hk2
    omega
  · intro h
    have : (thinL width l)[k] ∈ l.take (j + 1) := by
      simp only [hs]
      rw [List.getElem_append_left h]
      exact thin_mem width l (j + 1) _ (List.getElem_mem h)
    exact hmono _ this
end Go.Proofs.Ytdcnpbdkhcdinaa
