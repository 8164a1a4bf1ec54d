/- plain mathematics of packets that are kept in words, of each of which one bit can flip. -/
import Derived.Test.YtpccpkjfnmclfaaKeepMath
import Derived.Test.YtpccpkjfnmclfaaBase
namespace Go.Proofs.Ytpccpkjfnmclfaa

theorem dec_code (n : Nat) (hn : n < 65536) : decS ((codeN n : Nat) : Int) = ((n : Int), 0, 0) := by
  have hl := code_lt n
  unfold decS
  rw [if_pos ⟨by omega, by omega⟩, Int.toNat_natCast]
  unfold decN
  rw [kind_code]
  simp [code_gather n hn]
theorem dec_one (n a : Nat) (hn : n < 65536) (ha : a < 22) : decS ((codeN n ^^^ 2 ^ a : Nat) : Int) = ((n : Int), 1, 0) := by
  have hl := flip_lt (codeN n) a ha (code_lt n)
  unfold decS
  rw [if_pos ⟨by omega, by omega⟩, Int.toNat_natCast]
  unfold decN
  rw [kind_flip n a ha]
  simp [flip_flip, code_gather n hn]
/-- the first k words of bytes, two each -/
def wordsT (E : List UInt8) : Nat → List Nat
  | 0 => []
  | k + 1 => wordsT E k ++ [256 * (E.getD (2 * k) 0).toNat + (E.getD (2 * k + 1) 0).toNat]
theorem wordsT_len (E : List UInt8) : ∀ k, (wordsT E k).length = k
  | 0 => rfl
  | k + 1 => by simp [wordsT, wordsT_len E k]
theorem wordsT_get (E : List UInt8) : ∀ k i (h : i < (wordsT E k).length), (wordsT E k)[i] = 256 * (E.getD (2 * i) 0).toNat + (E.getD (2 * i + 1) 0).toNat
  | 0, i, h => by simp [wordsT] at h
  | k + 1, i, h => by
    rw [wordsT_len] at h
    have hl := wordsT_len E k
    by_cases hi : i < k
    · have : (wordsT E (k + 1))[i]'(by rw [wordsT_len]; exact h) = (wordsT E k)[i]'(by rw [hl]; exact hi) := by
        simp only [wordsT]
        rw [List.getElem_append_left (by rw [hl]; exact hi)]
      rw [this]
      exact wordsT_get E k i _
    · obtain rfl : i = k := by omega
      simp only [wordsT]
      rw [List.getElem_append_right (by rw [hl]; exact Nat.le_refl _)]
      simp
theorem wordsT_lt (E : List UInt8) (k : Nat) : ∀ x ∈ wordsT E k, x < 65536 := by
  intro x hx
  obtain ⟨i, hi, rfl⟩ := List.getElem_of_mem hx
  rw [wordsT_get E k i hi]
  have h1 := (E.getD (2 * i) 0).toNat_lt
  have h2 := (E.getD (2 * i + 1) 0).toNat_lt
  omega
theorem take_two (E : List UInt8) (k : Nat) (h : 2 * k + 1 < E.length) : E.take (2 * (k + 1)) = E.take (2 * k) ++ [E.getD (2 * k) 0, E.getD (2 * k + 1) 0] := by
  rw [show 2 * (k + 1) = 2 * k + 1 + 1 by omega, List.take_succ_eq_append_getElem h, List.take_succ_eq_append_getElem (by omega), List.append_assoc]
  simp [List.getD, h, show 2 * k < E.length by omega]
theorem near_snoc {ws C : List Nat} {w c : Nat} (h : Near1 ws C) (hc : c = codeN w ∨ ∃ a, a < 22 ∧ c = codeN w ^^^ 2 ^ a) : Near1 (ws ++ [w]) (C ++ [c]) := by
  obtain ⟨hl, hn⟩ := h
  refine ⟨by simp [hl], fun i h1 h2 => ?_⟩
  by_cases hi : i < C.length
  · rw [List.getElem_append_left hi, List.getElem_append_left (by omega)]
    exact hn i hi (by omega)
  · obtain rfl : i = C.length := by simp at h1; omega
    rw [List.getElem_append_right (by omega), List.getElem_append_right (by omega)]
    simpa [hl] using hc
theorem near_step {ws : List Nat} {s : St} (t : Nat) (hn : s.next < s.C.length) (h : Near1 ws s.C) : Near1 ws (stepS t s).C := by
  obtain ⟨hl, hc⟩ := h
  refine ⟨by simp [stepS, hl], fun i h1 h2 => ?_⟩
  simp only [stepS]
  rw [List.getElem_set]
  split
  · rename_i e
    subst e
    have e2 : s.C.getD s.next 0 = s.C[s.next] := by simp [List.getD, hn]
    rw [e2]
    rcases hc s.next hn h2 with e3 | ⟨a, ha, e3⟩
    · rw [e3, mend_code]; exact .inl rfl
    · rw [e3, mend_flip _ _ ha]; exact .inl rfl
  · exact hc i _ h2
theorem near_scrubs {ws : List Nat} {s : St} {n : Nat} (t : Nat) (hs : s.ok n) (h : Near1 ws s.C) : ∀ k, Near1 ws (scrubT t k s).C
  | 0 => h
  | k + 1 => by
    have := scrub_ok hs (t := t) k
    exact near_step t (by rw [this.len]; exact this.next) (near_scrubs t hs h k)
theorem nats_ints (C : List Nat) : nats (ints C) = C := by
  unfold nats ints
  rw [List.map_map]
  conv => rhs; rw [← List.map_id C]
  rfl
theorem near_right {ws C : List Nat} (h : Near1 ws C) (h0 : 0 < ws.length) (h2 : ws.length ≤ 2000) (hw : ∀ x ∈ ws, x < 65536) : Right (ints C) (ints ws) := by
  refine ⟨by rw [ints_len, h.1]; exact h0, by rw [ints_len, h.1]; exact h2, by rw [ints_len, ints_len, h.1], fun k hk => ?_, fun k hk => ?_⟩
  · have hk' : k < C.length := by rw [ints_len] at hk; exact hk
    have := near_codes h k hk'
    rw [ints_get C k hk']
    omega
  · have hk' : k < ws.length := by rw [ints_len] at hk; exact hk
    have := hw _ (List.getElem_mem hk')
    rw [ints_get ws k hk']
    omega
/-- what scrubbing some of them leaves, and that each word is read -/
theorem near_top {ws C : List Nat} (h : Near1 ws C) (h0 : 0 < ws.length) (h2 : ws.length ≤ 2000) (hw : ∀ x ∈ ws, x < 65536) (m : Nat) (hm : m ≤ 5000) :
    ∃ (C' : List Nat) (D : List Scr), scrubbedS (ints C) (ints ws) 0 (m : Int) = ((ints C', ints ws), D, 0) ∧ C'.length = ws.length ∧ ∀ i (hi : i < ws.length), ∃ q : Int, readS (ints C') (ints ws) (i : Int) = ((ws[i] : Int), q, 0) := by
  have hr := near_right h h0 h2 hw
  have hp : placeS (ints C) (ints ws) 0 = 0 := by
    unfold placeS
    rw [if_pos (right_chk hr), if_pos ⟨by omega, by have := hr.pos; omega⟩]
  have hok : (⟨C, 0, []⟩ : St).ok ws.length := ⟨h.1, h0, near_codes h⟩
  have hn := near_scrubs 0 hok h m
  refine ⟨(scrubT 0 m ⟨C, 0, []⟩).C, (scrubT 0 m ⟨C, 0, []⟩).done, ?_, hn.1, fun i hi => ?_⟩
  · unfold scrubbedS
    rw [if_pos hp, if_pos ⟨by omega, by omega⟩, nats_ints]
    rfl
  · have hr2 := near_right hn h0 h2 hw
    have hi2 : i < (scrubT 0 m ⟨C, 0, []⟩).C.length := by rw [hn.1]; exact hi
    have hwi := hw _ (List.getElem_mem hi)
    unfold readS
    have hp2 : placeS (ints (scrubT 0 m ⟨C, 0, []⟩).C) (ints ws) (i : Int) = 0 := by
      unfold placeS
      rw [if_pos (right_chk hr2), if_pos ⟨by omega, by rw [ints_len, hn.1]; omega⟩]
    rw [if_pos hp2, Int.toNat_natCast]
    have e : (ints (scrubT 0 m ⟨C, 0, []⟩).C).getD i 0 = (((scrubT 0 m ⟨C, 0, []⟩).C[i] : Nat) : Int) := by
      rw [List.getD_eq_getElem?_getD, List.getElem?_eq_getElem (by rw [ints_len]; exact hi2), ints_get _ i hi2]
      rfl
    rw [e]
    rcases hn.2 i hi2 hi with e2 | ⟨a, ha, e2⟩
    · rw [e2, dec_code _ hwi]; exact ⟨0, rfl⟩
    · rw [e2, dec_one _ a hwi ha]; exact ⟨1, rfl⟩
end Go.Proofs.Ytpccpkjfnmclfaa
