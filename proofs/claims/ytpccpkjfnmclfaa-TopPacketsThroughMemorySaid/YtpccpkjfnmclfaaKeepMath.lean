/- with one flip at most between twoV rounds through all codes nothing is lost: plain mathematics. -/
import Derived.Test.YtpccpkjfnmclfaaSlowMath
import Derived.Test.YtpccpkjfnmclfaaPlay
namespace Go.Proofs.Ytpccpkjfnmclfaa

/-- the i-th flip, put between twoV rounds -/
def mkF (E n i : Nat) (x : Flp) : Flp := ⟨((E * i : Nat) : Int) + 1 + x.t % (E : Int), x.p % (n : Int), 1 + x.b % 22⟩
instance flpZero : Inhabited Flp := ⟨⟨0, 0, 0⟩⟩
/-- the first k flips so -/
def someT (l : List Flp) (E n : Nat) : Nat → List Flp
  | 0 => []
  | k + 1 => someT l E n k ++ [mkF E n k (l.getD k default)]
theorem someT_len (l : List Flp) (E n : Nat) : ∀ k, (someT l E n k).length = k
  | 0 => rfl
  | k + 1 => by simp [someT, someT_len l E n k]
theorem someT_get (l : List Flp) (E n : Nat) : ∀ k i (h : i < k), (someT l E n k)[i]'(by rw [someT_len]; exact h) = mkF E n i (l.getD i default)
  | k + 1, i, h => by
    simp only [someT]
    by_cases e : i < k
    · rw [List.getElem_append_left (by rw [someT_len]; exact e)]
      exact someT_get l E n k i e
    · obtain rfl : i = k := by omega
      rw [List.getElem_append_right (by rw [someT_len]; omega)]
      simp [someT_len]
theorem mkF_t {E n i : Nat} (x : Flp) (hE : 1 ≤ E) : ((E * i : Nat) : Int) + 1 ≤ (mkF E n i x).t ∧ (mkF E n i x).t ≤ ((E * (i + 1) : Nat) : Int) := by
  have h1 : 0 ≤ x.t % (E : Int) := Int.emod_nonneg _ (by omega)
  have h2 : x.t % (E : Int) < (E : Int) := Int.emod_lt_of_pos _ (by omega)
  have e : E * (i + 1) = E * i + E := Nat.mul_succ _ _
  simp only [mkF]
  rw [e]
  generalize E * i = z at *
  omega
theorem mkF_ok {E n i : Nat} (x : Flp) (hE : 1 ≤ E) (hE2 : E ≤ 20) (hi : i < 50) (hn : 1 ≤ n) : (mkF E n i x).ok n := by
  have h := mkF_t (n := n) (i := i) x hE
  have e : E * (i + 1) ≤ 20 * 50 := Nat.mul_le_mul hE2 (by omega)
  have h3 : 0 ≤ x.p % (n : Int) := Int.emod_nonneg _ (by omega)
  have h4 : x.p % (n : Int) < (n : Int) := Int.emod_lt_of_pos _ (by omega)
  refine ⟨⟨?_, ?_⟩, ⟨by simp only [mkF]; exact h3, by simp only [mkF]; omega⟩, ⟨by simp only [mkF]; omega, by simp only [mkF]; omega⟩⟩
  · have : (0 : Int) ≤ ((E * i : Nat) : Int) := Int.natCast_nonneg _
    omega
  · generalize E * (i + 1) = z at *
    omega
section
variable {l : List Flp} {E n K : Nat} (hE : 1 ≤ E) (hE2 : E ≤ 20) (hK : K ≤ 50) (hn : 1 ≤ n)
include hE hE2 hK hn
theorem some_ok : ∀ x ∈ someT l E n K, x.ok n := by
  intro x hx
  obtain ⟨i, hi, rfl⟩ := List.mem_iff_getElem.1 hx
  have hi' : i < K := by rw [someT_len] at hi; exact hi
  rw [someT_get l E n K i hi']
  exact mkF_ok _ hE hE2 (by omega) hn
theorem some_flips : ∀ m k, K - k = m → ∀ u : Int, u ≤ ((E * k : Nat) : Int) + 1 → flipsF n u ((someT l E n K).drop k) = 0
  | 0, k, h, u, _ => by
    rw [List.drop_eq_nil_of_le (by rw [someT_len]; omega)]
    rfl
  | m + 1, k, h, u, hu => by
    have hk : k < (someT l E n K).length := by rw [someT_len]; omega
    rw [List.drop_eq_getElem_cons hk]
    have hg := someT_get l E n K k (by omega)
    have ht := mkF_t (n := n) (i := k) (l.getD k default) hE
    have ho := mkF_ok (n := n) (i := k) (l.getD k default) hE hE2 (by omega) hn
    have ih := some_flips m (k + 1) (by omega) (mkF E n k (l.getD k default)).t (by omega)
    rw [hg]
    unfold flipsF
    rw [if_pos ho.1, if_pos ho.2.1, if_pos ho.2.2, if_neg (by omega)]
    exact ih
/-- the flips up to a moment between twoV rounds -/
theorem some_upto (j : Nat) (u : Int) (hu : u ≤ ((E * (j + 1) : Nat) : Int)) (C : List Nat) :
    flipU u C ((someT l E n K).drop j) = (C, (someT l E n K).drop j) ∨
    ∃ x : Flp, x.ok n ∧ flipU u C ((someT l E n K).drop j) = (flipC C x, (someT l E n K).drop (j + 1)) := by
  have hstop : ∀ C, flipU u C ((someT l E n K).drop (j + 1)) = (C, (someT l E n K).drop (j + 1)) := fun C => flipU_here fun hk => by
    have hk' : j + 1 < K := by rw [someT_len] at hk; exact hk
    rw [someT_get l E n K (j + 1) hk']
    have := mkF_t (n := n) (i := j + 1) (l.getD (j + 1) default) hE
    omega
  by_cases hj : j < K
  · have hg := someT_get l E n K j hj
    by_cases ht : (mkF E n j (l.getD j default)).t ≤ u
    · refine .inr ⟨mkF E n j (l.getD j default), mkF_ok _ hE hE2 (by omega) hn, ?_⟩
      rw [flipU_next (by rw [someT_len]; exact hj) (by rw [hg]; exact ht), hg]
      exact hstop _
    · exact .inl (flipU_here fun hk => by rw [hg]; exact ht)
  · exact .inl (flipU_here fun hk => by rw [someT_len] at hk; omega)
/-- at the moment of a round -/
theorem some_at (j : Nat) (C : List Nat) : ∃ C', flipU ((E * (j + 1) : Nat) : Int) C ((someT l E n K).drop j) = (C', (someT l E n K).drop (j + 1)) ∧ (C' = C ∨ ∃ x : Flp, x.ok n ∧ C' = flipC C x) := by
  have hstop : ∀ C, flipU ((E * (j + 1) : Nat) : Int) C ((someT l E n K).drop (j + 1)) = (C, (someT l E n K).drop (j + 1)) := fun C => flipU_here fun hk => by
    have hk' : j + 1 < K := by rw [someT_len] at hk; exact hk
    rw [someT_get l E n K (j + 1) hk']
    have := mkF_t (n := n) (i := j + 1) (l.getD (j + 1) default) hE
    omega
  by_cases hj : j < K
  · have hg := someT_get l E n K j hj
    have ht := (mkF_t (n := n) (i := j) (l.getD j default) hE).2
    refine ⟨_, ?_, .inr ⟨mkF E n j (l.getD j default), mkF_ok _ hE hE2 (by omega) hn, rfl⟩⟩
    rw [flipU_next (by rw [someT_len]; exact hj) (by rw [hg]; exact ht), hg]
    exact hstop _
  · refine ⟨C, ?_, .inl rfl⟩
    rw [List.drop_eq_nil_of_le (by rw [someT_len]; omega), List.drop_eq_nil_of_le (by rw [someT_len]; omega)]
    rfl
end
theorem scrub_when (t : Nat) (C : List Nat) (x : Nat) (D : List Scr) : ∀ k, (scrubT t k ⟨C, x, D⟩).C = (scrubT 0 k ⟨C, x, []⟩).C ∧ (scrubT t k ⟨C, x, D⟩).next = (scrubT 0 k ⟨C, x, []⟩).next
  | 0 => ⟨rfl, rfl⟩
  | k + 1 => by
    obtain ⟨h1, h2⟩ := scrub_when t C x D k
    simp only [scrubT, stepS, h1, h2]
    exact ⟨trivial, trivial⟩
theorem scrub_walk (C : List Nat) : ∀ k, C ≠ [] → (scrubT 0 k ⟨C, 0, []⟩).next = k % C.length ∧ (scrubT 0 k ⟨C, 0, []⟩).C.length = C.length
  | 0, _ => by simp [scrubT]
  | k + 1, h => by
    obtain ⟨h1, h2⟩ := scrub_walk C k h
    simp only [scrubT, stepS, h1, h2, List.length_set]
    exact ⟨by rw [Nat.mod_add_mod], trivial⟩
theorem mend_code (w : Nat) : mend (codeN w) = codeN w := by unfold mend; rw [kind_code]; simp
theorem mend_flip (w a : Nat) (h : a < 22) : mend (codeN w ^^^ 2 ^ a) = codeN w := by unfold mend; rw [kind_flip w a h]; simp [flip_flip]
/-- codes of words, one bit of one of them flipped or none -/
def Near1 (ws C : List Nat) : Prop := C.length = ws.length ∧ ∀ i (h : i < C.length) (h' : i < ws.length), C[i] = codeN ws[i] ∨ ∃ a, a < 22 ∧ C[i] = codeN ws[i] ^^^ 2 ^ a
theorem near_zero (ws : List Nat) : Near1 ws (ws.map codeN) := ⟨by simp, fun i h h' => .inl (by simp)⟩
theorem near_one {ws : List Nat} {x : Flp} (hx : x.ok ws.length) : Near1 ws (flipC (ws.map codeN) x) := by
  obtain ⟨-, hp, hb⟩ := hx
  refine ⟨by simp [flipC], fun i h h' => ?_⟩
  simp only [flipC]
  rw [List.getElem_set]
  split
  · rename_i e
    refine .inr ⟨x.b.toNat - 1, by omega, ?_⟩
    rw [e]
    simp [List.getD, h']
  · exact .inl (by simp)
theorem near_codes {ws C : List Nat} (h : Near1 ws C) : ∀ k (hk : k < C.length), C[k] < 4194304 := by
  intro k hk
  obtain ⟨hl, hc⟩ := h
  rcases hc k hk (by omega) with e | ⟨a, ha, e⟩
  · rw [e]; exact code_lt _
  · rw [e]; exact flip_lt _ _ ha (code_lt _)
theorem near_scrub {ws C : List Nat} (h : Near1 ws C) (hpos : ws ≠ []) (t : Nat) (D : List Scr) : (scrubT t ws.length ⟨C, 0, D⟩).C = ws.map codeN ∧ (scrubT t ws.length ⟨C, 0, D⟩).next = 0 := by
  have hw : 0 < ws.length := List.length_pos_iff.2 hpos
  have hC : C ≠ [] := by intro e; subst e; have := h.1; simp at this; omega
  obtain ⟨h1, h2⟩ := scrub_when t C 0 D ws.length
  obtain ⟨h3, h4⟩ := scrub_walk C ws.length hC
  have hok : (⟨C, 0, []⟩ : St).ok ws.length := ⟨h.1, hw, near_codes h⟩
  refine ⟨?_, ?_⟩
  · rw [h1]
    apply List.ext_getElem
    · rw [h4, h.1]; simp
    · intro i i1 i2
      have hi : i < ws.length := by simpa using i2
      have := scrub_at h.1 hw hok ws.length i hi
      rw [this, if_pos (Nat.mod_lt _ hw)]
      have hiC : i < C.length := by rw [h.1]; exact hi
      rw [List.getElem_map]
      rcases h.2 i hiC hi with e | ⟨a, ha, e⟩
      · rw [e]; exact mend_code _
      · rw [e]; exact mend_flip _ _ ha
  · rw [h2, h3, h.1, Nat.mod_self]
theorem near_reads1 {ws C : List Nat} (h : Near1 ws C) (hw : ∀ w ∈ ws, w < 65536) : ∀ k, k ≤ ws.length → readsT (ints C) (ints ws) k = true
  | 0, _ => rfl
  | k + 1, hk => by
    have ih := near_reads1 h hw k (by omega)
    have hkC : k < C.length := by rw [h.1]; omega
    have hwk := hw ws[k] (List.getElem_mem _)
    have g1 : (ints C).getD k 0 = ((C[k] : Nat) : Int) := by
      have := ints_get C k hkC
      simp [List.getD, ints_len, hkC, this]
    have g2 : (ints ws).getD k 0 = ((ws[k] : Nat) : Int) := by
      have := ints_get ws k (by omega)
      simp [List.getD, ints_len, show k < ws.length by omega, this]
    unfold readsT
    rw [ih, g1, g2, readP_near _ _ (near_codes h k hkC) hwk]
    unfold nearN
    rcases h.2 k hkC (by omega) with e | ⟨a, ha, e⟩
    · rw [e, Nat.xor_self]; rfl
    · rw [e, Nat.xor_comm, ← Nat.xor_assoc, Nat.xor_self, Nat.zero_xor, pow_and]; rfl
section
variable {l : List Flp} {E K : Nat} {ws : List Nat} (hE : 1 ≤ E) (hE2 : E ≤ 20) (hK : K ≤ 50) (hpos : ws ≠ [])
include hE hE2 hK hpos
theorem keep_run : ∀ j, (runR E ws.length ⟨ws.map codeN, 0, []⟩ (someT l E ws.length K) j).1.C = ws.map codeN ∧ (runR E ws.length ⟨ws.map codeN, 0, []⟩ (someT l E ws.length K) j).1.next = 0 ∧
    (runR E ws.length ⟨ws.map codeN, 0, []⟩ (someT l E ws.length K) j).2 = (someT l E ws.length K).drop j
  | 0 => ⟨rfl, rfl, rfl⟩
  | j + 1 => by
    obtain ⟨h1, h2, h3⟩ := keep_run j
    have hw : 0 < ws.length := List.length_pos_iff.2 hpos
    simp only [runR]
    rw [h1, h2, h3]
    obtain ⟨C', e, hC'⟩ := some_at (l := l) hE hE2 hK hw j (ws.map codeN)
    rw [e]
    have hN : Near1 ws C' := by
      rcases hC' with rfl | ⟨x, hx, rfl⟩
      · exact near_zero ws
      · exact near_one hx
    obtain ⟨g1, g2⟩ := near_scrub hN hpos (E * (j + 1)) (runR E ws.length ⟨ws.map codeN, 0, []⟩ (someT l E ws.length K) j).1.done
    exact ⟨g1, g2, rfl⟩
theorem keep_end (u : Nat) : Near1 ws (runEnd E ws.length u ⟨ws.map codeN, 0, []⟩ (someT l E ws.length K)).C := by
  have hw : 0 < ws.length := List.length_pos_iff.2 hpos
  obtain ⟨h1, h2, h3⟩ := keep_run (l := l) hE hE2 hK hpos (u / E)
  have hlt : (u : Int) ≤ ((E * (u / E + 1) : Nat) : Int) := by
    have h4 := Nat.lt_mul_div_succ u (show 0 < E by omega)
    omega
  simp only [runEnd]
  rw [h1, h3]
  rcases some_upto (l := l) hE hE2 hK hw (u / E) (u : Int) hlt (ws.map codeN) with e | ⟨x, hx, e⟩
  · rw [e]; exact near_zero ws
  · rw [e]; exact near_one hx
theorem keep_all (hw : ∀ w ∈ ws, w < 65536) (hfew : ws.length ≤ 50) (u : Nat) (hu : u ≤ 1001) :
    (roundsS (ints (ws.map codeN)) (ints ws) (E : Int) (ws.length : Int) (someT l E ws.length K) (u : Int)).2.2 = 0 ∧ lostT (roundsS (ints (ws.map codeN)) (ints ws) (E : Int) (ws.length : Int) (someT l E ws.length K) (u : Int)).1.1 (roundsS (ints (ws.map codeN)) (ints ws) (E : Int) (ws.length : Int) (someT l E ws.length K) (u : Int)).1.1.length = [] ∧ wrongT (roundsS (ints (ws.map codeN)) (ints ws) (E : Int) (ws.length : Int) (someT l E ws.length K) (u : Int)).1.1 (roundsS (ints (ws.map codeN)) (ints ws) (E : Int) (ws.length : Int) (someT l E ws.length K) (u : Int)).1.2 (roundsS (ints (ws.map codeN)) (ints ws) (E : Int) (ws.length : Int) (someT l E ws.length K) (u : Int)).1.1.length = [] := by
  have hp : 0 < ws.length := List.length_pos_iff.2 hpos
  have hright : Right (ints (ws.map codeN)) (ints ws) := by
    refine ⟨by rw [ints_len]; simpa using hp, by rw [ints_len]; simp; omega, by rw [ints_len, ints_len]; simp, fun k hk => ?_, fun k hk => ?_⟩
    · have hk' : k < (ws.map codeN).length := by rw [ints_len] at hk; exact hk
      rw [ints_get _ k hk', List.getElem_map]
      have := code_lt (ws[k]'(by simpa using hk'))
      omega
    · have hk' : k < ws.length := by rw [ints_len] at hk; exact hk
      rw [ints_get _ k hk']
      have := hw _ (List.getElem_mem hk')
      omega
  have hchkF : chkF (ints (ws.map codeN)) (ints ws) (someT l E ws.length K) = 0 := by
    unfold chkF
    rw [if_pos (right_chk hright), if_neg (by rw [someT_len]; omega)]
    have := some_flips (l := l) hE hE2 hK hp (K - 0) 0 rfl 0 (by omega)
    rw [List.drop_zero] at this
    rw [ints_len, List.length_map]
    exact this
  have hchk : chkR (ints (ws.map codeN)) (ints ws) (E : Int) (ws.length : Int) (someT l E ws.length K) (u : Int) = 0 := by
    unfold chkR
    rw [if_pos hchkF, if_pos ⟨⟨by omega, by omega⟩, ⟨by omega, by omega⟩, ⟨by omega, by omega⟩⟩]
    have ec : ((u : Int) / (E : Int) * (ws.length : Int)) = ((u / E * ws.length : Nat) : Int) := by simp
    have h1 : u / E * ws.length ≤ 1001 * 50 := Nat.mul_le_mul (Nat.le_trans (Nat.div_le_self _ _) hu) hfew
    rw [ec, if_neg (by omega)]
  have hnat : nats (ints (ws.map codeN)) = ws.map codeN := ints_inj (right_ints hright)
  have hend := keep_end (l := l) hE hE2 hK hpos u
  unfold roundsS
  rw [if_pos hchk]
  simp only [Int.toNat_natCast, hnat]
  have hlen : (ints (runEnd E ws.length u ⟨ws.map codeN, 0, []⟩ (someT l E ws.length K)).C).length = ws.length := by rw [ints_len]; exact hend.1
  rw [hlen]
  exact ⟨trivial, (reads_lost _ _ _).1 (near_reads1 hend hw _ (Nat.le_refl _))⟩
end
end Go.Proofs.Ytpccpkjfnmclfaa
