/- signed commands with counters, one behind the other: which of them are opened: plain mathematics. -/
import Derived.Test.YteikggieekhfkaaAllM
namespace Go.Proofs.Yteikggieekhfkaa
open Go.RowKit

theorem ctr_bounds {key n : Int} {m : Nat} (h : signC key n m = 0) : (0 ≤ n ∧ n ≤ 1000000000) ∧ m ≤ 200 := by
  unfold signC at h
  split at h
  · rename_i hh
    have := hh.2
    unfold ctrB at this
    simp only [decide_eq_true_eq] at this
    exact ⟨this, bodS_le h⟩
  · simp at h
theorem ctr_parts {key least n : Int} {l : List Int} {body : List UInt8} (h : signC key n body.length = 0) (h0 : openC key least l (signL key n body) = 0) : openN key least l (signL key n body) = n := by
  obtain ⟨hc, hb⟩ := ctr_bounds h
  obtain ⟨m, hm⟩ : ∃ m : Nat, n = (m : Int) := ⟨n.toNat, by omega⟩
  unfold openN
  rw [if_pos h0]
  subst hm
  unfold signL
  rw [u64_nat m (by omega)]
  have he8 : (bigE m 8).length = 8 := bigE_len m 8
  generalize hP : bigE m 8 ++ body = P
  have ht8 : (P ++ bigE (sgN key P) 8).take 8 = bigE m 8 := by
    rw [← hP, List.append_assoc]
    conv => lhs; rw [← he8]
    exact List.take_left
  rw [ht8, bigN_bigE 8 m (by omega)]
theorem strip_ge : ∀ (L : List Int) (b : Int), b ≤ (strip b L).1
  | [], b => by simp [strip]
  | m :: L, b => by
    unfold strip
    by_cases e2 : m = b
    · rw [if_pos e2]; have := strip_ge L (b + 1); omega
    · rw [if_neg e2]; exact Int.le_refl _
theorem seen_keep {least n x : Int} {l : List Int} (h : x < least ∨ x ∈ l) : x < (seenS least l n).1 ∨ x ∈ (seenS least l n).2 := by
  unfold seenS
  rcases h with h | h
  · exact .inl (by have := strip_ge (insL l (place l n) n) least; omega)
  · exact strip_mem x _ least ((ins_mem n x l).2 (.inr h))
/-- the body of a counter -/
def ctB (m : Int) : List UInt8 := [1, UInt8.ofNat (m % 256).toNat]
/-- the counter of a number -/
def ctN (least n : Int) : Int := least + n % 128
/-- the counters that are signed -/
def ownF (least : Int) (cs : List Int) : List Int := (cs.map (ctN least)).filter ctrB
theorem own_next (least : Int) (cs : List Int) (j : Nat) (hj : j < cs.length) : ownF least (cs.take (j + 1)) = ownF least (cs.take j) ++ (if ctrB (ctN least cs[j]) = true then [ctN least cs[j]] else []) := by
  unfold ownF
  rw [List.take_succ_eq_append_getElem hj, List.map_append, List.filter_append]
  congr 1
  by_cases h : ctrB (ctN least cs[j]) = true <;> simp [h]
theorem own_len (least : Int) (cs : List Int) (j : Nat) : (ownF least (cs.take j)).length ≤ j := by
  unfold ownF
  refine Nat.le_trans (List.length_filter_le _ _) ?_
  simp
  omega
theorem own_ctr {least : Int} {cs : List Int} {m : Int} (h : m ∈ ownF least cs) : ctrB m = true := (List.mem_filter.1 h).2
theorem sign_ok {key m : Int} (hk : keyB key = true) (h : ctrB m = true) : signC key m (ctB m).length = 0 := by
  unfold signC
  rw [if_pos ⟨hk, h⟩]
  rfl
theorem sign_no {key m : Int} (h : ¬ ctrB m = true) : signC key m (ctB m).length = 1 := by
  unfold signC
  rw [if_neg (fun e => h e.2)]
/-- the signed commands -/
def sgL (key : Int) (own : List Int) : List (List UInt8) := own.map fun m => signL key m (ctB m)
/-- keys, bodies, faults behind so many -/
def ctS (key least : Int) (l own : List Int) (j : Nat) : OA := oaAll key least l ((sgL key own).take j)
/-- the fault of one -/
def ctF (key least : Int) (l own : List Int) (j : Nat) : Int := openC key (ctS key least l own j).least (ctS key least l own j).seen ((sgL key own).getD j [])
/-- the counters that were opened -/
def ctO (key least : Int) (l own : List Int) (j : Nat) : List Int := ((List.range j).filter fun i => ctF key least l own i = 0).map fun i => own.getD i 0
theorem ctS_next (key least : Int) (l own : List Int) (j : Nat) (hj : j < own.length) : ctS key least l own (j + 1) = oaStep key (ctS key least l own j) (signL key own[j] (ctB own[j])) := by
  unfold ctS
  have h : j < (sgL key own).length := by unfold sgL; simpa using hj
  rw [oa_next key least l _ j h]
  congr 1
  simp [sgL]
theorem ctF_eq (key least : Int) (l own : List Int) (j : Nat) (hj : j < own.length) : ctF key least l own j = openC key (ctS key least l own j).least (ctS key least l own j).seen (signL key own[j] (ctB own[j])) := by
  unfold ctF
  congr 1
  simp [sgL, List.getD, hj]
theorem ctO_next (key least : Int) (l own : List Int) (j : Nat) (hj : j < own.length) : ctO key least l own (j + 1) = ctO key least l own j ++ (if ctF key least l own j = 0 then [own[j]] else []) := by
  unfold ctO
  rw [List.range_succ, List.filter_append, List.map_append]
  congr 1
  by_cases h : ctF key least l own j = 0 <;> simp [h, List.getD, hj]
theorem step_faults (key : Int) (s : OA) (b : List UInt8) : (oaStep key s b).faults = s.faults ++ [openC key s.least s.seen b] := by
  by_cases h : openC key s.least s.seen b = 0
  · rw [oa_good h, h]
  · rw [oa_bad h]
theorem ct_faults (key least : Int) (l own : List Int) : ∀ j, j ≤ own.length → (ctS key least l own j).faults = (List.range j).map (ctF key least l own)
  | 0, _ => rfl
  | j + 1, hj => by
    rw [ctS_next key least l own j (by omega), step_faults, ct_faults key least l own j (by omega), List.range_succ, List.map_append, ← ctF_eq key least l own j (by omega)]
    rfl
theorem ct_inv (key least : Int) (l own : List Int) (hk : keyB key = true) (ho : ∀ m ∈ own, ctrB m = true) : ∀ j, j ≤ own.length →
    (∀ x, x ∈ ctO key least l own j ∨ x ∈ l → x < (ctS key least l own j).least ∨ x ∈ (ctS key least l own j).seen) ∧ (ctS key least l own j).bodies.length = (ctO key least l own j).length
  | 0, _ => ⟨fun x h => by
      rcases h with h | h
      · simp [ctO] at h
      · exact .inr h, rfl⟩
  | j + 1, hj => by
    obtain ⟨ih1, ih2⟩ := ct_inv key least l own hk ho j (by omega)
    have hlt : j < own.length := by omega
    have hs := sign_ok hk (ho _ (List.getElem_mem hlt))
    rw [ctS_next key least l own j hlt, ctO_next key least l own j hlt, ctF_eq key least l own j hlt]
    generalize ctS key least l own j = s at *
    generalize ctO key least l own j = O at *
    generalize own[j] = m at *
    by_cases hc : openC key s.least s.seen (signL key m (ctB m)) = 0
    · rw [oa_good hc, if_pos hc, ctr_parts hs hc]
      refine ⟨fun x h => ?_, by simp [ih2]⟩
      by_cases hx : x = m
      · subst hx; exact seen_mem _ _ _
      · refine seen_keep (ih1 x ?_)
        rcases h with h | h
        · rcases List.mem_append.1 h with h | h
          · exact .inl h
          · exact absurd (List.mem_singleton.1 h) hx
        · exact .inr h
    · rw [oa_bad hc, if_neg hc, List.append_nil]
      exact ⟨ih1, ih2⟩
/-- a counter that is opened was not opened before -/
theorem ct_new {key least : Int} {l own : List Int} (hk : keyB key = true) (ho : ∀ m ∈ own, ctrB m = true) (j : Nat) (hj : j < own.length) (h : ctF key least l own j = 0) : own[j] ∉ ctO key least l own j ∧ own[j] ∉ l := by
  obtain ⟨ih1, -⟩ := ct_inv key least l own hk ho j (by omega)
  have hs := sign_ok hk (ho _ (List.getElem_mem hj))
  rw [ctF_eq key least l own j hj, open_signed hs] at h
  have hn : ¬ (own[j] < (ctS key least l own j).least ∨ own[j] ∈ (ctS key least l own j).seen) := fun e => by rw [if_pos e] at h; simp at h
  exact ⟨fun e => hn (ih1 _ (.inl e)), fun e => hn (ih1 _ (.inr e))⟩
theorem ct_all (key least : Int) (l own : List Int) : oaAll key least l (sgL key own) = ctS key least l own own.length := by
  unfold ctS
  rw [List.take_of_length_le (by simp [sgL])]
theorem ctO_len (key least : Int) (l own : List Int) (j : Nat) : (ctO key least l own j).length ≤ j := by
  unfold ctO
  rw [List.length_map]
  exact Nat.le_trans (List.length_filter_le _ _) (by simp)
end Go.Proofs.Yteikggieekhfkaa
