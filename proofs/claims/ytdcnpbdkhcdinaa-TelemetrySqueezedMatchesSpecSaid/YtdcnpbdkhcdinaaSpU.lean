/- bytes are what at most one row of values is squeezed to; what Spread answers: plain mathematics. -/
import Derived.Test.YtdcnpbdkhcdinaaSpMath
namespace Go.Proofs.Ytdcnpbdkhcdinaa
open Go.RowKit

theorem read_pos {b : List UInt8} {acc : List Int} {value : Int} {rest : List UInt8} (h : ReadSo b acc value rest) {l : List Int} (hl : GoodB l b) (hmore : acc.length < l.length) (hm : rest.take 2 = [128, 0]) : 0 < (unG 5 (rest.drop 2)).1 := by
  obtain ⟨j, hj, rfl, hr, hv⟩ := h l hl
  obtain ⟨a, c, e⟩ := good_parts hl
  have hjl : j < l.length := by simp at hmore; omega
  have hd : l.drop j = l[j] :: l.drop (j + 1) := List.drop_eq_getElem_cons hjl
  by_cases h3 : 3 ≤ sameN value (l.drop j)
  · rw [sqz_row h3] at hr
    have hs := same_le value (l.drop j)
    have hr2 : rest.drop 2 = grpN (sameN value (l.drop j)) ++ sqz value ((l.drop j).drop (sameN value (l.drop j))) := by rw [hr]; rfl
    have hM : sameN value (l.drop j) < 128 ^ 5 := by simp at hs; omega
    rw [hr2, unG_grp 5 _ _ hM (by omega)]
    show 0 < sameN value (l.drop j)
    omega
  · rw [hd] at hr h3
    rw [sqz_one h3] at hr
    exact absurd (by rw [← hr]; exact hm) (grp_mark _ _)
theorem good_unique {b : List UInt8} {l l' : List Int} (h : GoodB l b) (h' : GoodB l' b) : l = l' := by
  have hlen : ∀ q, GoodB q b → q.length = l.length := fun q hq => (good_many hq).symm.trans (good_many h)
  have key : ∀ d acc value rest, l.length - acc.length ≤ d → ReadSo b acc value rest → l = l' := by
    intro d
    induction d with
    | zero =>
      intro acc value rest hd hs
      have hm : ∀ q, GoodB q b → q.length ≤ acc.length := fun q hq => by rw [hlen q hq]; omega
      exact (read_end hs hm l h).symm.trans (read_end hs hm l' h')
    | succ d ih =>
      intro acc value rest hd hs
      by_cases hm : acc.length < l.length
      · by_cases ht : rest.take 2 = [128, 0]
        · have hp := read_pos hs h hm ht
          have := read_row hs ht (unG 5 (rest.drop 2)).1 (unG 5 (rest.drop 2)).2 rfl
          exact ih _ _ _ (by simp; omega) this
        · have := read_one hs ht (fun q hq => by rw [hlen q hq]; exact hm) (unG 5 rest).1 (unG 5 rest).2 rfl
          exact ih _ _ _ (by simp; omega) this
      · exact ih acc value rest (by omega) hs
  exact key l.length [] 0 (b.drop 2) (by omega) read_begin
open Classical in
/-- the fault of Spread -/
noncomputable def spF (b : List UInt8) : Int := if 30000 < b.length then 2 else if ∃ l, GoodB l b then 0 else 3
open Classical in
/-- the values of Spread -/
noncomputable def spR (b : List UInt8) : List Int := if h : ∃ l, GoodB l b then h.choose else []
theorem sp_good {b : List UInt8} {l : List Int} (h : GoodB l b) : spF b = 0 ∧ spR b = l := by
  have hl := good_len h
  have he : ∃ l, GoodB l b := ⟨l, h⟩
  refine ⟨by unfold spF; rw [if_neg (by omega), if_pos he], ?_⟩
  unfold spR
  rw [dif_pos he]
  exact good_unique he.choose_spec h
theorem sp_none {b : List UInt8} (h : ∀ l, ¬ GoodB l b) : spF b = (if 30000 < b.length then 2 else 3) ∧ spR b = [] := by
  have he : ¬ ∃ l, GoodB l b := fun ⟨l, hl⟩ => h l hl
  refine ⟨?_, by unfold spR; rw [dif_neg he]⟩
  unfold spF
  rw [if_neg he]
theorem sp_zero {b : List UInt8} (h : spF b = 0) : GoodB (spR b) b := by
  unfold spF at h
  split at h
  · simp at h
  · split at h
    · rename_i he
      obtain ⟨l, hl⟩ := he
      rw [(sp_good hl).2]
      exact hl
    · simp at h
end Go.Proofs.Ytdcnpbdkhcdinaa
