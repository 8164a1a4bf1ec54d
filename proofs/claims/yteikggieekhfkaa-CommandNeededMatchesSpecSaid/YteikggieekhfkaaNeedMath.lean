/- what Needed answers doesn't hang on what was taken. -/
import Derived.Test.YteikggieekhfkaaNeedP
namespace Go.Proofs.Yteikggieekhfkaa
open Go.RowKit

def noTk (x : LS) : LS := ⟨x.b, x.f, x.s, x.q, x.wd, x.st, []⟩
theorem send_noTk (x : LS) (lost : Bool) : noTk (sendS (noTk x) lost).1 = noTk (sendS x lost).1 ∧ (sendS (noTk x) lost).2 = (sendS x lost).2 := by
  have hn : noNext (noTk x) = noNext x := rfl
  unfold sendS
  by_cases h : noNext x
  · rw [if_pos h, if_pos (by rw [hn]; exact h)]
    exact ⟨rfl, rfl⟩
  · rw [if_neg h, if_neg (by rw [hn]; exact h)]
    by_cases hl : lost = true
    · rw [if_pos hl, if_pos hl]
      exact ⟨rfl, rfl⟩
    · rw [if_neg hl, if_neg hl]
      by_cases hk : 1000000 < (plainS x.b (numOf x)).1.k
      · rw [if_pos hk, if_pos (show 1000000 < (plainS (noTk x).b (numOf (noTk x))).1.k from hk)]
        exact ⟨rfl, rfl⟩
      · rw [if_neg hk, if_neg (show ¬ 1000000 < (plainS (noTk x).b (numOf (noTk x))).1.k from hk)]
        exact ⟨rfl, rfl⟩
theorem rest_noTk (x : LS) (t : Bt) : noTk (restS (noTk x) t) = noTk (restS x t) := by
  unfold restS
  split <;> rfl
theorem beat_noTk (x : LS) (t : Bt) : noTk (beatS (noTk x) t).1 = noTk (beatS x t).1 ∧ (beatS (noTk x) t).2 = (beatS x t).2 := by
  obtain ⟨h1, h2⟩ := send_noTk x t.lost
  have hr : noTk (restS (sendS (noTk x) t.lost).1 t) = noTk (restS (sendS x t.lost).1 t) := by
    rw [← rest_noTk (sendS (noTk x) t.lost).1, h1, rest_noTk]
  unfold beatS
  by_cases hs : t.send = true
  · rw [if_pos hs, if_pos hs, h2]
    by_cases hf : (sendS x t.lost).2 ≠ 0
    · rw [if_pos hf, if_pos hf]
      exact ⟨h1, h2⟩
    · rw [if_neg hf, if_neg hf]
      exact ⟨hr, rfl⟩
  · rw [if_neg hs, if_neg hs]
    exact ⟨rest_noTk x t, rfl⟩
theorem need_noTk : ∀ (m : Nat) (x : LS) (k : Nat), needS (noTk x) k m = needS x k m
  | 0, x, k => rfl
  | m + 1, x, k => by
    obtain ⟨h1, h2⟩ := beat_noTk x fullB
    unfold needS
    rw [h2, ← need_noTk m (beatS (noTk x) fullB).1, h1, need_noTk m (beatS x fullB).1]
    rfl
theorem brd_zero {n v k : Int} (h : BrdOk n v k) : brdS n v k = 0 := by
  obtain ⟨n0, n1, v0, v1, ev, k0, k1⟩ := h
  unfold brdS
  rw [if_pos ⟨n0, n1⟩, if_pos ev, if_pos ⟨v0, v1⟩, if_pos ⟨k0, k1⟩]
theorem gnd_zero {f s : Int} {q : List (List UInt8)} {wd : Int} (h : GndOk f s q wd) : gndS f s q wd = 0 := by
  obtain ⟨f0, f1, w0, w1, few, bod, s0, s1, s2⟩ := h
  unfold gndS
  rw [if_pos ⟨f0, f1⟩, if_pos ⟨w0, w1⟩, if_neg (by omega), if_pos (bods_all q fun i hi => bod _ (List.getElem_mem hi)), if_pos ⟨s0, by omega⟩]
theorem runC_full {x : LS} (h : LOk x) : runC x.b.n x.b.v x.b.k x.f (x.s : Int) x.q x.wd [fullB] = 0 := by
  unfold runC bothS
  rw [if_pos (brd_zero h.b), gnd_zero h.g, if_pos rfl, if_neg (by simp), if_pos (by rfl)]
theorem runR_full (x : LS) : runR x 0 [fullB] = if (beatS x fullB).2 ≠ 0 then (zeroLS, (beatS x fullB).2) else ((beatS x fullB).1, 0) := by
  have h : runS x [fullB] = if (beatS x fullB).2 ≠ 0 then beatS x fullB else ((beatS x fullB).1, 0) := rfl
  unfold runR
  rw [if_neg (by simp), h]
  by_cases hf : (beatS x fullB).2 ≠ 0
  · rw [if_pos hf, if_pos hf, if_pos hf]
  · rw [if_neg hf, if_neg hf, if_neg (by simp)]
end Go.Proofs.Yteikggieekhfkaa
