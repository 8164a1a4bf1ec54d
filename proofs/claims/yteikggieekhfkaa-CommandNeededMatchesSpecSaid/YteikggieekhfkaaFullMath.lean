/- beats that lose nothing take one body each. -/
import Derived.Test.YteikggieekhfkaaOrdMath
namespace Go.Proofs.Yteikggieekhfkaa
open Go.RowKit

def fullB : Bt := ⟨true, false, true, false, 0⟩
/-- both sides behind i full beats -/
def fullS (N0 W wd : Int) (Q : List (List UInt8)) (i : Nat) : LS := ⟨⟨(N0 + (i : Int)) % 256, W, false, false, false, (i : Int)⟩, (N0 + (i : Int)) % 256, 0, Q.drop i, wd, false, Q.take i⟩
theorem full_zero {N0 W wd : Int} {Q : List (List UInt8)} (h0 : 0 ≤ N0) (h1 : N0 ≤ 255) : fullS N0 W wd Q 0 = ⟨⟨N0, W, false, false, false, 0⟩, N0, (0 : Int).toNat, Q, wd, false, []⟩ := by
  unfold fullS
  rw [show (N0 + ((0 : Nat) : Int)) % 256 = N0 by omega]
  rfl
theorem full_beat {N0 W wd : Int} {Q : List (List UInt8)} {i : Nat} (hwd : 1 ≤ wd) (hQ : Q.length ≤ 60) (h : i < Q.length) : beatS (fullS N0 W wd Q i) fullB = (fullS N0 W wd Q (i + 1), 0) := by
  have hs : sendS (fullS N0 W wd Q i) false = (⟨⟨(N0 + ((i + 1 : Nat) : Int)) % 256, W, false, false, false, ((i + 1 : Nat) : Int)⟩, (N0 + (i : Int)) % 256, 1, Q.drop i, wd, false, Q.take (i + 1)⟩, 0) := by
    have hn : ¬ noNext (fullS N0 W wd Q i) := by
      rintro (h' | h' | h')
      · simp [fullS] at h'
      · simp [fullS] at h'
        omega
      · simp [fullS] at h'
        omega
    have hm : numOf (fullS N0 W wd Q i) = (N0 + (i : Int)) % 256 := by unfold numOf fullS; simp only; omega
    have hp : plainS (fullS N0 W wd Q i).b ((N0 + (i : Int)) % 256) = (⟨(N0 + ((i + 1 : Nat) : Int)) % 256, W, false, false, false, ((i + 1 : Nat) : Int)⟩, 1) := by
      unfold plainS fullS
      simp only [if_true, Bool.false_eq_true, if_false]
      rw [show ((N0 + (i : Int)) % 256 + 1) % 256 = (N0 + ((i + 1 : Nat) : Int)) % 256 by omega, show (i : Int) + 1 = ((i + 1 : Nat) : Int) by omega]
    have hb : bodyOf (fullS N0 W wd Q i) = Q[i] := by
      unfold bodyOf fullS
      simp [List.getD, h]
    unfold sendS
    rw [if_neg hn, if_neg (by simp), hm, hp]
    simp only [if_true]
    rw [if_neg (by omega), hb]
    unfold fullS
    simp only
    rw [List.take_succ_eq_append_getElem h]
  have hr : restS ⟨⟨(N0 + ((i + 1 : Nat) : Int)) % 256, W, false, false, false, ((i + 1 : Nat) : Int)⟩, (N0 + (i : Int)) % 256, 1, Q.drop i, wd, false, Q.take (i + 1)⟩ fullB = fullS N0 W wd Q (i + 1) := by
    unfold restS fullB
    simp only [and_self, if_true]
    have ha : aft ((N0 + ((i : Int) + 1)) % 256) ((N0 + (i : Int)) % 256) = 1 := by unfold aft; omega
    have hh : heardS ⟨(N0 + (i : Int)) % 256, ((1 : Nat) : Int), Q.drop i, wd, false⟩ ((N0 + ((i + 1 : Nat) : Int)) % 256) false false = ⟨(N0 + ((i + 1 : Nat) : Int)) % 256, 0, Q.drop (i + 1), wd, false⟩ := by
      unfold heardS hearS
      simp [ha]
    unfold repS roomS
    simp only [show ¬ ((0 : Int) = 1) by omega, show ¬ ((0 : Int) = 2) by omega, if_false]
    rw [hh]
    rfl
  show (if (sendS (fullS N0 W wd Q i) false).2 ≠ 0 then sendS (fullS N0 W wd Q i) false else (restS (sendS (fullS N0 W wd Q i) false).1 fullB, 0)) = _
  rw [hs, if_neg (by simp), hr]
theorem full_run {N0 W wd : Int} {Q : List (List UInt8)} (hwd : 1 ≤ wd) (hQ : Q.length ≤ 60) : ∀ (m i : Nat), i + m ≤ Q.length → runS (fullS N0 W wd Q i) (List.replicate m fullB) = (fullS N0 W wd Q (i + m), 0)
  | 0, i, _ => rfl
  | m + 1, i, h => by
    rw [List.replicate_succ]
    unfold runS
    rw [full_beat hwd hQ (by omega), if_neg (by simp)]
    rw [full_run hwd hQ m (i + 1) (by omega)]
    congr 2
    omega
end Go.Proofs.Yteikggieekhfkaa
