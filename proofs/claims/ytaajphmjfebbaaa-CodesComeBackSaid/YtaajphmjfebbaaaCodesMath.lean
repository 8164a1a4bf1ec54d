/- plain mathematics of codes of times. -/
import Derived.WalkKit
namespace Go.Proofs.Ytaajphmjfebbaaa

/-- how many 65536ths of a second some milliseconds are -/
def partsN (m : Nat) : Nat := m * 65536 / 1000
def millisN (r : Nat) : Nat := (r * 1000 + 65535) / 65536
/-- a code as a number -/
def codeN (t : Nat) : Nat := t / 1000 * 65536 + partsN (t % 1000)
def byteN (n i : Nat) : UInt8 := UInt8.ofNat (n / 256 ^ i)
def codeB (t : Nat) : List UInt8 := [byteN (codeN t) 5, byteN (codeN t) 4, byteN (codeN t) 3, byteN (codeN t) 2, byteN (codeN t) 1, byteN (codeN t) 0]
def valN (l : List UInt8) : Nat := l.foldl (fun s c => s * 256 + c.toNat) 0
/-- what is read of a code: the time and the fault -/
def readC (l : List UInt8) : Int × Int :=
  if l.length ≠ 6 then (0, 3) else
  if partsN (millisN (valN l % 65536)) ≠ valN l % 65536 then (0, 3) else
  if 1000000000000 < valN l / 65536 * 1000 + millisN (valN l % 65536) then (0, 1) else
  (((valN l / 65536 * 1000 + millisN (valN l % 65536) : Nat) : Int), 0)

theorem six (l : List UInt8) (h : l.length = 6) : ∃ a b c d e f, l = [a, b, c, d, e, f] := by
  match l, h with
  | [a, b, c, d, e, f], _ => exact ⟨a, b, c, d, e, f, rfl⟩
theorem valN_six (a b c d e f : UInt8) : valN [a, b, c, d, e, f] = ((((a.toNat * 256 + b.toNat) * 256 + c.toNat) * 256 + d.toNat) * 256 + e.toNat) * 256 + f.toNat := by simp [valN]
theorem codeN_lt (t : Nat) (h : t ≤ 1000000000000) : codeN t < 281474976710656 := by unfold codeN partsN; omega
theorem byteN_toNat (n i : Nat) : (byteN n i).toNat = n / 256 ^ i % 256 := by simp [byteN]
theorem valN_codeB (t : Nat) (h : t ≤ 1000000000000) : valN (codeB t) = codeN t := by
  have := codeN_lt t h
  unfold codeB
  rw [valN_six]
  simp only [byteN_toNat]
  generalize codeN t = n at *
  omega
theorem millis_parts (m : Nat) (h : m < 1000) : millisN (partsN m) = m := by unfold millisN partsN; omega
theorem readC_codeB (t : Nat) (h : t ≤ 1000000000000) : readC (codeB t) = ((t : Int), 0) := by
  unfold readC
  rw [valN_codeB t h]
  have e1 : codeN t % 65536 = partsN (t % 1000) := by
    have : partsN (t % 1000) < 65536 := by unfold partsN; omega
    unfold codeN; omega
  have e2 : codeN t / 65536 = t / 1000 := by
    have : partsN (t % 1000) < 65536 := by unfold partsN; omega
    unfold codeN; omega
  rw [e1, e2, millis_parts _ (by omega)]
  rw [if_neg (by simp [codeB]), if_neg (by simp), if_neg (by omega)]
  congr 1
  omega
theorem codeN_lt_iff (t u : Nat) : codeN t < codeN u ↔ t < u := by
  unfold codeN partsN
  constructor <;> intro h <;> omega
theorem codeB_val (l : List UInt8) (h : l.length = 6) (t : Nat) (ht : codeN t = valN l) (hb : t ≤ 1000000000000) : codeB t = l := by
  obtain ⟨a, b, c, d, e, f, rfl⟩ := six l h
  have hl := codeN_lt t hb
  rw [valN_six] at ht
  have ha := a.toNat_lt; have hb := b.toNat_lt; have hc := c.toNat_lt; have hd := d.toNat_lt; have he := e.toNat_lt; have hf := f.toNat_lt
  unfold codeB
  simp only [List.cons.injEq, and_true]
  simp only [← UInt8.toNat_inj, byteN_toNat]
  rw [ht]
  refine ⟨?_, ?_, ?_, ?_, ?_, ?_⟩ <;> omega
/-- what is read has this code -/
theorem readC_back (l : List UInt8) (n : Int) (h : readC l = (n, 0)) : ∃ t : Nat, n = (t : Int) ∧ t ≤ 1000000000000 ∧ codeB t = l := by
  unfold readC at h
  split at h
  · simp at h
  rename_i h6
  split at h
  · simp at h
  rename_i hp
  split at h
  · simp at h
  rename_i hm
  simp only [Prod.mk.injEq, and_true] at h
  have h6' : l.length = 6 := by omega
  have hp' : partsN (millisN (valN l % 65536)) = valN l % 65536 := by omega
  refine ⟨_, h.symm, by omega, codeB_val l h6' _ ?_ (by omega)⟩
  generalize valN l = N at *
  have hlt : millisN (N % 65536) < 1000 := by
    unfold millisN partsN at *
    omega
  unfold codeN
  rw [show (N / 65536 * 1000 + millisN (N % 65536)) / 1000 = N / 65536 by omega, show (N / 65536 * 1000 + millisN (N % 65536)) % 1000 = millisN (N % 65536) by omega, hp']
  omega
theorem readC_fault (l : List UInt8) (n f : Int) (h : readC l = (n, f)) (hf : f ≠ 0) : n = 0 := by
  unfold readC at h
  repeat' split at h
  all_goals (simp only [Prod.mk.injEq] at h; first | exact h.1.symm | omega)
end Go.Proofs.Ytaajphmjfebbaaa
