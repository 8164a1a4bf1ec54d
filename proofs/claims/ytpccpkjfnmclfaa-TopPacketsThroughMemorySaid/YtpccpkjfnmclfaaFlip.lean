/- plain facts: what Read gives of a packet's bytes, and of these with one byte changed. -/
import Derived.Test.YtpccpkjfnmclfaaBytes
import Derived.Test.YtpccpkjfnmclfaaRead
namespace Go.Proofs.Ytpccpkjfnmclfaa
open Go.RowKit

theorem xor_cancel {a b c : Nat} (h : a ^^^ c = b ^^^ c) : a = b := by
  have := congrArg (· ^^^ c) h
  simpa [Nat.xor_assoc] using this
theorem xor_zero {a b : Nat} (h : a ^^^ b = 0) : a = b := by
  have := congrArg (· ^^^ b) h
  simpa [Nat.xor_assoc] using this
theorem Crc.rnd_zero (x : Nat) (h : x < 65536) (hz : Crc.rnd x = 0) : x = 0 := by
  unfold Crc.rnd at hz
  split at hz
  · have : 2 * x % 65536 = 4129 := xor_zero hz
    omega
  · omega
theorem Crc.rnd_inj {a b : Nat} (ha : a < 65536) (hb : b < 65536) (h : Crc.rnd a = Crc.rnd b) : a = b := by
  have := Crc.rnd_xor a b ha hb
  rw [h, Nat.xor_self] at this
  exact xor_zero (Crc.rnd_zero _ (Crc.xlt ha hb) this)
theorem Crc.rnd8_inj {a b : Nat} (ha : a < 65536) (hb : b < 65536) (h : Crc.rnd8 a = Crc.rnd8 b) : a = b := by
  unfold Crc.rnd8 at h
  have h := Crc.rnd_inj (Crc.rnd_lt _) (Crc.rnd_lt _) h
  have h := Crc.rnd_inj (Crc.rnd_lt _) (Crc.rnd_lt _) h
  have h := Crc.rnd_inj (Crc.rnd_lt _) (Crc.rnd_lt _) h
  have h := Crc.rnd_inj (Crc.rnd_lt _) (Crc.rnd_lt _) h
  have h := Crc.rnd_inj (Crc.rnd_lt _) (Crc.rnd_lt _) h
  have h := Crc.rnd_inj (Crc.rnd_lt _) (Crc.rnd_lt _) h
  have h := Crc.rnd_inj (Crc.rnd_lt _) (Crc.rnd_lt _) h
  exact Crc.rnd_inj ha hb h
theorem fast_inj {s t c : Nat} (hs : s < 65536) (ht : t < 65536) (hc : c < 256) (h : Crc.fast s c = Crc.fast t c) : s = t := by
  rw [Crc.fast_eq s c hs hc, Crc.fast_eq t c ht hc] at h
  exact xor_cancel (Crc.rnd8_inj (Crc.xlt hs (by omega)) (Crc.xlt ht (by omega)) h)
theorem fast_injc {s c d : Nat} (hs : s < 65536) (hc : c < 256) (hd : d < 256) (h : Crc.fast s c = Crc.fast s d) : c = d := by
  rw [Crc.fast_eq s c hs hc, Crc.fast_eq s d hs hd] at h
  have := Crc.rnd8_inj (Crc.xlt hs (by omega)) (Crc.xlt hs (by omega)) h
  rw [Nat.xor_comm s, Nat.xor_comm s] at this
  have := xor_cancel this
  omega
theorem fold_inj (l : List UInt8) : ∀ {s t : Nat}, s < 65536 → t < 65536 → s ≠ t → l.foldl (fun s c => Crc.fast s c.toNat) s ≠ l.foldl (fun s c => Crc.fast s c.toNat) t := by
  induction l with
  | nil => intro s t _ _ h; exact h
  | cons c l ih =>
    intro s t hs ht h
    exact ih (Crc.fast_lt _ _ c.toNat_lt hs) (Crc.fast_lt _ _ c.toNat_lt ht) (fun e => h (fast_inj hs ht c.toNat_lt e))
theorem fold_set (y : UInt8) (l : List UInt8) : ∀ (i : Nat) (hi : i < l.length) (s : Nat), s < 65536 → y ≠ l[i] → (l.set i y).foldl (fun s c => Crc.fast s c.toNat) s ≠ l.foldl (fun s c => Crc.fast s c.toNat) s := by
  induction l with
  | nil => intro i hi; simp at hi
  | cons c l ih =>
    intro i hi s hs hy
    match i with
    | 0 =>
      simp only [List.set_cons_zero, List.foldl_cons]
      refine fold_inj l (Crc.fast_lt _ _ y.toNat_lt hs) (Crc.fast_lt _ _ c.toNat_lt hs) (fun e => hy ?_)
      have := fast_injc hs y.toNat_lt c.toNat_lt e
      exact UInt8.toNat_inj.1 this
    | i + 1 =>
      simp only [List.set_cons_succ, List.foldl_cons]
      exact ih i (by simpa using hi) _ (Crc.fast_lt _ _ c.toNat_lt hs) (by simpa using hy)
theorem crcN_set (l : List UInt8) (i : Nat) (hi : i < l.length) (y : UInt8) (hy : y ≠ l[i]) : crcN (l.set i y) ≠ crcN l := fold_set y l i hi 65535 (by omega) hy

theorem val2_set (l : List UInt8) (hl : l.length = 2) (i : Nat) (hi : i < l.length) (y : UInt8) (hy : y ≠ l[i]) : val2 (l.set i y) ≠ val2 l := by
  match l, hl with
  | [a, b], _ =>
    have h1 : y.toNat < 256 := y.toNat_lt
    have h2 : a.toNat < 256 := a.toNat_lt
    have h3 : b.toNat < 256 := b.toNat_lt
    match i, hi with
    | 0, _ =>
      have : y.toNat ≠ a.toNat := fun e => hy (UInt8.toNat_inj.1 e)
      simp [val2]
      omega
    | 1, _ =>
      have : y.toNat ≠ b.toNat := fun e => hy (UInt8.toNat_inj.1 e)
      simp [val2]
      omega
theorem intact_set (l : List UInt8) (h2 : 2 ≤ l.length) (h : intactB l = true) (i : Nat) (hi : i < l.length) (y : UInt8) (hy : y ≠ l[i]) : intactB (l.set i y) = false := by
  unfold intactB at h ⊢
  simp only [decide_eq_true_eq] at h
  simp only [decide_eq_false_iff_not, List.length_set]
  by_cases hc : i < l.length - 2
  · rw [List.take_set, List.drop_set_of_lt hc, ← h]
    exact crcN_set _ i (by simp; omega) y (by simpa using hy)
  · rw [List.take_set_of_le (by omega), h, List.drop_set, if_neg hc]
    intro e
    exact val2_set (l.drop (l.length - 2)) (by simp; omega) (i - (l.length - 2)) (by simp; omega) y (by simpa [show l.length - 2 + (i - (l.length - 2)) = i by omega] using hy) e.symm

theorem val2_two (n : Nat) (h : n < 65536) (r : List UInt8) : val2 (two n ++ r) = n := by
  simp [two, val2]
  omega
theorem intact_pBytes (s : Nat) (cm : Bool) (pt nm : Nat) (l : List UInt8) : intactB (pBytes s cm pt nm l) = true := by
  unfold intactB
  have hl := pBytes_len s cm pt nm l
  have hh := pHead_len s cm pt nm l
  have e1 : (pBytes s cm pt nm l).take ((pBytes s cm pt nm l).length - 2) = pHead s cm pt nm l := by
    rw [hl]; unfold pBytes; exact List.take_left' (by omega)
  have e2 : (pBytes s cm pt nm l).drop ((pBytes s cm pt nm l).length - 2) = two (crcN (pHead s cm pt nm l)) := by
    rw [hl]; unfold pBytes; exact List.drop_left' (by omega)
  rw [e1, e2]
  have := val2_two (crcN (pHead s cm pt nm l)) (crcN_lt _) []
  rw [List.append_nil] at this
  simp [this]

def kindOf (s : Nat) (cm : Bool) : Nat := if cm then s + 4096 else s
theorem kind_lt (s : Nat) (cm : Bool) (h : s ≤ 2047) : kindOf s cm ≤ 6143 := by unfold kindOf; split <;> omega
theorem kind_bad : ∀ s : Fin 2048, ∀ cm : Bool, (bits .andNot .i64 ((kindOf s.val cm : Nat) : Int) 6143 != 0) = false := by decide +kernel
theorem kind_cm : ∀ s : Fin 2048, ∀ cm : Bool, (bits .and .i64 ((kindOf s.val cm : Nat) : Int) 4096 != 0) = cm := by decide +kernel
theorem kind_s : ∀ s : Fin 2048, ∀ cm : Bool, bits .and .i64 ((kindOf s.val cm : Nat) : Int) 2047 = ((s.val : Nat) : Int) := by decide +kernel
theorem num_nm (pt nm : Nat) (h1 : pt ≤ 3) (h2 : nm ≤ 16383) : bits .and .i64 ((pt * 16384 + nm : Nat) : Int) 16383 = (nm : Int) := by
  have := and64 (pt * 16384 + nm) 16383 (by omega) (by omega)
  rw [show (pt * 16384 + nm) &&& 16383 = (pt * 16384 + nm) % 16384 from Nat.and_two_pow_sub_one_eq_mod _ 14] at this
  rw [show ((16383 : Nat) : Int) = 16383 by rfl] at this
  rw [this]
  omega

theorem pBytes_eq (s : Nat) (cm : Bool) (pt nm : Nat) (l : List UInt8) : ∃ r, pBytes s cm pt nm l = two (kindOf s cm) ++ (two (pt * 16384 + nm) ++ (two (l.length + 1) ++ (l ++ two r))) := by
  refine ⟨crcN (pHead s cm pt nm l), ?_⟩
  unfold pBytes
  generalize crcN (pHead s cm pt nm l) = C
  simp [pHead, kindOf]

/-- Read of a packet's bytes, whatever stands behind, is the packet. -/
theorem readP_bytes (s : Nat) (cm : Bool) (pt nm : Nat) (l more : List UInt8) (h1 : s ≤ 2047) (h2 : pt ≤ 3) (h3 : nm ≤ 16383) (h4 : 1 ≤ l.length) (h5 : l.length ≤ 1000) :
    readP (pBytes s cm pt nm l ++ more) = ⟨s, cm, pt, nm, l, 8 + l.length, 0⟩ := by
  obtain ⟨r, hr⟩ := pBytes_eq s cm pt nm l
  have hlen := pBytes_len s cm pt nm l
  have hi := intact_pBytes s cm pt nm l
  have k := kind_lt s cm h1
  have d0 : val2 (pBytes s cm pt nm l ++ more) = kindOf s cm := by rw [hr]; simp only [List.append_assoc]; exact val2_two _ (by omega) _
  have d2 : val2 ((pBytes s cm pt nm l ++ more).drop 2) = pt * 16384 + nm := by
    rw [hr]; simp only [List.append_assoc]
    rw [List.drop_left' (two_len _)]
    exact val2_two _ (by omega) _
  have d4 : val2 ((pBytes s cm pt nm l ++ more).drop 4) = l.length + 1 := by
    rw [hr]; simp only [List.append_assoc]
    rw [show 4 = 2 + 2 from rfl, ← List.drop_drop, List.drop_left' (two_len _), List.drop_left' (two_len _)]
    exact val2_two _ (by omega) _
  have d6 : ((pBytes s cm pt nm l ++ more).drop 6).take l.length = l := by
    rw [hr]; simp only [List.append_assoc]
    rw [show 6 = 2 + 2 + 2 from rfl, ← List.drop_drop, ← List.drop_drop, List.drop_left' (two_len _), List.drop_left' (two_len _), List.drop_left' (two_len _)]
    exact List.take_left' rfl
  have hb : rpBody (pBytes s cm pt nm l ++ more) = (l.length : Int) := by unfold rpBody; rw [d4]; omega
  have hq : rpBad (pBytes s cm pt nm l ++ more) = false := by unfold rpBad; rw [d0]; exact kind_bad ⟨s, by omega⟩ cm
  have ht : (pBytes s cm pt nm l ++ more).take (8 + l.length) = pBytes s cm pt nm l := List.take_left' (by omega)
  unfold readP
  rw [if_neg (by simp; omega), if_neg (by rw [hq, hb]; simp; omega), if_neg (by rw [hb]; simp; omega), if_neg (by rw [hb]; simp [ht, hi])]
  rw [hb, d0, d2]
  have e1 := kind_s ⟨s, by omega⟩ cm
  have e2 := kind_cm ⟨s, by omega⟩ cm
  have e3 := num_nm pt nm h2 h3
  simp only at e1 e2
  rw [e1, e2, e3]
  simp only [Int.toNat_natCast, d6]
  congr 1
  omega

/-- With one byte behind the first six changed they are damaged. -/
theorem readP_flip (s : Nat) (cm : Bool) (pt nm : Nat) (l : List UInt8) (h1 : s ≤ 2047) (h4 : 1 ≤ l.length) (h5 : l.length ≤ 1000)
    (i : Nat) (hi : i < (pBytes s cm pt nm l).length) (h6 : 6 ≤ i) (y : UInt8) (hy : y ≠ (pBytes s cm pt nm l)[i]) :
    readP ((pBytes s cm pt nm l).set i y) = badRead 15 := by
  have hlen := pBytes_len s cm pt nm l
  have hin := intact_set _ (by omega) (intact_pBytes s cm pt nm l) i hi y hy
  have first : ∀ (m : List UInt8) (j : Nat), 2 ≤ j → val2 (m.set j y) = val2 m := by
    intro m j hj
    match j, hj with
    | j + 2, _ =>
      match m with
      | [] => rfl
      | [a] => rfl
      | a :: b :: r => rfl
  obtain ⟨r, hr⟩ := pBytes_eq s cm pt nm l
  have k := kind_lt s cm h1
  have d0 : val2 ((pBytes s cm pt nm l).set i y) = kindOf s cm := by rw [first _ _ (by omega), hr]; exact val2_two _ (by omega) _
  have d4 : val2 (((pBytes s cm pt nm l).set i y).drop 4) = l.length + 1 := by
    rw [List.drop_set, if_neg (by omega), first _ _ (by omega), hr]
    rw [show 4 = 2 + 2 from rfl, ← List.drop_drop, List.drop_left' (two_len _), List.drop_left' (two_len _)]
    exact val2_two _ (by omega) _
  have hb : rpBody ((pBytes s cm pt nm l).set i y) = (l.length : Int) := by unfold rpBody; rw [d4]; omega
  have hq : rpBad ((pBytes s cm pt nm l).set i y) = false := by unfold rpBad; rw [d0]; exact kind_bad ⟨s, by omega⟩ cm
  have ht : ((pBytes s cm pt nm l).set i y).take (8 + l.length) = (pBytes s cm pt nm l).set i y := List.take_of_length_le (by simp; omega)
  unfold readP
  rw [if_neg (by simp; omega), if_neg (by rw [hq, hb]; simp; omega), if_neg (by rw [hb]; simp; omega), if_pos (by rw [hb]; simp [ht, hin])]
end Go.Proofs.Ytpccpkjfnmclfaa
