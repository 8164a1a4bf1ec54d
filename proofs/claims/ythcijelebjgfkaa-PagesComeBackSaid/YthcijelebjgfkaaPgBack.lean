/- a page comes back; with one byte changed it is never whole: plain mathematics. -/
import Derived.Test.YthcijelebjgfkaaPgDec2
import Derived.Laws.BitsAllLaws
namespace Go.Proofs.Ythcijelebjgfkaa
open Go.RowKit

/-- bytes with a bit turned, counted from the first byte's highest -/
def turned (d : List UInt8) (t : Nat) : List UInt8 := d.set (t / 8) (d.getD (t / 8) 0 ^^^ UInt8.ofNat (128 / 2 ^ (t % 8)))
theorem turned_len (d : List UInt8) (t : Nat) : (turned d t).length = d.length := by simp [turned]
theorem turned_is (d : List UInt8) (t : Nat) (h : t / 8 < d.length) : turned d t = d.set (t / 8) (d[t / 8] ^^^ UInt8.ofNat (128 / 2 ^ (t % 8))) := by
  unfold turned
  have e : d.getD (t / 8) 0 = d[t / 8] := by simp [List.getD, h]
  rw [e]
theorem turn_byte (a : UInt8) (k : Nat) (_hk : k < 8) : bits .xor .u8 (a.toNat : Int) (128 / 2 ^ k) = ((a ^^^ UInt8.ofNat (128 / 2 ^ k)).toNat : Int) := by
  have ha := a.toNat_lt
  have e1 : ((128 : Int) / 2 ^ k) = ((128 / 2 ^ k : Nat) : Int) := by
    rw [Int.natCast_ediv, Int.natCast_pow]; rfl
  have hb : 128 / 2 ^ k < 256 := Nat.lt_of_le_of_lt (Nat.div_le_self _ _) (by omega)
  rw [e1, UInt8.toNat_xor]
  have e2 : (UInt8.ofNat (128 / 2 ^ k)).toNat = 128 / 2 ^ k := by
    have : (UInt8.ofNat (128 / 2 ^ k)).toNat = 128 / 2 ^ k % 256 := UInt8.toNat_ofNat'
    rw [this]; exact Nat.mod_eq_of_lt hb
  rw [e2]
  exact u8_xor_nat _ _ (by omega) hb

theorem xor_cancel {a b c : Nat} (h : a ^^^ c = b ^^^ c) : a = b := by
  have := congrArg (· ^^^ c) h
  simpa [Nat.xor_assoc] using this
theorem xor_zero {a b : Nat} (h : a ^^^ b = 0) : a = b := by
  have := congrArg (· ^^^ b) h
  simpa [Nat.xor_assoc] using this
theorem Crc.rnd_zero (x : Nat) (h : x < 65536) (hz : Crc.rnd x = 0) : x = 0 := by
  unfold Crc.rnd at hz
  split at hz
  · have : 2 * x % 65536 = 4129 := xor_zero hz
    omega
  · omega
theorem Crc.rnd_inj {a b : Nat} (ha : a < 65536) (hb : b < 65536) (h : Crc.rnd a = Crc.rnd b) : a = b := by
  have := Crc.rnd_xor a b ha hb
  rw [h, Nat.xor_self] at this
  exact xor_zero (Crc.rnd_zero _ (Crc.xlt ha hb) this)
theorem Crc.rnd8_inj {a b : Nat} (ha : a < 65536) (hb : b < 65536) (h : Crc.rnd8 a = Crc.rnd8 b) : a = b := by
  unfold Crc.rnd8 at h
  have h := Crc.rnd_inj (Crc.rnd_lt _) (Crc.rnd_lt _) h
  have h := Crc.rnd_inj (Crc.rnd_lt _) (Crc.rnd_lt _) h
  have h := Crc.rnd_inj (Crc.rnd_lt _) (Crc.rnd_lt _) h
  have h := Crc.rnd_inj (Crc.rnd_lt _) (Crc.rnd_lt _) h
  have h := Crc.rnd_inj (Crc.rnd_lt _) (Crc.rnd_lt _) h
  have h := Crc.rnd_inj (Crc.rnd_lt _) (Crc.rnd_lt _) h
  have h := Crc.rnd_inj (Crc.rnd_lt _) (Crc.rnd_lt _) h
  exact Crc.rnd_inj ha hb h
theorem fast_inj {s t c : Nat} (hs : s < 65536) (ht : t < 65536) (hc : c < 256) (h : Crc.fast s c = Crc.fast t c) : s = t := by
  rw [Crc.fast_eq s c hs hc, Crc.fast_eq t c ht hc] at h
  exact xor_cancel (Crc.rnd8_inj (Crc.xlt hs (by omega)) (Crc.xlt ht (by omega)) h)
theorem fast_injc {s c d : Nat} (hs : s < 65536) (hc : c < 256) (hd : d < 256) (h : Crc.fast s c = Crc.fast s d) : c = d := by
  rw [Crc.fast_eq s c hs hc, Crc.fast_eq s d hs hd] at h
  have := Crc.rnd8_inj (Crc.xlt hs (by omega)) (Crc.xlt hs (by omega)) h
  rw [Nat.xor_comm s, Nat.xor_comm s] at this
  have := xor_cancel this
  omega
theorem fold_inj (l : List UInt8) : ∀ {s t : Nat}, s < 65536 → t < 65536 → s ≠ t → l.foldl (fun s c => Crc.fast s c.toNat) s ≠ l.foldl (fun s c => Crc.fast s c.toNat) t := by
  induction l with
  | nil => intro s t _ _ h; exact h
  | cons c l ih =>
    intro s t hs ht h
    exact ih (Crc.fast_lt _ _ c.toNat_lt hs) (Crc.fast_lt _ _ c.toNat_lt ht) (fun e => h (fast_inj hs ht c.toNat_lt e))
theorem fold_set (y : UInt8) (l : List UInt8) : ∀ (i : Nat) (hi : i < l.length) (s : Nat), s < 65536 → y ≠ l[i] → (l.set i y).foldl (fun s c => Crc.fast s c.toNat) s ≠ l.foldl (fun s c => Crc.fast s c.toNat) s := by
  induction l with
  | nil => intro i hi; simp at hi
  | cons c l ih =>
    intro i hi s hs hy
    match i with
    | 0 =>
      simp only [List.set_cons_zero, List.foldl_cons]
      refine fold_inj l (Crc.fast_lt _ _ y.toNat_lt hs) (Crc.fast_lt _ _ c.toNat_lt hs) (fun e => hy ?_)
      have := fast_injc hs y.toNat_lt c.toNat_lt e
      exact UInt8.toNat_inj.1 this
    | i + 1 =>
      simp only [List.set_cons_succ, List.foldl_cons]
      exact ih i (by simpa using hi) _ (Crc.fast_lt _ _ c.toNat_lt hs) (by simpa using hy)
theorem crcN_set (l : List UInt8) (i : Nat) (hi : i < l.length) (y : UInt8) (hy : y ≠ l[i]) : crcN (l.set i y) ≠ crcN l := fold_set y l i hi 65535 (by omega) hy
theorem bigE2_inj {a b : Nat} (ha : a < 65536) (hb : b < 65536) (h : bigE a 2 = bigE b 2) : a = b := by
  simp only [bigE] at h
  injection h with h1 h2
  injection h2 with h2 _
  have e1 := congrArg UInt8.toNat h1
  have e2 := congrArg UInt8.toNat h2
  rw [UInt8.toNat_ofNat', UInt8.toNat_ofNat'] at e1 e2
  omega
/-- the sum of a page is right -/
def sumOk (l : List UInt8) : Prop := (l.drop (l.length - 3)).take 2 = bigE (crcN (l.take (l.length - 3))) 2
theorem pg_sum {ps : Nat} {x : Pg} (h : PgOk ps x) : sumOk (pgB ps x) := by
  unfold sumOk
  have hl := pgB_len h
  have hb := pgBody_len h
  rw [hl]
  have e1 : (pgB ps x).take (ps - 3) = pgBody ps x := by unfold pgB; exact List.take_left' hb
  have e2 : (pgB ps x).drop (ps - 3) = bigE (crcN (pgBody ps x)) 2 ++ [165] := by unfold pgB; exact List.drop_left' hb
  rw [e1, e2]
  exact List.take_left' (by rw [bigE_len])
theorem sum_set {l : List UInt8} (hl : 3 ≤ l.length) (h : sumOk l) (i : Nat) (hi : i < l.length - 1) (y : UInt8) (hy : y ≠ l[i]'(by omega)) : ¬ sumOk (l.set i y) := by
  intro hh
  unfold sumOk at h hh
  rw [List.length_set] at hh
  by_cases hc : i < l.length - 3
  · rw [List.drop_set_of_lt hc, h, List.take_set] at hh
    exact crcN_set _ i (by simp; omega) y (by simpa using hy) (bigE2_inj (crcN_lt _) (crcN_lt _) hh).symm
  · rw [List.take_set_of_le (by omega), ← h, List.drop_set, if_neg hc] at hh
    have h3 := congrArg (fun r => r[i - (l.length - 3)]?) hh
    simp only [List.getElem?_take] at h3
    rw [if_pos (by omega), if_pos (by omega), List.getElem?_set_self (by simp; omega), List.getElem?_drop, show l.length - 3 + (i - (l.length - 3)) = i by omega, List.getElem?_eq_getElem (by omega)] at h3
    injection h3 with h3
    exact hy h3
theorem whole_sum {l : List UInt8} (h : wholeB l = true) : sumOk l := by
  unfold wholeB at h
  simp only [Bool.and_eq_true, decide_eq_true_eq] at h
  obtain ⟨_, h2, h3⟩ := h
  have := pg_sum (enc_ok h2)
  rw [h3] at this
  exact this
theorem pg_last {ps : Nat} {x : Pg} (h : PgOk ps x) : (pgB ps x).getD (ps - 1) 0 = 165 := by
  have hb := pgBody_len h
  have hp := h.hp
  unfold pgB
  rw [← List.append_assoc, List.getD_eq_getElem?_getD, List.getElem?_append_right (by rw [List.length_append, bigE_len]; omega), List.length_append, bigE_len, show ps - 1 - ((pgBody ps x).length + 2) = 0 by omega]
  rfl
theorem free_no {l : List UInt8} (k : Nat) (hk : k < l.length) (h : l.getD k 0 ≠ 255) : freeB l = false := by
  unfold freeB
  rw [Bool.eq_false_iff]
  intro ha
  have := List.all_eq_true.1 ha _ (List.getElem_mem hk)
  apply h
  rw [List.getD_eq_getElem?_getD, List.getElem?_eq_getElem hk]
  simpa using this
theorem turn_mark : ∀ k : Fin 8, (165 : UInt8) ^^^ UInt8.ofNat (128 / 2 ^ k.val) ≠ 255 ∧ (165 : UInt8) ^^^ UInt8.ofNat (128 / 2 ^ k.val) ≠ 165 := by decide
theorem mask_no : ∀ k : Fin 8, UInt8.ofNat (128 / 2 ^ k.val) ≠ 0 := by decide
theorem turn_ne (k : Fin 8) (a : UInt8) : a ^^^ UInt8.ofNat (128 / 2 ^ k.val) ≠ a := by
  intro h
  have : UInt8.ofNat (128 / 2 ^ k.val) = 0 := by
    have := congrArg (a ^^^ ·) h
    simpa [← UInt8.xor_assoc] using this
  exact mask_no k this
theorem pg_turned {ps : Nat} {x : Pg} (h : PgOk ps x) (t : Nat) (ht : t < 8 * ps) : (decS (turned (pgB ps x) t)).1 ≠ 4 ∧ (decS (turned (pgB ps x) t)).1 ≠ 1 := by
  have hl := pgB_len h
  have hp := h.hp
  have hi : t / 8 < (pgB ps x).length := by omega
  have hT := turned_is (pgB ps x) t hi
  have hlast := pg_last h
  have hsum := pg_sum h
  have hps : 64 ≤ ps := by omega
  rw [hT]
  generalize hy0 : (pgB ps x)[t / 8] ^^^ UInt8.ofNat (128 / 2 ^ (t % 8)) = y
  have hy : y ≠ (pgB ps x)[t / 8] := by rw [← hy0]; exact turn_ne ⟨t % 8, by omega⟩ _
  unfold decS
  by_cases hm : t / 8 = ps - 1
  · have hv : (pgB ps x)[t / 8] = 165 := by
      rw [← hlast, List.getD_eq_getElem?_getD, ← hm, List.getElem?_eq_getElem hi]; rfl
    have h2 := turn_mark ⟨t % 8, by omega⟩
    rw [hv] at hy0
    simp only at h2
    rw [hy0] at h2
    have hg : ((pgB ps x).set (t / 8) y).getD (ps - 1) 0 = y := by
      rw [List.getD_eq_getElem?_getD, ← hm, List.getElem?_set_self hi]; rfl
    have hf : freeB ((pgB ps x).set (t / 8) y) = false := free_no (ps - 1) (by simp; omega) (by rw [hg]; exact h2.1)
    have hk : markB ((pgB ps x).set (t / 8) y) = false := by
      unfold markB
      rw [List.length_set, hl, hg]
      simpa using h2.2
    rw [hf, hk]
    simp
  · have hg : ((pgB ps x).set (t / 8) y).getD (ps - 1) 0 = 165 := by
      rw [List.getD_eq_getElem?_getD, List.getElem?_set_ne hm, ← List.getD_eq_getElem?_getD]; exact hlast
    have hf : freeB ((pgB ps x).set (t / 8) y) = false := free_no (ps - 1) (by simp; omega) (by rw [hg]; decide)
    have hk : markB ((pgB ps x).set (t / 8) y) = true := by
      unfold markB
      rw [List.length_set, hl, hg]
      rfl
    have hw : wholeB ((pgB ps x).set (t / 8) y) = false := by
      rw [Bool.eq_false_iff]
      intro hh
      exact sum_set (by omega) hsum (t / 8) (by omega) y hy (whole_sum hh)
    rw [hf, hk, hw]
    simp
theorem bigN_bigE4 (G : Nat) (h : G ≤ 4000000000) : bigN (bigE G 4) = G := by
  simp [bigN, bigE]
  omega
theorem bigN_bigE2 (G : Nat) (h : G ≤ 65535) : bigN (bigE G 2) = G := by
  simp [bigN, bigE]
  omega
theorem sb_name (s : ByteArray) : sb s.data.toList = s := by
  cases s
  simp [sb]
theorem pg_form (ps : Nat) (x : Pg) : ∃ r, pgB ps x = bigE x.gen.toNat 4 ++ ([kindU x, UInt8.ofNat x.name.size] ++ (bigE x.ix.toNat 2 ++ (bigE x.bytes.length 2 ++ ([lastU x, 0] ++ (x.name.data.toList ++ (x.bytes ++ r)))))) := by
  refine ⟨List.replicate (ps - 3 - (pgHead x).length) 255 ++ (bigE (crcN (pgBody ps x)) 2 ++ [165]), ?_⟩
  have e : pgB ps x = (pgHead x ++ List.replicate (ps - 3 - (pgHead x).length) 255) ++ (bigE (crcN (pgBody ps x)) 2 ++ [165]) := rfl
  rw [e, List.append_assoc]
  generalize List.replicate (ps - 3 - (pgHead x).length) 255 ++ (bigE (crcN (pgBody ps x)) 2 ++ [165]) = r
  unfold pgHead
  simp only [List.append_assoc]
theorem pg_back {ps : Nat} {x : Pg} (h : PgOk ps x) : decD (pgB ps x) = (4, x, 0) := by
  have hl := pgB_len h
  have hp := h.hp
  obtain ⟨r, hr⟩ := pg_form ps x
  have hn := nmB_len h.hn
  have hns : x.name.data.toList.length = x.name.size := rfl
  have hg := h.hg
  have hi := h.hi
  have hb := h.hl
  have gn : gName (pgB ps x) = x.name.size := by
    rw [hr]
    show (UInt8.ofNat x.name.size).toNat = _
    rw [UInt8.toNat_ofNat']
    omega
  have gm : gMany (pgB ps x) = x.bytes.length := by
    rw [hr]
    show bigN (bigE x.bytes.length 2) = _
    exact bigN_bigE2 _ (by omega)
  have hd12 : (pgB ps x).drop 12 = x.name.data.toList ++ (x.bytes ++ r) := by rw [hr]; rfl
  have hx : guessP (pgB ps x) = x := by
    have e1 : ((bigN ((pgB ps x).take 4) : Nat) : Int) = x.gen := by
      rw [hr]
      show ((bigN (bigE x.gen.toNat 4) : Nat) : Int) = _
      rw [bigN_bigE4 _ (by omega)]
      omega
    have e2 : ((pgB ps x).getD 4 0 == 2) = x.gone := by
      rw [hr]
      show (kindU x == 2) = _
      unfold kindU
      cases x.gone <;> rfl
    have e3 : sb (((pgB ps x).drop 12).take (gName (pgB ps x))) = x.name := by
      rw [gn, hd12, List.take_left' hns]
      exact sb_name _
    have e4 : ((bigN (((pgB ps x).drop 6).take 2) : Nat) : Int) = x.ix := by
      rw [hr]
      show ((bigN (bigE x.ix.toNat 2) : Nat) : Int) = _
      rw [bigN_bigE2 _ (by omega)]
      omega
    have e5 : ((pgB ps x).getD 10 0 == 1) = x.last := by
      rw [hr]
      show (lastU x == 1) = _
      unfold lastU
      cases x.last <;> rfl
    have e6 : ((pgB ps x).drop (12 + gName (pgB ps x))).take (gMany (pgB ps x)) = x.bytes := by
      rw [gn, gm, ← List.drop_drop, hd12, List.drop_left' hns, List.take_left' rfl]
    unfold guessP
    rw [e1, e2, e3, e4, e5, e6]
  have hlast := pg_last h
  have hf : freeB (pgB ps x) = false := free_no (ps - 1) (by omega) (by rw [hlast]; decide)
  have hk : markB (pgB ps x) = true := by
    unfold markB
    rw [hl, hlast]
    rfl
  have hw : wholeB (pgB ps x) = true := by
    unfold wholeB
    rw [hx, gn, gm, hl, decide_eq_true (by omega), decide_eq_true h.enc, decide_eq_true rfl]
    rfl
  unfold decD
  rw [if_pos (by omega)]
  unfold decS
  rw [hf, hk, hw, hx]
  rfl
end Go.Proofs.Ythcijelebjgfkaa
