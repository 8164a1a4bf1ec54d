/- the program's and the reference's codes. -/
import Derived.Test.YtaajphmjfebbaaaStep
import Derived.Test.YtaajphmjfebbaaaAppend
import Derived.Test.YtaajphmjfebbaaaCodesMath
import Derived.Test.YtaajphmjfebbaaaBigNum
import Derived.Test.YtaajphmjfebbaaaBigApp
import Derived.Laws.BytesString
import Derived.Laws.BytesArg
namespace Go.Proofs.Ytaajphmjfebbaaa
open Go.RowKit

/-- what Code leaves -/
def CodePost (L : List UInt8) (F : Int) (w : World) (e : Ending) (w' : World) : Prop :=
  ∃ v, e = .returned (.tuple #[v, .int .i64 F]) ∧ Own w' w.heap.size v L ∧ Below w.heap.size w w'

set_option maxHeartbeats 400000 in
theorem partsOf_any (m : Nat) (z : Int) (hz : Hid (z = (m : Int))) (hm : m ≤ 1000000000) (w : World) :
    Calls Try.prog 37 #[.int .i64 z] w fun e w' => e = .returned (.int .i64 (partsN m : Nat)) ∧ w = w' := by
  obtain rfl : z = (m : Int) := hz
  go_enter Try.func37, Try.ntmps37
  go_wp2
  go_ret
  exact ⟨ret_int (by unfold partsN; omega), rfl⟩

theorem bigE_code (t : Nat) : bigE (codeN t) 6 = codeB t := by simp [bigE, codeB, byteN]
set_option maxRecDepth 100000 in
set_option maxHeartbeats 400000 in
theorem code_any (t : Nat) (ht : t ≤ 1000000000000) (w : World) :
    Calls Try.prog 20 #[.int .i64 t] w (CodePost (codeB t) 0 w) := by
  have hd : decide ((0 : Int) ≤ (t : Int) ∧ (t : Int) ≤ 1000000000000) = true := by simp; omega
  have ht2 : (t : Int) ≤ 1000000000000 := by omega
  have hN : (t : Int) / 1000 * 65536 + (partsN (t % 1000) : Int) = (codeN t : Int) := by unfold codeN; omega
  have hlt := codeN_lt t ht
  have hp : partsN (t % 1000) ≤ 65536 := by unfold partsN; omega
  have HP := Lib.hid (partsOf_any (t % 1000) ((t : Int) % 1000) (by unfold Hid; omega) (by omega))
  have HA := Lib.hid (append_any w.heap.size (.slice none 0 0) [] (codeN t) 6 w (by omega) (by simp) (Nat.le_refl _) (Own.nil _ _))
  rw [bigE_code, List.nil_append] at HA
  generalize codeB t = L at *
  generalize partsN (t % 1000) = p at *
  generalize codeN t = N at *
  go_enter Try.func20, Try.ntmps20
  go_wp2_with (first | (go_at_call 36; refine (upTo_any _ _ _).mono ?_; rintro e w' ⟨rfl, rfl⟩) | fail)
  refine (HP.out _).mono ?_
  rintro e w' ⟨rfl, rfl⟩
  have HN := Lib.hid hN
  clear hN
  go_wp2_with fail
  simp only [HN.out]
  refine HA.out.mono ?_
  rintro e w' ⟨v', rfl, q1, q2⟩
  have hb := q2.below (Own.nil _ _) (Below.refl _ _) (Nat.le_refl _)
  go_wp2_with fail
  go_ret2
  exact ⟨_, rfl, q1, hb⟩

theorem bad_time {z : Int} (h : z < 0 ∨ 1000000000000 < z) : decide (0 ≤ z ∧ z ≤ 1000000000000) = false := by simp; omega
set_option maxRecDepth 100000 in
set_option maxHeartbeats 400000 in
theorem code_bad (z : Int) (h : z < 0 ∨ 1000000000000 < z) (w : World) :
    Calls Try.prog 20 #[.int .i64 z] w (CodePost [] 1 w) := by
  have hd := bad_time h
  clear h
  go_enter Try.func20, Try.ntmps20
  go_wp2_with (first | (go_at_call 36; refine (upTo_any _ _ _).mono ?_; rintro e w' ⟨rfl, rfl⟩) | fail)
  go_ret2
  exact ⟨_, rfl, Own.nil _ _, Below.refl _ _⟩
set_option maxRecDepth 100000 in
set_option maxHeartbeats 400000 in
theorem rcode_bad (z : Int) (h : z < 0 ∨ 1000000000000 < z) (w : World) :
    Calls Try.prog 21 #[.int .i64 z] w (CodePost [] 1 w) := by
  have hd := bad_time h
  clear h
  go_enter Try.func21, Try.ntmps21
  go_wp2_with (first | (go_at_call 39; refine (within_any _ _ _ _).mono ?_; rintro e w' ⟨rfl, rfl⟩) | fail)
  go_ret2
  exact ⟨_, rfl, Own.nil _ _, Below.refl _ _⟩
theorem codeB_parts (s f : Nat) (hs : s ≤ 1000000000) (hf : f < 65536) : [byteN (s * 65536 + f) 5, byteN (s * 65536 + f) 4, byteN (s * 65536 + f) 3, byteN (s * 65536 + f) 2, byteN (s * 65536 + f) 1, byteN (s * 65536 + f) 0].map bv =
    [.int .u8 ((s : Int) / 16777216), .int .u8 ((s : Int) / 65536 % 256), .int .u8 ((s : Int) / 256 % 256), .int .u8 ((s : Int) % 256), .int .u8 ((f : Int) / 256), .int .u8 ((f : Int) % 256)] := by
  simp only [List.map_cons, List.map_nil, bv, byteN_toNat]
  simp only [List.cons.injEq, Value.int.injEq, true_and, and_true]
  refine ⟨?_, ?_, ?_, ?_, ?_, ?_⟩ <;> omega
set_option maxRecDepth 100000 in
set_option maxHeartbeats 400000 in
theorem rcode_any (t : Nat) (ht : t ≤ 1000000000000) (w : World) :
    Calls Try.prog 21 #[.int .i64 t] w (CodePost (codeB t) 0 w) := by
  have hd : decide ((0 : Int) ≤ (t : Int) ∧ (t : Int) ≤ 1000000000000) = true := by simp; omega
  have ht2 : (t : Int) ≤ 1000000000000 := by omega
  have hB : (codeB t).map bv = [.int .u8 ((t : Int) / 1000 / 16777216), .int .u8 ((t : Int) / 1000 / 65536 % 256), .int .u8 ((t : Int) / 1000 / 256 % 256), .int .u8 ((t : Int) / 1000 % 256), .int .u8 ((t : Int) % 1000 * 65536 / 1000 / 256), .int .u8 ((t : Int) % 1000 * 65536 / 1000 % 256)] := by
    have := codeB_parts (t / 1000) (partsN (t % 1000)) (by omega) (by unfold partsN; omega)
    unfold codeB codeN
    rw [this]
    simp [partsN]
  have HB := Lib.hid hB
  clear hB
  go_enter Try.func21, Try.ntmps21
  go_wp2_with (first | (go_at_call 39; refine (within_any _ _ _ _).mono ?_; rintro e w' ⟨rfl, rfl⟩) | fail)
  go_ret2
  refine ⟨_, rfl, ?_, (Below.refl _ _).alloc (Nat.le_refl _) _⟩
  unfold Own
  rw [HB.out]
  exact World.ownsRow_lit _ _ 6 (Nat.le_refl _) (by simp [maxLen]) rfl

theorem or_low (v c : Nat) (hv : v < 1099511627776) (hc : c < 256) : bits .or .i64 ((v : Int) * 256) (c : Int) = ((v * 256 + c : Nat) : Int) := by
  have of64 : ∀ a : Nat, a < 9223372036854775808 → (BitVec.ofInt IntKind.i64.bits (a : Int)).toNat = a := by
    intro a ha
    show (BitVec.ofInt 64 (a : Int)).toNat = a
    rw [BitVec.ofInt_natCast, BitVec.toNat_ofNat]
    exact Nat.mod_eq_of_lt (by omega)
  have e1 : ((v : Int) * 256) = ((v * 256 : Nat) : Int) := by omega
  have e2 : v * 256 ||| c = v * 256 + c := by
    have := Nat.two_pow_add_eq_or_of_lt (b := c) (i := 8) (by omega) v
    rw [Nat.mul_comm v 256]
    exact this.symm
  rw [e1]
  have e : (BitVec.ofInt IntKind.i64.bits ((v * 256 : Nat) : Int) ||| BitVec.ofInt IntKind.i64.bits (c : Int)).toNat = v * 256 + c := by rw [BitVec.toNat_or, of64 _ (by omega), of64 _ (by omega), e2]
  unfold bits
  simp only [e]
  exact IntWalk.i64_in _ (by omega)
theorem valN_snoc (l : List UInt8) (c : UInt8) : valN (l ++ [c]) = valN l * 256 + c.toNat := by simp [valN]
theorem valN_lt : ∀ (l : List UInt8) (k : Nat), l.length = k → valN l < 256 ^ k := by
  intro l k hk
  subst hk
  have : ∀ (l : List UInt8) (s n : Nat), s < 256 ^ n → l.foldl (fun s c => s * 256 + c.toNat) s < 256 ^ (n + l.length) := by
    intro l
    induction l with
    | nil => intro s n h; simpa using h
    | cons c l ih =>
      intro s n h
      have hc := c.toNat_lt
      have := ih (s * 256 + c.toNat) (n + 1) (by rw [Nat.pow_succ]; omega)
      rw [show n + (c :: l).length = n + 1 + l.length by simp; omega]
      exact this
  have h := this l 0 0 (by simp)
  simpa [valN] using h
theorem bigN_valN (l : List UInt8) : bigN l = valN l := rfl
set_option maxRecDepth 100000 in
set_option maxHeartbeats 800000 in
theorem readCode_any (A : Option Addr) (c : Nat) (l : List UInt8) (B : Nat) (w : World) (h : BR w B A l) :
    Calls Try.prog 22 #[.slice A l.length c] w fun e w' => e = .returned (.tuple #[.int .i64 (readC l).1, .int .i64 (readC l).2]) ∧ w = w' := by
  by_cases h6 : l.length = 6
  · have hf : ((6 : Int) != 6) = false := rfl
    have hv : valN l < 281474976710656 := by have := valN_lt l 6 h6; simpa using this
    have HL := Lib.hid h6
    have HR : Hid (readC l = if partsN (millisN (valN l % 65536)) ≠ valN l % 65536 then (0, 3) else if 1000000000000 < valN l / 65536 * 1000 + millisN (valN l % 65536) then (0, 1) else (((valN l / 65536 * 1000 + millisN (valN l % 65536) : Nat) : Int), 0)) := by
      unfold Hid readC
      rw [if_neg (by omega)]
    have HNB := Lib.hid (number_any A c l B w (by omega) h)
    rw [bigN_valN, h6] at HNB
    rw [h6]
    clear h6
    generalize valN l = N at *
    have hm : millisN (N % 65536) ≤ 1000 := by unfold millisN; omega
    have HP := fun (w : World) => partsOf_any (millisN (N % 65536)) (((N : Int) % 65536 * 1000 + 65536 - 1) / 65536) (by unfold Hid millisN; omega) (by omega) w
    have HPP := Lib.hid HP
    clear HP
    generalize hMM : millisN (N % 65536) = M at *
    have HMM := Lib.hid (show ((N : Int) % 65536 * 1000 + 65536 - 1) / 65536 = (M : Int) by rw [← hMM]; unfold millisN; omega)
    clear hMM
    by_cases hp : partsN M = N % 65536
    · have HP2 : Hid (∀ w : World, Calls Try.prog 37 #[.int .i64 (((N : Int) % 65536 * 1000 + 65536 - 1) / 65536)] w fun e w' => e = .returned (.int .i64 ((N : Int) % 65536)) ∧ w = w') := by
        intro w
        have := HPP.out w
        rw [hp] at this
        simpa using this
      have hr : readC l = if 1000000000000 < N / 65536 * 1000 + M then (0, 1) else (((N / 65536 * 1000 + M : Nat) : Int), 0) := by rw [HR.out, if_neg (by omega)]
      have HRR := Lib.hid hr
      clear hp hr HPP
      go_enter Try.func22, Try.ntmps22
      go_wp2_with fail
      refine HNB.out.mono ?_
      rintro e w' ⟨rfl, rfl⟩
      go_wp2_with fail
      refine (HP2.out _).mono ?_
      rintro e w' ⟨rfl, rfl⟩
      simp only [HMM.out]
      clear hf
      have hq1 : (N : Int) / 65536 ≤ 4294967296 := by omega
      generalize (N : Int) / 65536 = q at *
      generalize (N : Int) % 65536 = r at *
      go_wp2_with fail
      all_goals
        go_ret2
        rw [HRR.out]
        first | rw [if_pos (by omega)] | rw [if_neg (by omega)]
        exact ⟨rfl, rfl⟩
    · have hp1 : ((partsN M : Int) != (N : Int) % 65536) = true := by simp; omega
      have hr : readC l = (0, 3) := by rw [HR.out, if_pos (by omega)]
      have HRR := Lib.hid hr
      clear hp hr
      go_enter Try.func22, Try.ntmps22
      go_wp2_with fail
      refine HNB.out.mono ?_
      rintro e w' ⟨rfl, rfl⟩
      go_wp2_with fail
      refine (HPP.out _).mono ?_
      rintro e w' ⟨rfl, rfl⟩
      go_wp2_with fail
      go_ret2
      rw [HRR.out]
      exact ⟨rfl, rfl⟩
  · have hr : readC l = (0, 3) := by unfold readC; rw [if_pos h6]
    rw [hr]
    have hne : ((l.length : Int) != 6) = true := by simp; omega
    clear h6 hr
    go_enter Try.func22, Try.ntmps22
    go_wp2_with fail
    go_ret2
    exact ⟨rfl, rfl⟩

theorem readC_of (l : List UInt8) (s g : Nat) (h6 : l.length = 6) (hv : valN l = s * 65536 + g) (hg : g < 65536) : readC l =
    if 999 < millisN g ∨ partsN (millisN g) ≠ g then (0, 3) else if 1000000000000 < s * 1000 + millisN g then (0, 1) else (((s * 1000 + millisN g : Nat) : Int), 0) := by
  have e1 : valN l % 65536 = g := by omega
  have e2 : valN l / 65536 = s := by omega
  unfold readC
  rw [if_neg (by omega), e1, e2]
  by_cases h9 : 999 < millisN g
  · have hp : partsN (millisN g) ≠ g := by unfold partsN millisN at *; omega
    rw [if_pos hp, if_pos (Or.inl h9)]
  · by_cases hp : partsN (millisN g) ≠ g
    · rw [if_pos hp, if_pos (Or.inr hp)]
    · rw [if_neg hp, if_neg (fun q => Or.elim q h9 hp)]
theorem readC_six (a b c d e f : UInt8) : readC [a, b, c, d, e, f] =
    if 999 < millisN (e.toNat * 256 + f.toNat) ∨ partsN (millisN (e.toNat * 256 + f.toNat)) ≠ e.toNat * 256 + f.toNat then (0, 3) else if 1000000000000 < (a.toNat * 16777216 + b.toNat * 65536 + c.toNat * 256 + d.toNat) * 1000 + millisN (e.toNat * 256 + f.toNat) then (0, 1) else ((((a.toNat * 16777216 + b.toNat * 65536 + c.toNat * 256 + d.toNat) * 1000 + millisN (e.toNat * 256 + f.toNat) : Nat) : Int), 0) := by
  have he := e.toNat_lt
  have hf := f.toNat_lt
  exact readC_of _ _ _ rfl (by rw [valN_six]; omega) (by omega)
set_option maxRecDepth 100000 in
set_option maxHeartbeats 1600000 in
theorem rreadCode_any (A : Option Addr) (c : Nat) (l : List UInt8) (B : Nat) (w : World) (h : BR w B A l) :
    Calls Try.prog 23 #[.slice A l.length c] w fun e w' => e = .returned (.tuple #[.int .i64 (readC l).1, .int .i64 (readC l).2]) ∧ ∃ n, w' = w.drewN n := by
  by_cases h6 : l.length = 6
  · obtain ⟨a0, a1, a2, a3, a4, a5, rfl⟩ := six l h6
    obtain ⟨ad, rfl, -, c0⟩ := h.get 0 (by simp)
    obtain ⟨ad1, e1, -, c1⟩ := h.get 1 (by simp)
    obtain ⟨ad2, e2, -, c2⟩ := h.get 2 (by simp)
    obtain ⟨ad3, e3, -, c3⟩ := h.get 3 (by simp)
    obtain ⟨ad4, e4, -, c4⟩ := h.get 4 (by simp)
    obtain ⟨ad5, e5, -, c5⟩ := h.get 5 (by simp)
    obtain rfl : ad = ad1 := by injection e1
    obtain rfl : ad = ad2 := by injection e2
    obtain rfl : ad = ad3 := by injection e3
    obtain rfl : ad = ad4 := by injection e4
    obtain rfl : ad = ad5 := by injection e5
    rw [addr_zero] at c0
    replace c0 : w.cell? ad = some (.int .u8 (a0.toNat : Int)) := c0
    replace c1 : w.cell? ⟨ad.block, ad.off + 1, none⟩ = some (.int .u8 (a1.toNat : Int)) := c1
    replace c2 : w.cell? ⟨ad.block, ad.off + 2, none⟩ = some (.int .u8 (a2.toNat : Int)) := c2
    replace c3 : w.cell? ⟨ad.block, ad.off + 3, none⟩ = some (.int .u8 (a3.toNat : Int)) := c3
    replace c4 : w.cell? ⟨ad.block, ad.off + 4, none⟩ = some (.int .u8 (a4.toNat : Int)) := c4
    replace c5 : w.cell? ⟨ad.block, ad.off + 5, none⟩ = some (.int .u8 (a5.toNat : Int)) := c5
    have HR := readC_six a0 a1 a2 a3 a4 a5
    generalize readC [a0, a1, a2, a3, a4, a5] = r at HR ⊢
    simp only [List.length_cons, List.length_nil]
    have b0 := a0.toNat_lt
    have b1 := a1.toNat_lt
    have b2 := a2.toNat_lt
    have b3 := a3.toNat_lt
    have b4 := a4.toNat_lt
    have b5 := a5.toNat_lt
    generalize a0.toNat = x0 at *
    generalize a1.toNat = x1 at *
    generalize a2.toNat = x2 at *
    generalize a3.toNat = x3 at *
    generalize a4.toNat = x4 at *
    generalize a5.toNat = x5 at *
    clear e1 e2 e3 e4 e5 h h6
    have HRR := Lib.hid HR
    clear HR
    have w0 : IntKind.i64.wrap (x0 : Int) = x0 := IntWalk.i64_in _ (by omega)
    have w1 : IntKind.i64.wrap (x1 : Int) = x1 := IntWalk.i64_in _ (by omega)
    have w2 : IntKind.i64.wrap (x2 : Int) = x2 := IntWalk.i64_in _ (by omega)
    have w3 : IntKind.i64.wrap (x3 : Int) = x3 := IntWalk.i64_in _ (by omega)
    have w4 : IntKind.i64.wrap (x4 : Int) = x4 := IntWalk.i64_in _ (by omega)
    have w5 : IntKind.i64.wrap (x5 : Int) = x5 := IntWalk.i64_in _ (by omega)
    have v0 : IntKind.i64.wrap ((x0 : Int) * 16777216) = x0 * 16777216 := IntWalk.i64_in _ (by omega)
    have v1 : IntKind.i64.wrap ((x1 : Int) * 65536) = x1 * 65536 := IntWalk.i64_in _ (by omega)
    have v2 : IntKind.i64.wrap ((x2 : Int) * 256) = x2 * 256 := IntWalk.i64_in _ (by omega)
    have v4 : IntKind.i64.wrap ((x4 : Int) * 256) = x4 * 256 := IntWalk.i64_in _ (by omega)
    have s1 : IntKind.i64.wrap ((x0 : Int) * 16777216 + x1 * 65536) = x0 * 16777216 + x1 * 65536 := IntWalk.i64_in _ (by omega)
    have s2 : IntKind.i64.wrap ((x0 : Int) * 16777216 + x1 * 65536 + x2 * 256) = x0 * 16777216 + x1 * 65536 + x2 * 256 := IntWalk.i64_in _ (by omega)
    have s3 : IntKind.i64.wrap ((x0 : Int) * 16777216 + x1 * 65536 + x2 * 256 + x3) = x0 * 16777216 + x1 * 65536 + x2 * 256 + x3 := IntWalk.i64_in _ (by omega)
    have s4 : IntKind.i64.wrap ((x4 : Int) * 256 + x5) = x4 * 256 + x5 := IntWalk.i64_in _ (by omega)
    go_enter Try.func23, Try.ntmps23
    go_wp2_with fail
    go_quiet (fail)
    go_wp2_with fail
    go_quiet (fail)
    clear w0 w1 w2 w3 w4 w5 v0 v1 v2 v4 s1 s2 s3 s4 c0 c1 c2 c3 c4 c5
    have hs : x0 * 16777216 + x1 * 65536 + x2 * 256 + x3 < 4294967296 := by omega
    have hg : x4 * 256 + x5 < 65536 := by omega
    have es : (x0 : Int) * 16777216 + x1 * 65536 + x2 * 256 + x3 = ((x0 * 16777216 + x1 * 65536 + x2 * 256 + x3 : Nat) : Int) := by omega
    have eg : (x4 : Int) * 256 + x5 = ((x4 * 256 + x5 : Nat) : Int) := by omega
    simp only [es, eg]
    clear es eg b0 b1 b2 b3 b4 b5
    generalize x0 * 16777216 + x1 * 65536 + x2 * 256 + x3 = s at *
    generalize x4 * 256 + x5 = g at *
    have hM : (((g : Int) * 1000 + 65535) / 65536) = ((millisN g : Nat) : Int) := by unfold millisN; omega
    have hM2 : millisN g ≤ 1000 := by unfold millisN; omega
    have hP : ((millisN g : Int) * 65536 / 1000) = ((partsN (millisN g) : Nat) : Int) := by unfold partsN; omega
    generalize millisN g = M at *
    generalize partsN M = P at *
    have hM3 : (M : Int) ≤ 1000 := by omega
    by_cases h9 : 999 < M
    · have HR2 := Lib.hid (HRR.out.trans (if_pos (Or.inl h9)))
      clear HRR
      go_wp2_with fail
      go_ret2
      rw [HR2.out]
      exact ⟨rfl, _, rfl⟩
    · by_cases hp : P = g
      · have hp1 : ((P : Int) != (g : Int)) = false := by simp; omega
        have HR2 := Lib.hid (HRR.out.trans (if_neg (fun q => Or.elim q h9 (fun q => q hp))))
        clear hp HRR
        by_cases hm : 1000000000000 < s * 1000 + M
        · have HR3 := Lib.hid (HR2.out.trans (if_pos hm))
          clear HR2
          go_wp2_with fail
          go_ret2
          rw [HR3.out]
          exact ⟨rfl, _, rfl⟩
        · have HR3 := Lib.hid (HR2.out.trans (if_neg hm))
          clear HR2
          go_wp2_with fail
          go_ret2
          rw [HR3.out]
          exact ⟨rfl, _, rfl⟩
      · have hp1 : ((P : Int) != (g : Int)) = true := by simp; omega
        have HR2 := Lib.hid (HRR.out.trans (if_pos (Or.inr hp)))
        clear hp HRR
        go_wp2_with fail
        go_ret2
        rw [HR2.out]
        exact ⟨rfl, _, rfl⟩
  · have hr : readC l = (0, 3) := by unfold readC; rw [if_pos h6]
    rw [hr]
    have hne : ((l.length : Int) != 6) = true := by simp; omega
    clear h6 hr
    go_enter Try.func23, Try.ntmps23
    go_wp2_with fail
    go_ret2
    exact ⟨rfl, 0, rfl⟩
end Go.Proofs.Ytaajphmjfebbaaa
