/- signs: both sides' sums of a key, bytes and the key. -/
import Derived.Test.YteikggieekhfkaaBig8
import Derived.Test.YteikggieekhfkaaConcat
import Derived.Test.YteikggieekhfkaaYRow
import Derived.Deep.DeepCutAuto
namespace Go.Proofs.Yteikggieekhfkaa
open Go.RowKit

def sgStep (h : Nat) (x : UInt8) : Nat := ((h ^^^ x.toNat) * 1099511628211) % 18446744073709551616
def sgF (h : Nat) (l : List UInt8) : Nat := l.foldl sgStep h
def sg0 : Nat := 14695981039346656037
/-- the sign of bytes by a key -/
def sgN (key : Int) (b : List UInt8) : Nat := sgF sg0 (bigE (u64 key) 8 ++ b ++ bigE (u64 key) 8)
theorem sgStep_lt (h : Nat) (x : UInt8) : sgStep h x < 18446744073709551616 := Nat.mod_lt _ (by omega)
theorem sgF_lt : ∀ (l : List UInt8) (h : Nat), h < 18446744073709551616 → sgF h l < 18446744073709551616
  | [], h, hh => hh
  | x :: l, h, _ => sgF_lt l _ (sgStep_lt h x)
theorem sg0_lt : sg0 < 18446744073709551616 := by unfold sg0; omega
theorem sgF_app (h : Nat) (a b : List UInt8) : sgF h (a ++ b) = sgF (sgF h a) b := by simp only [sgF, List.foldl_append]
theorem fold_snoc {α β : Type} (f : α → β → α) (h : α) (a : List β) (x : β) : (a ++ [x]).foldl f h = f (a.foldl f h) x := by simp
theorem sgF_snoc (h : Nat) (a : List UInt8) (x : UInt8) : sgF h (a ++ [x]) = sgStep (sgF h a) x := fold_snoc sgStep h a x
theorem sgN_lt (key : Int) (b : List UInt8) : sgN key b < 18446744073709551616 := sgF_lt _ _ sg0_lt
/-- the step as the model has it -/
theorem sg_model (h : Nat) (x : UInt8) (hh : h < 18446744073709551616) : IntKind.u64.wrap (bits .xor .u64 (h : Int) (x.toNat : Int) * 1099511628211) = (sgStep h x : Int) := by
  have hx := x.toNat_lt
  rw [u64_xor_nat h x.toNat hh (by omega), IntKind.wrap_u64]
  unfold sgStep
  rw [Int.natCast_emod, Int.natCast_mul]
  congr 1
set_option maxRecDepth 100000 in
set_option maxHeartbeats 1000000 in
theorem p_sign_any (key : Int) (A : Option Addr) (b : List UInt8) (c B : Nat) (w : World) (hb : b.length ≤ 100000) (hB : B ≤ w.heap.size) (h : BR w B A b) :
    Calls Try.prog 71 #[.int .i64 key, .slice A b.length c] w fun e w' => ∃ v, e = .returned v ∧ Own w' w.heap.size v (bigE (sgN key b) 8) ∧ Below w.heap.size w w' := by
  have HA := Lib.hid (append8_any w.heap.size (.slice none 0 0) [] key w (by simp) (Nat.le_refl _) (Own.nil _ _))
  obtain ⟨K, hK⟩ : ∃ K, bigE (u64 key) 8 = K := ⟨_, rfl⟩
  have hK8 : K.length = 8 := by rw [← hK]; exact bigE_len _ _
  have HS : Hid (sgN key b = sgF sg0 (K ++ b ++ K)) := Lib.hid (by unfold sgN; rw [hK])
  rw [hK, List.nil_append] at HA
  have HK8 := Lib.hid hK8
  clear hK hK8
  go_enter Try.func71, Try.ntmps71
  go_wp2_with fail
  refine HA.out.mono ?_
  rintro e w1 ⟨v1, rfl, ho1, hn1⟩
  have b1 := hn1.below (Own.nil w w.heap.size) (Below.refl _ _) (Nat.le_refl _)
  obtain ⟨A1, c1, rfl, hr1⟩ := ho1.form
  have hb1 : BR w1 w1.heap.size A b := (h.below (b1.mono hB)).lift (Nat.le_trans hB b1.size)
  obtain ⟨ps, hps⟩ : ∃ ps : List Part, ps = [(A1, c1, K), (A, c, b), (A1, c1, K)] := ⟨_, rfl⟩
  obtain ⟨w2, hw2⟩ : ∃ w2, w1.alloc (.cells #[.slice A1 K.length c1, .slice A b.length c, .slice A1 K.length c1] 24) = w2 := ⟨_, rfl⟩
  have b2 : Below w1.heap.size w1 w2 := by rw [← hw2]; exact (Below.refl _ _).alloc (Nat.le_refl _) _
  have z2 : w2.heap.size = w1.heap.size + 1 := by rw [← hw2]; simp
  have hP : Cells w2 w2.heap.size (some ⟨w1.heap.size, 0, none⟩) (ps.map sv) := by rw [z2, ← hw2, hps]; exact Cells.fresh w1 _ 24 _ _ rfl
  have hBp : ∀ p ∈ ps, BR w2 w2.heap.size p.1 p.2.2 := by
    rw [hps]
    intro p hp
    simp only [List.mem_cons, List.not_mem_nil, or_false] at hp
    rcases hp with rfl | rfl | rfl
    · exact (hr1.below b2).lift b2.size
    · exact (hb1.below b2).lift b2.size
    · exact (hr1.below b2).lift b2.size
  have hpl : ps.length = 3 := by rw [hps]; rfl
  obtain ⟨aL, haL⟩ : ∃ aL : Addr, (⟨w1.heap.size, 0, none⟩ : Addr) = aL := ⟨_, rfl⟩
  rw [haL] at hP
  have HAL := Lib.hid haL
  have hpb : ∀ p ∈ ps, p.2.2.length ≤ 100000 := by
    rw [hps]
    intro p hp
    have := HK8.out
    simp only [List.mem_cons, List.not_mem_nil, or_false] at hp
    rcases hp with rfl | rfl | rfl
    · show K.length ≤ _; omega
    · exact hb
    · show K.length ≤ _; omega
  have HJ : Hid (sgN key b = sgF sg0 (joined ps)) := Lib.hid (by rw [HS.out, hps]; simp [joined])
  have B2 := b1.trans (b2.mono b1.size)
  have HPL := Lib.hid hpl
  have HPB := Lib.hid hpb
  have HBP := Lib.hid hBp
  have HW2 := Lib.hid hw2
  clear haL hps hpl hpb hBp HS HA ho1 hn1 hr1 hb1 b1 b2 hw2 h
  go_upto_region 3 with fail
  go_wp2_with fail
  rw [HW2.out, HAL.out]
  go_loop [6, 18] (fun s i => ∃ k : Nat, k ≤ 3 ∧ i = .int .i64 k ∧ s = .int .u64 ((sgF sg0 (joined (ps.take k)) : Nat) : Int)) (fun _ i => 3 - (intOf i).toNat)
  case atStart => exact ⟨0, by omega, rfl, rfl⟩
  case round =>
    obtain ⟨k, hk, rfl, rfl⟩ := hrel
    by_cases hlt : k < 3
    · have hkl : k < ps.length := by rw [HPL.out]; exact hlt
      obtain ⟨ad, hAd, -, hc⟩ := hP.get k (by simpa using hkl)
      simp only [List.getElem_map, sv] at hc
      obtain rfl : aL = ad := by injection hAd
      have hrp := HBP.out _ (List.getElem_mem hkl)
      have hlp := HPB.out _ (List.getElem_mem hkl)
      have HT : Hid (∀ y, y = ps[k].2.2 → sgF sg0 (joined (ps.take (k + 1))) = sgF (sgF sg0 (joined (ps.take k))) y) := Lib.hid (fun y hy => by rw [ptake_one ps k hkl, joined_snoc, sgF_app, hy])
      obtain ⟨p1, hp1⟩ : ∃ p1, ps[k].1 = p1 := ⟨_, rfl⟩
      obtain ⟨p2, hp2⟩ : ∃ p2, ps[k].2.1 = p2 := ⟨_, rfl⟩
      obtain ⟨p3, hp3⟩ : ∃ p3, ps[k].2.2 = p3 := ⟨_, rfl⟩
      rw [hp1, hp2, hp3] at hc
      rw [hp1, hp3] at hrp
      rw [hp3] at hlp
      have HT2 := Lib.hid (HT.out p3 hp3.symm)
      have hF := sgF_lt (joined (ps.take k)) sg0 sg0_lt
      generalize sgF sg0 (joined (ps.take k)) = H at *
      clear hp1 hp2 hp3 HT hAd
      have hi0 : (0 : Int) ≤ (k : Int) := by omega
      have hi1 : (k : Int) < 3 := by omega
      go_wp2_with fail
      go_loop [6, 24] (fun s i => ∃ m : Nat, m ≤ p3.length ∧ i = .int .i64 m ∧ s = .int .u64 ((sgF H (p3.take m) : Nat) : Int)) (fun _ i => p3.length - (intOf i).toNat)
      case atStart => exact ⟨0, Nat.zero_le _, rfl, rfl⟩
      case round =>
        obtain ⟨m, hm, rfl, rfl⟩ := hrel
        by_cases hml : m < p3.length
        · obtain ⟨ad2, rfl, -, hc2⟩ := hrp.get m hml
          have hF2 := sgF_lt (p3.take m) H hF
          have hM := sg_model (sgF H (p3.take m)) p3[m] hF2
          have HN : Hid (sgF H (p3.take (m + 1)) = sgStep (sgF H (p3.take m)) p3[m]) := Lib.hid (by rw [List.take_succ_eq_append_getElem hml, sgF_snoc])
          have hz2 := sgStep_lt (sgF H (p3.take m)) p3[m]
          generalize sgStep (sgF H (p3.take m)) p3[m] = Z at *
          generalize sgF H (p3.take m) = Y at *
          have hC2 := p3[m].toNat_lt
          generalize p3[m].toNat = C at *
          have hj0 : (0 : Int) ≤ (m : Int) := by omega
          have hj1 : (m : Int) < (p3.length : Int) := by omega
          go_wp2_with fail
          go_round
          case rel => exact ⟨m + 1, by omega, by go_num, by rw [HN.out]⟩
          case measure => simp [intOf]; omega
        · obtain rfl : m = p3.length := by omega
          have hE := HT2.out
          rw [List.take_length]
          clear hE
          have hj : ¬ (p3.length : Int) < (p3.length : Int) := by omega
          go_wp2_with fail
          go_round
          case rel => exact ⟨k + 1, by omega, by go_num, by rw [HT2.out]⟩
          case measure => simp [intOf]; omega
    · obtain rfl : k = 3 := by omega
      have hj3 : joined (ps.take 3) = joined ps := by rw [← HPL.out, List.take_length]
      rw [hj3]
      have hHl := sgF_lt (joined ps) sg0 sg0_lt
      generalize sgF sg0 (joined ps) = H at *
      have hW := i64w_wrap H hHl
      have HU := Lib.hid (u64_i64w H hHl)
      have HA2 := Lib.hid (fun (w3 : World) => append8_any w3.heap.size (.slice none 0 0) [] (i64w H) w3 (by simp) (Nat.le_refl _) (Own.nil _ _))
      generalize i64w H = Z at *
      rw [HU.out] at HA2
      clear hj3 hHl HPL HPB HBP hP HAL HW2 HU HK8
      go_wp2_with fail
      refine (HA2.out _).mono ?_
      rintro e w3 ⟨v3, rfl, ho3, hn3⟩
      have b3 := hn3.below (Own.nil w2 w2.heap.size) (Below.refl _ _) (Nat.le_refl _)
      go_wp2_with fail
      go_ret
      rw [HJ.out]
      rw [List.nil_append] at ho3
      exact ⟨v3, rfl, ho3.lower (by have := B2.size; omega), B2.trans (b3.mono B2.size)⟩
set_option maxRecDepth 100000 in
set_option maxHeartbeats 1000000 in
theorem r_number_any (A : Option Addr) (l : List UInt8) (c B : Nat) (w : World) (h8 : 8 ≤ l.length) (hc : l.length ≤ c) (hl : l.length ≤ 100000) (h : BR w B A l) :
    Calls Try.prog 100 #[.slice A l.length c] w fun e w' => e = .returned (.int .u64 ((bigN (l.take 8) : Nat) : Int)) ∧ w = w' := by
  obtain ⟨ad, rfl, -, hq⟩ := h.get 0 (by omega)
  clear hq
  go_enter Try.func100, Try.ntmps100
  go_wp2_with fail
  go_loop [3, 9] (fun s i => ∃ m : Nat, m ≤ 8 ∧ i = .int .i64 m ∧ s = .int .u64 ((bigN (l.take m) : Nat) : Int)) (fun _ i => 8 - (intOf i).toNat)
  case atStart => exact ⟨0, by omega, rfl, rfl⟩
  case round =>
    obtain ⟨m, hm, rfl, rfl⟩ := hrel
    by_cases hml : m < 8
    · obtain ⟨ad2, he2, -, hc2⟩ := h.get m (by omega)
      obtain rfl : ad = ad2 := by injection he2
      have hT : bigN (l.take (m + 1)) = bigN (l.take m) * 256 + l[m].toNat := by rw [take_one' l m (by omega), bigN_snoc]
      have hlt := bigN_7 (l.take m) (by simp; omega)
      have hx := l[m].toNat_lt
      have HT := Lib.hid hT
      have hZ : bits .or .u64 ((bigN (l.take m) : Nat) * 256 : Int) (l[m].toNat : Int) = ((bigN (l.take m) * 256 + l[m].toNat : Nat) : Int) := by
        have := u64_or_nat (bigN (l.take m) * 256) l[m].toNat (by omega) (by omega)
        rw [Int.natCast_mul] at this
        rw [show (((bigN (l.take m) : Nat) : Int) * 256) = ((bigN (l.take m) : Nat) : Int) * ((256 : Nat) : Int) by rfl, this]
        have h := Nat.two_pow_add_eq_or_of_lt (i := 8) (b := l[m].toNat) (by omega) (bigN (l.take m))
        rw [show bigN (l.take m) * 256 = 2 ^ 8 * bigN (l.take m) by omega, ← h]
      generalize bigN (l.take m) * 256 + l[m].toNat = Z at *
      generalize bigN (l.take m) = Y at *
      generalize l[m].toNat = C at *
      have hY1 : IntKind.u64.wrap ((Y : Int) * 256) = (Y : Int) * 256 := IntWalk.u64_in _ (by omega)
      have hC1 : IntKind.u64.wrap (C : Int) = (C : Int) := IntWalk.u64_in _ (by omega)
      clear hT he2 hlt
      go_wp2_with fail
      go_round
      case rel => exact ⟨m + 1, by omega, by go_num, by rw [HT.out]⟩
      case measure => simp [intOf]; omega
    · obtain rfl : m = 8 := by omega
      go_wp2_with fail
      go_ret
      exact ⟨rfl, rfl⟩
theorem made8 : madeCells (Value.int .u8 0).cells (8 * 1) = #[.int .u8 0, .int .u8 0, .int .u8 0, .int .u8 0, .int .u8 0, .int .u8 0, .int .u8 0, .int .u8 0] := by kernel_rfl
theorem run_make8 (w : World) : (Instr.makeSlice 24 (.int .i64 8) (.int .i64 8)).run Try.prog w = .ok (.slice (some ⟨w.heap.size, 0, none⟩) 8 8) (w.alloc (.cells #[.int .u8 0, .int .u8 0, .int .u8 0, .int .u8 0, .int .u8 0, .int .u8 0, .int .u8 0, .int .u8 0] 5)) := by
  obtain ⟨i, h1, h2, h3, h4⟩ := info_parts info5
  have := run_make w 24 5 i _ Try.underlying24 h1 h2 .i64 .i64 8 8 (by omega) (by omega) (by rw [h4]; omega) (by omega)
  rw [h3] at this
  rw [← made8]
  exact this
theorem row_made8 (w : World) : RowY (w.alloc (.cells #[.int .u8 0, .int .u8 0, .int .u8 0, .int .u8 0, .int .u8 0, .int .u8 0, .int .u8 0, .int .u8 0] 5)) w.heap.size 8 (List.replicate 8 0) := by
  refine ⟨#[.int .u8 0, .int .u8 0, .int .u8 0, .int .u8 0, .int .u8 0, .int .u8 0, .int .u8 0, .int .u8 0], ?_, by simp, by simp [maxLen], rfl, rfl⟩
  show (w.heap.push _)[w.heap.size]? = _
  simp
theorem eight_set (n k : Nat) (hk : k < 8) : (bigE n 8).take (k + 1) = (bigE n 8).take k ++ [UInt8.ofNat (n / 256 ^ (7 - k))] := by
  have h8 : k = 0 ∨ k = 1 ∨ k = 2 ∨ k = 3 ∨ k = 4 ∨ k = 5 ∨ k = 6 ∨ k = 7 := by omega
  rcases h8 with rfl | rfl | rfl | rfl | rfl | rfl | rfl | rfl <;> simp [bigE]
set_option maxRecDepth 100000 in
set_option maxHeartbeats 1000000 in
theorem r_eight_any (n : Nat) (w : World) (hn : n < 18446744073709551616) :
    Calls Try.prog 73 #[.int .u64 (n : Int)] w fun e w' => ∃ v, e = .returned v ∧ Own w' w.heap.size v (bigE n 8) ∧ Below w.heap.size w w' := by
  have hmk := run_make8
  go_enter Try.func73, Try.ntmps73
  go_wp2_with fail
  obtain ⟨w1, hw1⟩ : ∃ w1, w.alloc (.cells #[.int .u8 0, .int .u8 0, .int .u8 0, .int .u8 0, .int .u8 0, .int .u8 0, .int .u8 0, .int .u8 0] 5) = w1 := ⟨_, rfl⟩
  have b1 : Below w.heap.size w w1 := by rw [← hw1]; exact (Below.refl _ _).alloc (Nat.le_refl _) _
  have r1 : RowY w1 w.heap.size 8 (List.replicate 8 0) := by rw [← hw1]; exact row_made8 w
  rw [hw1]
  clear hw1 hmk
  go_loopw [8] (fun i wr => ∃ k : Nat, k ≤ 8 ∧ i = .int .i64 k ∧ RowY wr w.heap.size 8 ((bigE n 8).take k ++ List.replicate (8 - k) 0) ∧ Below w.heap.size w wr) (fun i _ => 8 - (intOf i).toNat)
  case atStart => exact ⟨0, by omega, rfl, r1, b1⟩
  case round =>
    obtain ⟨k, hk, rfl, hr, hb⟩ := hrel
    by_cases hlt : k < 8
    · have hS := hr.set k (UInt8.ofNat (n / 256 ^ (7 - k)))
      have hL : ((bigE n 8).take k ++ List.replicate (8 - k) 0).set k (UInt8.ofNat (n / 256 ^ (7 - k))) = (bigE n 8).take (k + 1) ++ List.replicate (8 - (k + 1)) 0 := by
        have hl : ((bigE n 8).take k).length = k := by simp [bigE_len]; omega
        rw [List.set_append_right _ _ (by omega), hl, Nat.sub_self, show 8 - k = (8 - (k + 1)) + 1 by omega, List.replicate_succ, List.set_cons_zero, eight_set n k hlt, List.append_assoc]
        rfl
      rw [hL] at hS
      obtain ⟨C, y0⟩ : ∃ C : Nat, wr.cell? ⟨w.heap.size, k, none⟩ = some (.int .u8 (C : Int)) := ⟨_, hr.cell k (by simp [bigE_len]; omega)⟩
      have y1 := hr.free k
      have HS := Lib.hid hS
      clear hS hL r1 b1
      have hi0 : (0 : Int) ≤ (k : Int) := by omega
      have hi1 : (k : Int) < 8 := by omega
      have hi2 : 8 * (k : Int) ≤ 56 := by omega
      clear hr
      have HV : Hid ((n : Int) / 2 ^ (56 - 8 * k) % 256 = ((UInt8.ofNat (n / 256 ^ (7 - k))).toNat : Int)) := Lib.hid (by rw [show 56 - 8 * k = 8 * (7 - k) by omega]; exact shr_byte n (7 - k))
      go_wp2_with fail
      go_round
      case rel => exact ⟨k + 1, by omega, by go_num, by rw [HV.out]; exact HS.out, hb.setCell (Nat.le_refl _) _⟩
      case measure => simp [intOf]; omega
    · obtain rfl : k = 8 := by omega
      have ho := hr.own w.heap.size (Nat.le_refl _)
      have h8 : (bigE n 8).take 8 ++ List.replicate (8 - 8) 0 = bigE n 8 := by rw [List.take_of_length_le (by rw [bigE_len]; omega)]; simp
      rw [h8, bigE_len] at ho
      have HO := Lib.hid ho
      clear ho h8 hr r1 b1
      go_wp2_with fail
      go_ret
      exact ⟨_, rfl, HO.out, hb⟩
theorem u64_wrap (z : Int) : IntKind.u64.wrap z = ((u64 z : Nat) : Int) := by
  rw [IntKind.wrap_u64]
  unfold u64
  omega
set_option maxRecDepth 100000 in
set_option maxHeartbeats 1000000 in
theorem r_sign_any (key : Int) (A : Option Addr) (b : List UInt8) (c B : Nat) (w : World) (hb : b.length ≤ 100000) (hB : B ≤ w.heap.size) (h : BR w B A b) :
    Calls Try.prog 74 #[.int .i64 key, .slice A b.length c] w fun e w' => e = .returned (.int .u64 ((sgN key b : Nat) : Int)) ∧ Below w.heap.size w w' := by
  have HA := Lib.hid (r_eight_any (u64 key) w (u64_lt key))
  have hwr := u64_wrap key
  obtain ⟨K, hK⟩ : ∃ K, bigE (u64 key) 8 = K := ⟨_, rfl⟩
  have hK8 : K.length = 8 := by rw [← hK]; exact bigE_len _ _
  have HS : Hid (sgN key b = sgF sg0 (K ++ b ++ K)) := Lib.hid (by unfold sgN; rw [hK])
  rw [hK] at HA
  generalize u64 key = KN at *
  have HK8 := Lib.hid hK8
  clear hK hK8
  go_enter Try.func74, Try.ntmps74
  go_wp2_with fail
  refine HA.out.mono ?_
  rintro e w1 ⟨v1, rfl, ho1, b1⟩
  obtain ⟨A1, c1, rfl, hr1⟩ := ho1.form
  have hb1 : BR w1 w1.heap.size A b := (h.below (b1.mono hB)).lift (Nat.le_trans hB b1.size)
  obtain ⟨ps, hps⟩ : ∃ ps : List Part, ps = [(A1, c1, K), (A, c, b), (A1, c1, K)] := ⟨_, rfl⟩
  obtain ⟨w2, hw2⟩ : ∃ w2, w1.alloc (.cells #[.slice A1 K.length c1, .slice A b.length c, .slice A1 K.length c1] 24) = w2 := ⟨_, rfl⟩
  have b2 : Below w1.heap.size w1 w2 := by rw [← hw2]; exact (Below.refl _ _).alloc (Nat.le_refl _) _
  have z2 : w2.heap.size = w1.heap.size + 1 := by rw [← hw2]; simp
  have hP : Cells w2 w2.heap.size (some ⟨w1.heap.size, 0, none⟩) (ps.map sv) := by rw [z2, ← hw2, hps]; exact Cells.fresh w1 _ 24 _ _ rfl
  have hBp : ∀ p ∈ ps, BR w2 w2.heap.size p.1 p.2.2 := by
    rw [hps]
    intro p hp
    simp only [List.mem_cons, List.not_mem_nil, or_false] at hp
    rcases hp with rfl | rfl | rfl
    · exact (hr1.below b2).lift b2.size
    · exact (hb1.below b2).lift b2.size
    · exact (hr1.below b2).lift b2.size
  have hpl : ps.length = 3 := by rw [hps]; rfl
  have hjl : (joined ps).length ≤ 100016 := by
    have := HK8.out
    rw [hps]
    simp [joined]
    omega
  have HJ : Hid (sgN key b = sgF sg0 (joined ps)) := Lib.hid (by rw [HS.out, hps]; simp [joined])
  have B2 := b1.trans (b2.mono b1.size)
  have HC0 := concat_any (some ⟨w1.heap.size, 0, none⟩) 3 ps w2 (by omega) (by omega) hP hBp
  rw [hpl] at HC0
  have HC := Lib.hid HC0
  have HW2 := Lib.hid hw2
  clear hps hpl hBp HS HA ho1 hr1 hb1 b1 b2 hw2 h hwr hP HC0
  go_upto_region 3 with fail
  go_wp2_with fail
  rw [HW2.out]
  refine HC.out.mono ?_
  rintro e w3 ⟨v3, rfl, ho3, b3⟩
  obtain ⟨A3, c3, rfl, hr3⟩ := ho3.form
  have B3 := B2.trans (b3.mono B2.size)
  generalize joined ps = J at *
  clear ho3 HC HW2 B2 b3
  go_wp2_with fail
  go_loop [5, 18] (fun s i => ∃ m : Nat, m ≤ J.length ∧ i = .int .i64 m ∧ s = .int .u64 ((sgF sg0 (J.take m) : Nat) : Int)) (fun _ i => J.length - (intOf i).toNat)
  case atStart => exact ⟨0, Nat.zero_le _, rfl, rfl⟩
  case round =>
    obtain ⟨m, hm, rfl, rfl⟩ := hrel
    by_cases hml : m < J.length
    · obtain ⟨ad2, rfl, -, hc2⟩ := hr3.get m hml
      have hF2 := sgF_lt (J.take m) sg0 sg0_lt
      have hM := sg_model (sgF sg0 (J.take m)) J[m] hF2
      have HN : Hid (sgF sg0 (J.take (m + 1)) = sgStep (sgF sg0 (J.take m)) J[m]) := Lib.hid (by rw [List.take_succ_eq_append_getElem hml, sgF_snoc])
      have hz2 := sgStep_lt (sgF sg0 (J.take m)) J[m]
      generalize sgStep (sgF sg0 (J.take m)) J[m] = Z at *
      generalize sgF sg0 (J.take m) = Y at *
      have hC2 := J[m].toNat_lt
      generalize J[m].toNat = C at *
      have hj0 : (0 : Int) ≤ (m : Int) := by omega
      have hj1 : (m : Int) < (J.length : Int) := by omega
      go_wp2_with fail
      go_round
      case rel => exact ⟨m + 1, by omega, by go_num, by rw [HN.out]⟩
      case measure => simp [intOf]; omega
    · obtain rfl : m = J.length := by omega
      rw [List.take_length]
      have HJ2 := HJ.out
      have HJJ := Lib.hid HJ2.symm
      clear HJ2 HJ
      generalize sgF sg0 J = H at *
      go_wp2_with fail
      go_ret
      rw [HJJ.out]
      exact ⟨rfl, B3⟩
end Go.Proofs.Yteikggieekhfkaa
