/- products of 128 bits, and their division by 64. -/
import Derived.Test.YtpccpkjfnmclfaaWords
import Derived.Test.YtpccpkjfnmclfaaShiftMath
import Derived.Test.YtpccpkjfnmclfaaLen
import Derived.WalkKit
import Derived.Outline
import Derived.Handy
import Derived.Lib.Hide
import Derived.Lib.Mul64
import Derived.Lib.BitFns
import Derived.Laws.Bits64b
import Derived.Laws.BitsAllLaws
import Derived.OwnWalk
import Derived.RegionTactic
namespace Go.Proofs.Ytpccpkjfnmclfaa
open Go.RowKit

theorem mask32 (a : Nat) (ha : a < 18446744073709551616) : bits .and .u64 (a : Int) 4294967295 = ((a % 4294967296 : Nat) : Int) := by
  have h := bits_and_u64_nat a 4294967295 ha (by omega)
  have e : a &&& 4294967295 = a % 4294967296 := Nat.and_two_pow_sub_one_eq_mod a 32
  rw [e] at h
  exact h
theorem half32 (a : Nat) : (a : Int) / 4294967296 = ((a / 4294967296 : Nat) : Int) := by omega
theorem mulN (a b : Nat) : (a : Int) * (b : Int) = ((a * b : Nat) : Int) := (Int.natCast_mul a b).symm
theorem addN (a b : Nat) : (a : Int) + (b : Int) = ((a + b : Nat) : Int) := (Int.natCast_add a b).symm
theorem wrapU (a : Nat) (ha : a < 18446744073709551616) : IntKind.u64.wrap (a : Int) = (a : Int) := by rw [IntKind.wrap_u64]; omega
theorem wrapM (a : Nat) : IntKind.u64.wrap (a : Int) = ((a % 18446744073709551616 : Nat) : Int) := by rw [IntKind.wrap_u64]; omega

set_option maxRecDepth 100000 in
set_option maxHeartbeats 1000000 in
/-- the product of two numbers, in two halves of 64 bits -/
theorem mul64_any (x y : Nat) (hx : x < 18446744073709551616) (hy : y < 18446744073709551616) (w : World) :
    Calls Try.prog 111 #[.int .u64 x, .int .u64 y] w fun e w' => e = .returned (.tuple #[.int .u64 ((x * y / 18446744073709551616 : Nat) : Int), .int .u64 ((x * y % 18446744073709551616 : Nat) : Int)]) ∧ w = w' := by
  obtain ⟨bd, bt, bw, hhi⟩ := Lib.mul64_hi x y hx hy
  have ba := Lib.half_mul_le (a := x / 4294967296) (b := y / 4294967296) (by omega) (by omega)
  have bb := Lib.half_mul_le (a := x / 4294967296) (b := y % 4294967296) (by omega) (by omega)
  have bc := Lib.half_mul_le (a := x % 4294967296) (b := y / 4294967296) (by omega) (by omega)
  have ba' : x / 4294967296 * (y / 4294967296) < 18446744073709551616 := by omega
  have bb' : x / 4294967296 * (y % 4294967296) < 18446744073709551616 := by omega
  have bc' : x % 4294967296 * (y / 4294967296) < 18446744073709551616 := by omega
  have bh1 : x / 4294967296 * (y / 4294967296) + (x / 4294967296 * (y % 4294967296) + x % 4294967296 * (y % 4294967296) / 4294967296) / 4294967296 < 18446744073709551616 := by omega
  have bh : x / 4294967296 * (y / 4294967296) + (x / 4294967296 * (y % 4294967296) + x % 4294967296 * (y % 4294967296) / 4294967296) / 4294967296 + ((x / 4294967296 * (y % 4294967296) + x % 4294967296 * (y % 4294967296) / 4294967296) % 4294967296 + x % 4294967296 * (y / 4294967296)) / 4294967296 < 18446744073709551616 := by omega
  go_enter Try.func111, Try.ntmps111
  go_wp2
  simp only [mask32 x hx, mask32 y hy, half32, mulN, addN, wrapU _ bd, wrapU _ bb', wrapU _ bt, mask32 _ bt, wrapU _ bc', wrapU _ bw, wrapU _ ba', wrapU _ bh1, wrapU _ bh, wrapM (x * y)]
  rw [hhi]
  go_ret2
  exact ⟨rfl, rfl⟩

set_option maxHeartbeats 400000 in
theorem lead_any (y : Nat) (w : World) (h0 : 0 < y) (h : y < 18446744073709551616) :
    Calls Try.prog 128 #[.int .u64 y] w fun e w' => e = .returned (.int .i64 (lead y : Nat)) ∧ w = w' := by
  have hl := fun w => len64_any (y : Int) w (by omega) (by omega)
  simp only [Int.toNat_natCast] at hl
  obtain ⟨a, b, -, -⟩ := lead_bd y h0 h
  rw [b] at hl
  generalize lead y = s at *
  have HL := Lib.hid hl
  clear hl
  go_enter Try.func128, Try.ntmps128
  go_wp2_with fail
  refine (HL.out _).mono ?_
  rintro e w1 ⟨rfl, rfl⟩
  go_wp2_with fail
  go_ret
  exact ⟨ret_int (by omega), rfl⟩

theorem pow_cast (s : Nat) : ((2 ^ s : Nat) : Int) = (2 : Int) ^ s := Int.natCast_pow 2 s
theorem shl_fits (y s : Nat) (h : y * 2 ^ s < 18446744073709551616) : IntKind.u64.wrap ((y : Int) * 2 ^ s) = ((y * 2 ^ s : Nat) : Int) := by
  rw [← pow_cast, mulN]
  exact wrapU _ h
theorem shl_wraps (y s : Nat) : IntKind.u64.wrap ((y : Int) * 2 ^ s) = ((y * 2 ^ s % 18446744073709551616 : Nat) : Int) := by
  rw [← pow_cast, mulN]
  exact wrapM _
theorem upper_lt {hi lo y s : Nat} (hs : s ≤ 63) (hlo : lo < 18446744073709551616) (hh : hi < y) : hi * 2 ^ s + lo / 2 ^ (64 - s) < y * 2 ^ s ∧ lo / 2 ^ (64 - s) < 2 ^ s := by
  have h1 : lo / 2 ^ (64 - s) < 2 ^ s := by
    rw [Nat.div_lt_iff_lt_mul (Nat.pos_of_ne_zero (by simp)), ← Nat.pow_add, show s + (64 - s) = 64 by omega]
    simpa using hlo
  refine ⟨?_, h1⟩
  calc hi * 2 ^ s + lo / 2 ^ (64 - s) < hi * 2 ^ s + 2 ^ s := by omega
    _ = (hi + 1) * 2 ^ s := by rw [Nat.add_mul, Nat.one_mul]
    _ ≤ y * 2 ^ s := Nat.mul_le_mul_right _ hh
theorem or_join {hi lo y s : Nat} (hs : s ≤ 63) (hlo : lo < 18446744073709551616) (hh : hi < y) (h : y * 2 ^ s < 18446744073709551616) :
    bits .or .u64 (IntKind.u64.wrap ((hi : Int) * 2 ^ s)) ((lo : Int) / 2 ^ (64 - s)) = ((hi * 2 ^ s + lo / 2 ^ (64 - s) : Nat) : Int) := by
  obtain ⟨h1, h2⟩ := upper_lt hs hlo hh
  have e : (lo : Int) / 2 ^ (64 - s) = ((lo / 2 ^ (64 - s) : Nat) : Int) := by rw [← pow_cast, Int.natCast_ediv]
  have h3 : hi * 2 ^ s < 18446744073709551616 := Nat.lt_of_le_of_lt (Nat.le_add_right _ _) (Nat.lt_trans h1 h)
  have h4 : lo / 2 ^ (64 - s) < 18446744073709551616 := Nat.lt_of_le_of_lt (Nat.div_le_self _ _) hlo
  rw [shl_fits hi s h3, e, u64_or_nat _ _ h3 h4, Nat.mul_comm hi, Nat.two_pow_add_eq_or_of_lt h2]
theorem quo_nat (u y1 : Nat) (hu : u < 18446744073709551616) : IntKind.u64.wrap ((u : Int) / (y1 : Int)) = ((u / y1 : Nat) : Int) := by
  rw [← Int.natCast_ediv]
  exact wrapU _ (Nat.lt_of_le_of_lt (Nat.div_le_self _ _) hu)
theorem rem_nat (u y1 : Nat) (hu : u < 18446744073709551616) : IntKind.u64.wrap ((u : Int) - IntKind.u64.wrap (((u / y1 : Nat) : Int) * (y1 : Int))) = ((u % y1 : Nat) : Int) := by
  have h1 := Nat.div_add_mod u y1
  have h2 : u / y1 * y1 ≤ u := Nat.div_mul_le_self _ _
  rw [mulN, wrapU _ (by omega)]
  have e : (u : Int) - ((u / y1 * y1 : Nat) : Int) = ((u % y1 : Nat) : Int) := by
    rw [Nat.mul_comm] at h1
    generalize u / y1 * y1 = m at *
    omega
  rw [e]
  exact wrapU _ (Nat.lt_of_le_of_lt (Nat.mod_le _ _) hu)
theorem rest_wrap {u u1 y q : Nat} (hy : 0 < y) (hy' : y < 18446744073709551616) (hq : q = (u * 4294967296 + u1) / y) :
    IntKind.u64.wrap (IntKind.u64.wrap (IntKind.u64.wrap ((u : Int) * 4294967296) + (u1 : Int)) - IntKind.u64.wrap ((q : Int) * (y : Int))) = (((u * 4294967296 + u1) % y : Nat) : Int) := by
  rw [IntKind.wrap_u64, IntKind.wrap_u64, IntKind.wrap_u64, IntKind.wrap_u64]
  exact digit_rest hy hy' hq
theorem div_fin {U u1 u0 Y y1 y0 V qa qb s Q M : Nat} (hy : 0 < Y) (hy' : Y < 18446744073709551616) (eY : y1 * 4294967296 + y0 = Y) (ha : qa = (U * 4294967296 + u1) / (y1 * 4294967296 + y0)) (hV : V = (U * 4294967296 + u1) % Y)
    (hb : qb = (V * 4294967296 + u0) / (y1 * 4294967296 + y0)) (la : (U * 4294967296 + u1) / (y1 * 4294967296 + y0) < 4294967296) (lb : (V * 4294967296 + u0) / (y1 * 4294967296 + y0) < 4294967296)
    (h : (U * 4294967296 + u1) / Y * 4294967296 + ((U * 4294967296 + u1) % Y * 4294967296 + u0) / Y = Q ∧ ((U * 4294967296 + u1) % Y * 4294967296 + u0) % Y / 2 ^ s = M) :
    IntKind.u64.wrap (IntKind.u64.wrap ((qa : Int) * 4294967296) + (qb : Int)) = (Q : Int) ∧
    ∃ X : Nat, IntKind.u64.wrap (IntKind.u64.wrap (IntKind.u64.wrap ((V : Int) * 4294967296) + (u0 : Int)) - IntKind.u64.wrap ((qb : Int) * (Y : Int))) = (X : Int) ∧ (X : Int) / 2 ^ s = (M : Int) := by
  rw [eY] at ha hb la lb
  obtain ⟨h1, h2⟩ := h
  rw [← hV, ← ha, ← hb] at h1
  rw [← hV] at h2
  rw [← ha] at la
  rw [← hb] at lb
  refine ⟨?_, _, rest_wrap hy hy' hb, ?_⟩
  · have : IntKind.u64.wrap ((qa : Int) * 4294967296) = (qa : Int) * 4294967296 := by rw [IntKind.wrap_u64]; omega
    rw [this, IntKind.wrap_u64]
    omega
  · rw [← h2, ← pow_cast, Int.natCast_ediv]
set_option maxHeartbeats 400000 in
theorem div64_low (lo y : Nat) (w : World) (hlo : lo < 18446744073709551616) (h : 0 < y) :
    Calls Try.prog 124 #[.int .u64 0, .int .u64 lo, .int .u64 y] w fun e w' => e = .returned (.tuple #[.int .u64 ((lo / y : Nat) : Int), .int .u64 ((lo % y : Nat) : Int)]) ∧ Below w.heap.size w w' := by
  have hyn : ¬ ((y : Int) = 0) := by omega
  have hyn2 : ¬ (y = 0) := by omega
  have hy0 : ((y : Int) == 0) = false := beq_eq_false_iff_ne.2 (by omega)
  have hy1 : decide ((y : Int) ≤ 0) = false := by simp; omega
  have fq := quo_nat lo y hlo
  have fm : (lo : Int) % (y : Int) = ((lo % y : Nat) : Int) := (Int.natCast_emod lo y).symm
  obtain ⟨Q, hQ⟩ : ∃ Q, Q = lo / y := ⟨_, rfl⟩
  obtain ⟨M, hM⟩ : ∃ M, M = lo % y := ⟨_, rfl⟩
  rw [← hQ] at fq ⊢
  rw [← hM] at fm ⊢
  clear hQ hM
  go_enter Try.func124, Try.ntmps124
  go_wp2_with fail
  go_region
  go_wp2_with fail
  go_ret2
  exact ⟨by rw [← fm]; rfl, below_draws (Below.refl _ _) _⟩
/-- the head of a digit's loop -/
def DivAt (u u1 y1 y0 : Nat) (w : World) (a b : Value) (wr : World) : Prop := ∃ q r : Nat, a = .int .u64 q ∧ b = .int .u64 r ∧ w = wr ∧ DigitAt u u1 y1 y0 q r
set_option maxRecDepth 100000 in
set_option maxHeartbeats 4000000 in
theorem div64_any (hi lo y : Nat) (w : World) (hlo : lo < 18446744073709551616) (hy : y < 18446744073709551616) (hh : hi < y) :
    Calls Try.prog 124 #[.int .u64 hi, .int .u64 lo, .int .u64 y] w fun e w' => e = .returned (.tuple #[.int .u64 (((hi * 18446744073709551616 + lo) / y : Nat) : Int), .int .u64 (((hi * 18446744073709551616 + lo) % y : Nat) : Int)]) ∧ Below w.heap.size w w' := by
  have hy0 : ((y : Int) == 0) = false := beq_eq_false_iff_ne.2 (by omega)
  have hy1 : decide ((y : Int) ≤ hi) = false := by simp; omega
  have hl := fun w => lead_any y w (by omega) hy
  have hdw := fun u u1 u0 Y => div_whole hi lo y (by omega) hy hlo u u1 u0 Y
  obtain ⟨s1, -, s2, s3⟩ := lead_bd y (by omega) hy
  generalize lead y = s at *
  have HL := Lib.hid hl
  clear hl
  rcases Nat.eq_zero_or_pos hi with h | h
  · subst h
    rw [show 0 * 18446744073709551616 + lo = lo by omega]
    exact div64_low lo y w hlo (by omega)
  · have hi0 : ((hi : Int) == 0) = false := beq_eq_false_iff_ne.2 (by omega)
    have fO := or_join s1 hlo hh s3
    obtain ⟨hU, -⟩ := upper_lt s1 hlo hh
    have fY := shl_fits y s s3
    have fL := shl_wraps lo s
    have hLb : lo * 2 ^ s % 18446744073709551616 < 18446744073709551616 := Nat.mod_lt _ (by omega)
    obtain ⟨Q, hQ⟩ : ∃ Q, Q = (hi * 18446744073709551616 + lo) / y := ⟨_, rfl⟩
    obtain ⟨M, hM⟩ : ∃ M, M = (hi * 18446744073709551616 + lo) % y := ⟨_, rfl⟩
    obtain ⟨U, hUe⟩ : ∃ U, U = hi * 2 ^ s + lo / 2 ^ (64 - s) := ⟨_, rfl⟩
    obtain ⟨Y, hYe⟩ : ∃ Y, Y = y * 2 ^ s := ⟨_, rfl⟩
    obtain ⟨L, hLe⟩ : ∃ L, L = lo * 2 ^ s % 18446744073709551616 := ⟨_, rfl⟩
    rw [← hQ, ← hM]
    rw [← hUe] at fO hU
    rw [← hYe] at fY hU s2 s3
    rw [← hLe] at fL hLb
    have hdw := hdw U (L / 4294967296) (L % 4294967296) Y hUe (by rw [← hLe]; omega) hYe
    rw [← hQ, ← hM] at hdw
    clear hQ hM hUe hYe hLe
    have aY := mask32 Y s3
    have aL := mask32 L hLb
    have dY := half32 Y
    have dL := half32 L
    have eY : Y / 4294967296 * 4294967296 + Y % 4294967296 = Y := by omega
    have y1a : 2147483648 ≤ Y / 4294967296 := by omega
    have y1b : Y / 4294967296 < 4294967296 := by omega
    have y0b : Y % 4294967296 < 4294967296 := by omega
    have u1b : L / 4294967296 < 4294967296 := by omega
    have u0b : L % 4294967296 < 4294967296 := by omega
    generalize Y / 4294967296 = y1 at *
    generalize Y % 4294967296 = y0 at *
    generalize L / 4294967296 = u1 at *
    generalize L % 4294967296 = u0 at *
    have q1f := quo_nat U y1 (by omega)
    have r1f := rem_nat U y1 (by omega)
    have D1 := Lib.hid (digit_start y1a y1b y0b (show U < y1 * 4294967296 + y0 by omega) u1b)
    have y1z : ((y1 : Int) == 0) = false := beq_eq_false_iff_ne.2 (by omega)
    have y1n : ¬ ((y1 : Int) = 0) := by omega
    have HDW := Lib.hid hdw
    clear hdw
    generalize U / y1 = q1 at *
    generalize U % y1 = r1 at *
    go_enter Try.func124, Try.ntmps124
    go_wp2_with fail
    refine (HL.out _).mono ?_
    rintro e w1 ⟨rfl, rfl⟩
    go_wp2_with fail
    go_loopw [15, 16] (fun a b wr => DivAt U u1 y1 y0 w a b wr) (fun a _ _ => (intOf a).toNat)
    case atStart => exact ⟨q1, r1, rfl, rfl, rfl, D1.out⟩
    case round =>
      obtain ⟨q, r, rfl, rfl, rfl, hd⟩ := hrel
      obtain ⟨g1, g2⟩ := digit_small y0b u1b hd
      have hqb := hd.2.2.2
      have hrb := hd.2.1
      have fP : IntKind.u64.wrap ((q : Int) * (y0 : Int)) = ((q * y0 : Nat) : Int) := by rw [mulN]; exact wrapU _ g1
      have fR1 : IntKind.u64.wrap (4294967296 * (r : Int)) = 4294967296 * (r : Int) := by rw [IntKind.wrap_u64]; omega
      have fR2 : IntKind.u64.wrap (4294967296 * (r : Int) + (u1 : Int)) = 4294967296 * (r : Int) + (u1 : Int) := by rw [IntKind.wrap_u64]; omega
      by_cases hc : 4294967296 ≤ q ∨ 4294967296 * r + u1 < q * y0
      · obtain ⟨k1, -, -⟩ := digit_less y1a (show U < y1 * 4294967296 + y0 by omega) u1b hd hc
        have fQ : IntKind.u64.wrap ((q : Int) - 1) = ((q - 1 : Nat) : Int) := by rw [IntKind.wrap_u64]; omega
        have fS : IntKind.u64.wrap ((r : Int) + (y1 : Int)) = ((r + y1 : Nat) : Int) := by rw [IntKind.wrap_u64]; omega
        have HC := Lib.hid hc
        by_cases hb : 4294967296 ≤ r + y1
        · have HB := Lib.hid (digit_break y1a y0b (show U < y1 * 4294967296 + y0 by omega) u1b hd hc hb)
          clear hd
          generalize q - 1 = qa at *
          generalize hr2 : r + y1 = r2 at *
          have hr3 : decide (4294967296 ≤ (r2 : Int)) = true := by simp; omega
          generalize q * y0 = P at *
          have HQA := HB
          by_cases hc1 : 4294967296 ≤ q
          · have t1 : decide (4294967296 ≤ (q : Int)) = true := by simp; omega
            clear hc HC HB
            obtain ⟨V, hV⟩ : ∃ V, V = (U * 4294967296 + u1) % Y := ⟨_, rfl⟩
            have fV : IntKind.u64.wrap (IntKind.u64.wrap (IntKind.u64.wrap ((U : Int) * 4294967296) + (u1 : Int)) - IntKind.u64.wrap ((qa : Int) * (Y : Int))) = (V : Int) := by
              rw [hV]
              exact rest_wrap (by omega) s3 (by rw [HQA.out, eY])
            have hVY : V < Y := by rw [hV]; exact Nat.mod_lt _ (by omega)
            have HV := Lib.hid hV
            clear hV
            have q0f := quo_nat V y1 (by omega)
            have r0f := rem_nat V y1 (by omega)
            have D2 := Lib.hid (digit_start y1a y1b y0b (show V < y1 * 4294967296 + y0 by omega) u0b)
            generalize V / y1 = q0 at *
            generalize V % y1 = r0 at *
            go_wp2_with fail
            go_loopw [16, 18] (fun a b wr => DivAt V u0 y1 y0 w b a wr) (fun _ b _ => (intOf b).toNat)
            case atStart => exact ⟨q0, r0, rfl, rfl, rfl, D2.out⟩
            case round =>
              obtain ⟨q, r, rfl, rfl, rfl, hd⟩ := hrel
              obtain ⟨g1, g2⟩ := digit_small y0b u0b hd
              have hqb := hd.2.2.2
              have hrb := hd.2.1
              have fP : IntKind.u64.wrap ((q : Int) * (y0 : Int)) = ((q * y0 : Nat) : Int) := by rw [mulN]; exact wrapU _ g1
              have fR1 : IntKind.u64.wrap (4294967296 * (r : Int)) = 4294967296 * (r : Int) := by rw [IntKind.wrap_u64]; omega
              have fR2 : IntKind.u64.wrap (4294967296 * (r : Int) + (u0 : Int)) = 4294967296 * (r : Int) + (u0 : Int) := by rw [IntKind.wrap_u64]; omega
              by_cases hc : 4294967296 ≤ q ∨ 4294967296 * r + u0 < q * y0
              · obtain ⟨k1, -, -⟩ := digit_less y1a (show V < y1 * 4294967296 + y0 by omega) u0b hd hc
                have fQ : IntKind.u64.wrap ((q : Int) - 1) = ((q - 1 : Nat) : Int) := by rw [IntKind.wrap_u64]; omega
                have fS : IntKind.u64.wrap ((r : Int) + (y1 : Int)) = ((r + y1 : Nat) : Int) := by rw [IntKind.wrap_u64]; omega
                by_cases hb : 4294967296 ≤ r + y1
                · have HB := Lib.hid (digit_break y1a y0b (show V < y1 * 4294967296 + y0 by omega) u0b hd hc hb)
                  clear hd
                  generalize q - 1 = qb at *
                  generalize hr2 : r + y1 = r2 at *
                  have hr3 : decide (4294967296 ≤ (r2 : Int)) = true := by simp; omega
                  generalize q * y0 = P at *
                  by_cases hc1 : 4294967296 ≤ q
                  · have t1 : decide (4294967296 ≤ (q : Int)) = true := by simp; omega
                    clear hc
                    have fin := div_fin (by omega) s3 eY HQA.out HV.out HB.out (digit_lt y1a (show U < y1 * 4294967296 + y0 by omega) u1b) (digit_lt y1a (show V < y1 * 4294967296 + y0 by omega) u0b) HDW.out
                    obtain ⟨z1, X, z2, z3⟩ := fin
                    go_wp2_with fail
                    go_ret2
                    exact ⟨rfl, Below.refl _ _⟩
                  · have t1 : decide (4294967296 ≤ (q : Int)) = false := by simp; omega
                    have t2 : decide (4294967296 * (r : Int) + (u0 : Int) < (P : Int)) = true := by simp; omega
                    clear hc
                    have fin := div_fin (by omega) s3 eY HQA.out HV.out HB.out (digit_lt y1a (show U < y1 * 4294967296 + y0 by omega) u1b) (digit_lt y1a (show V < y1 * 4294967296 + y0 by omega) u0b) HDW.out
                    obtain ⟨z1, X, z2, z3⟩ := fin
                    go_wp2_with fail
                    go_ret2
                    exact ⟨rfl, Below.refl _ _⟩
                · have HN := Lib.hid (digit_next y1a (show V < y1 * 4294967296 + y0 by omega) u0b hd hc (by omega))
                  have hm : q - 1 < q := by omega
                  generalize q - 1 = q2 at *
                  generalize hr2 : r + y1 = r2 at *
                  have hr3 : decide (4294967296 ≤ (r2 : Int)) = false := by simp; omega
                  generalize q * y0 = P at *
                  by_cases hc1 : 4294967296 ≤ q
                  · have t1 : decide (4294967296 ≤ (q : Int)) = true := by simp; omega
                    clear hc hd
                    go_wp2_with fail
                    go_roundw
                    case rel => exact ⟨q2, r2, rfl, rfl, rfl, HN.out⟩
                    case measure => simp [intOf]; omega
                  · have t1 : decide (4294967296 ≤ (q : Int)) = false := by simp; omega
                    have t2 : decide (4294967296 * (r : Int) + (u0 : Int) < (P : Int)) = true := by simp; omega
                    clear hc hd
                    go_wp2_with fail
                    go_roundw
                    case rel => exact ⟨q2, r2, rfl, rfl, rfl, HN.out⟩
                    case measure => simp [intOf]; omega
              · have HB := Lib.hid (digit_end y1a hd (by omega))
                generalize hqb : q = qb at *
                generalize qb * y0 = P at *
                have t1 : decide (4294967296 ≤ (qb : Int)) = false := by simp; omega
                have t2 : decide (4294967296 * (r : Int) + (u0 : Int) < (P : Int)) = false := by simp; omega
                clear hc hd
                have fin := div_fin (by omega) s3 eY HQA.out HV.out HB.out (digit_lt y1a (show U < y1 * 4294967296 + y0 by omega) u1b) (digit_lt y1a (show V < y1 * 4294967296 + y0 by omega) u0b) HDW.out
                obtain ⟨z1, X, z2, z3⟩ := fin
                go_wp2_with fail
                go_ret2
                exact ⟨rfl, Below.refl _ _⟩
          · have t1 : decide (4294967296 ≤ (q : Int)) = false := by simp; omega
            have t2 : decide (4294967296 * (r : Int) + (u1 : Int) < (P : Int)) = true := by simp; omega
            clear hc HC HB
            obtain ⟨V, hV⟩ : ∃ V, V = (U * 4294967296 + u1) % Y := ⟨_, rfl⟩
            have fV : IntKind.u64.wrap (IntKind.u64.wrap (IntKind.u64.wrap ((U : Int) * 4294967296) + (u1 : Int)) - IntKind.u64.wrap ((qa : Int) * (Y : Int))) = (V : Int) := by
              rw [hV]
              exact rest_wrap (by omega) s3 (by rw [HQA.out, eY])
            have hVY : V < Y := by rw [hV]; exact Nat.mod_lt _ (by omega)
            have HV := Lib.hid hV
            clear hV
            have q0f := quo_nat V y1 (by omega)
            have r0f := rem_nat V y1 (by omega)
            have D2 := Lib.hid (digit_start y1a y1b y0b (show V < y1 * 4294967296 + y0 by omega) u0b)
            generalize V / y1 = q0 at *
            generalize V % y1 = r0 at *
            go_wp2_with fail
            go_loopw [16, 18] (fun a b wr => DivAt V u0 y1 y0 w b a wr) (fun _ b _ => (intOf b).toNat)
            case atStart => exact ⟨q0, r0, rfl, rfl, rfl, D2.out⟩
            case round =>
              obtain ⟨q, r, rfl, rfl, rfl, hd⟩ := hrel
              obtain ⟨g1, g2⟩ := digit_small y0b u0b hd
              have hqb := hd.2.2.2
              have hrb := hd.2.1
              have fP : IntKind.u64.wrap ((q : Int) * (y0 : Int)) = ((q * y0 : Nat) : Int) := by rw [mulN]; exact wrapU _ g1
              have fR1 : IntKind.u64.wrap (4294967296 * (r : Int)) = 4294967296 * (r : Int) := by rw [IntKind.wrap_u64]; omega
              have fR2 : IntKind.u64.wrap (4294967296 * (r : Int) + (u0 : Int)) = 4294967296 * (r : Int) + (u0 : Int) := by rw [IntKind.wrap_u64]; omega
              by_cases hc : 4294967296 ≤ q ∨ 4294967296 * r + u0 < q * y0
              · obtain ⟨k1, -, -⟩ := digit_less y1a (show V < y1 * 4294967296 + y0 by omega) u0b hd hc
                have fQ : IntKind.u64.wrap ((q : Int) - 1) = ((q - 1 : Nat) : Int) := by rw [IntKind.wrap_u64]; omega
                have fS : IntKind.u64.wrap ((r : Int) + (y1 : Int)) = ((r + y1 : Nat) : Int) := by rw [IntKind.wrap_u64]; omega
                by_cases hb : 4294967296 ≤ r + y1
                · have HB := Lib.hid (digit_break y1a y0b (show V < y1 * 4294967296 + y0 by omega) u0b hd hc hb)
                  clear hd
                  generalize q - 1 = qb at *
                  generalize hr2 : r + y1 = r2 at *
                  have hr3 : decide (4294967296 ≤ (r2 : Int)) = true := by simp; omega
                  generalize q * y0 = P at *
                  by_cases hc1 : 4294967296 ≤ q
                  · have t1 : decide (4294967296 ≤ (q : Int)) = true := by simp; omega
                    clear hc
                    have fin := div_fin (by omega) s3 eY HQA.out HV.out HB.out (digit_lt y1a (show U < y1 * 4294967296 + y0 by omega) u1b) (digit_lt y1a (show V < y1 * 4294967296 + y0 by omega) u0b) HDW.out
                    obtain ⟨z1, X, z2, z3⟩ := fin
                    go_wp2_with fail
                    go_ret2
                    exact ⟨rfl, Below.refl _ _⟩
                  · have t1 : decide (4294967296 ≤ (q : Int)) = false := by simp; omega
                    have t2 : decide (4294967296 * (r : Int) + (u0 : Int) < (P : Int)) = true := by simp; omega
                    clear hc
                    have fin := div_fin (by omega) s3 eY HQA.out HV.out HB.out (digit_lt y1a (show U < y1 * 4294967296 + y0 by omega) u1b) (digit_lt y1a (show V < y1 * 4294967296 + y0 by omega) u0b) HDW.out
                    obtain ⟨z1, X, z2, z3⟩ := fin
                    go_wp2_with fail
                    go_ret2
                    exact ⟨rfl, Below.refl _ _⟩
                · have HN := Lib.hid (digit_next y1a (show V < y1 * 4294967296 + y0 by omega) u0b hd hc (by omega))
                  have hm : q - 1 < q := by omega
                  generalize q - 1 = q2 at *
                  generalize hr2 : r + y1 = r2 at *
                  have hr3 : decide (4294967296 ≤ (r2 : Int)) = false := by simp; omega
                  generalize q * y0 = P at *
                  by_cases hc1 : 4294967296 ≤ q
                  · have t1 : decide (4294967296 ≤ (q : Int)) = true := by simp; omega
                    clear hc hd
                    go_wp2_with fail
                    go_roundw
                    case rel => exact ⟨q2, r2, rfl, rfl, rfl, HN.out⟩
                    case measure => simp [intOf]; omega
                  · have t1 : decide (4294967296 ≤ (q : Int)) = false := by simp; omega
                    have t2 : decide (4294967296 * (r : Int) + (u0 : Int) < (P : Int)) = true := by simp; omega
                    clear hc hd
                    go_wp2_with fail
                    go_roundw
                    case rel => exact ⟨q2, r2, rfl, rfl, rfl, HN.out⟩
                    case measure => simp [intOf]; omega
              · have HB := Lib.hid (digit_end y1a hd (by omega))
                generalize hqb : q = qb at *
                generalize qb * y0 = P at *
                have t1 : decide (4294967296 ≤ (qb : Int)) = false := by simp; omega
                have t2 : decide (4294967296 * (r : Int) + (u0 : Int) < (P : Int)) = false := by simp; omega
                clear hc hd
                have fin := div_fin (by omega) s3 eY HQA.out HV.out HB.out (digit_lt y1a (show U < y1 * 4294967296 + y0 by omega) u1b) (digit_lt y1a (show V < y1 * 4294967296 + y0 by omega) u0b) HDW.out
                obtain ⟨z1, X, z2, z3⟩ := fin
                go_wp2_with fail
                go_ret2
                exact ⟨rfl, Below.refl _ _⟩
        · have HN := Lib.hid (digit_next y1a (show U < y1 * 4294967296 + y0 by omega) u1b hd hc (by omega))
          have hm : q - 1 < q := by omega
          generalize q - 1 = q2 at *
          generalize hr2 : r + y1 = r2 at *
          have hr3 : decide (4294967296 ≤ (r2 : Int)) = false := by simp; omega
          generalize q * y0 = P at *
          by_cases hc1 : 4294967296 ≤ q
          · have t1 : decide (4294967296 ≤ (q : Int)) = true := by simp; omega
            clear hc hd
            go_wp2_with fail
            go_roundw
            case rel => exact ⟨q2, r2, rfl, rfl, rfl, HN.out⟩
            case measure => simp [intOf]; omega
          · have t1 : decide (4294967296 ≤ (q : Int)) = false := by simp; omega
            have t2 : decide (4294967296 * (r : Int) + (u1 : Int) < (P : Int)) = true := by simp; omega
            clear hc hd
            go_wp2_with fail
            go_roundw
            case rel => exact ⟨q2, r2, rfl, rfl, rfl, HN.out⟩
            case measure => simp [intOf]; omega
      · have HQA := Lib.hid (digit_end y1a hd (by omega))
        generalize hqa : q = qa at *
        generalize qa * y0 = P at *
        have t1 : decide (4294967296 ≤ (qa : Int)) = false := by simp; omega
        have t2 : decide (4294967296 * (r : Int) + (u1 : Int) < (P : Int)) = false := by simp; omega
        clear hc hd
        obtain ⟨V, hV⟩ : ∃ V, V = (U * 4294967296 + u1) % Y := ⟨_, rfl⟩
        have fV : IntKind.u64.wrap (IntKind.u64.wrap (IntKind.u64.wrap ((U : Int) * 4294967296) + (u1 : Int)) - IntKind.u64.wrap ((qa : Int) * (Y : Int))) = (V : Int) := by
          rw [hV]
          exact rest_wrap (by omega) s3 (by rw [HQA.out, eY])
        have hVY : V < Y := by rw [hV]; exact Nat.mod_lt _ (by omega)
        have HV := Lib.hid hV
        clear hV
        have q0f := quo_nat V y1 (by omega)
        have r0f := rem_nat V y1 (by omega)
        have D2 := Lib.hid (digit_start y1a y1b y0b (show V < y1 * 4294967296 + y0 by omega) u0b)
        generalize V / y1 = q0 at *
        generalize V % y1 = r0 at *
        go_wp2_with fail
        go_loopw [16, 18] (fun a b wr => DivAt V u0 y1 y0 w b a wr) (fun _ b _ => (intOf b).toNat)
        case atStart => exact ⟨q0, r0, rfl, rfl, rfl, D2.out⟩
        case round =>
          obtain ⟨q, r, rfl, rfl, rfl, hd⟩ := hrel
          obtain ⟨g1, g2⟩ := digit_small y0b u0b hd
          have hqb := hd.2.2.2
          have hrb := hd.2.1
          have fP : IntKind.u64.wrap ((q : Int) * (y0 : Int)) = ((q * y0 : Nat) : Int) := by rw [mulN]; exact wrapU _ g1
          have fR1 : IntKind.u64.wrap (4294967296 * (r : Int)) = 4294967296 * (r : Int) := by rw [IntKind.wrap_u64]; omega
          have fR2 : IntKind.u64.wrap (4294967296 * (r : Int) + (u0 : Int)) = 4294967296 * (r : Int) + (u0 : Int) := by rw [IntKind.wrap_u64]; omega
          by_cases hc : 4294967296 ≤ q ∨ 4294967296 * r + u0 < q * y0
          · obtain ⟨k1, -, -⟩ := digit_less y1a (show V < y1 * 4294967296 + y0 by omega) u0b hd hc
            have fQ : IntKind.u64.wrap ((q : Int) - 1) = ((q - 1 : Nat) : Int) := by rw [IntKind.wrap_u64]; omega
            have fS : IntKind.u64.wrap ((r : Int) + (y1 : Int)) = ((r + y1 : Nat) : Int) := by rw [IntKind.wrap_u64]; omega
            by_cases hb : 4294967296 ≤ r + y1
            · have HB := Lib.hid (digit_break y1a y0b (show V < y1 * 4294967296 + y0 by omega) u0b hd hc hb)
              clear hd
              generalize q - 1 = qb at *
              generalize hr2 : r + y1 = r2 at *
              have hr3 : decide (4294967296 ≤ (r2 : Int)) = true := by simp; omega
              generalize q * y0 = P at *
              by_cases hc1 : 4294967296 ≤ q
              · have t1 : decide (4294967296 ≤ (q : Int)) = true := by simp; omega
                clear hc
                have fin := div_fin (by omega) s3 eY HQA.out HV.out HB.out (digit_lt y1a (show U < y1 * 4294967296 + y0 by omega) u1b) (digit_lt y1a (show V < y1 * 4294967296 + y0 by omega) u0b) HDW.out
                obtain ⟨z1, X, z2, z3⟩ := fin
                go_wp2_with fail
                go_ret2
                exact ⟨rfl, Below.refl _ _⟩
              · have t1 : decide (4294967296 ≤ (q : Int)) = false := by simp; omega
                have t2 : decide (4294967296 * (r : Int) + (u0 : Int) < (P : Int)) = true := by simp; omega
                clear hc
                have fin := div_fin (by omega) s3 eY HQA.out HV.out HB.out (digit_lt y1a (show U < y1 * 4294967296 + y0 by omega) u1b) (digit_lt y1a (show V < y1 * 4294967296 + y0 by omega) u0b) HDW.out
                obtain ⟨z1, X, z2, z3⟩ := fin
                go_wp2_with fail
                go_ret2
                exact ⟨rfl, Below.refl _ _⟩
            · have HN := Lib.hid (digit_next y1a (show V < y1 * 4294967296 + y0 by omega) u0b hd hc (by omega))
              have hm : q - 1 < q := by omega
              generalize q - 1 = q2 at *
              generalize hr2 : r + y1 = r2 at *
              have hr3 : decide (4294967296 ≤ (r2 : Int)) = false := by simp; omega
              generalize q * y0 = P at *
              by_cases hc1 : 4294967296 ≤ q
              · have t1 : decide (4294967296 ≤ (q : Int)) = true := by simp; omega
                clear hc hd
                go_wp2_with fail
                go_roundw
                case rel => exact ⟨q2, r2, rfl, rfl, rfl, HN.out⟩
                case measure => simp [intOf]; omega
              · have t1 : decide (4294967296 ≤ (q : Int)) = false := by simp; omega
                have t2 : decide (4294967296 * (r : Int) + (u0 : Int) < (P : Int)) = true := by simp; omega
                clear hc hd
                go_wp2_with fail
                go_roundw
                case rel => exact ⟨q2, r2, rfl, rfl, rfl, HN.out⟩
                case measure => simp [intOf]; omega
          · have HB := Lib.hid (digit_end y1a hd (by omega))
            generalize hqb : q = qb at *
            generalize qb * y0 = P at *
            have t1 : decide (4294967296 ≤ (qb : Int)) = false := by simp; omega
            have t2 : decide (4294967296 * (r : Int) + (u0 : Int) < (P : Int)) = false := by simp; omega
            clear hc hd
            have fin := div_fin (by omega) s3 eY HQA.out HV.out HB.out (digit_lt y1a (show U < y1 * 4294967296 + y0 by omega) u1b) (digit_lt y1a (show V < y1 * 4294967296 + y0 by omega) u0b) HDW.out
            obtain ⟨z1, X, z2, z3⟩ := fin
            go_wp2_with fail
            go_ret2
            exact ⟨rfl, Below.refl _ _⟩
end Go.Proofs.Ytpccpkjfnmclfaa
