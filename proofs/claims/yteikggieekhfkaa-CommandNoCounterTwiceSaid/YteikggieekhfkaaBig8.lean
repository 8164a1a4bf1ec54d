/- numbers of eight bytes: written and read, also those below 0. -/
import Derived.Test.YteikggieekhfkaaBigApp
import Derived.Test.YteikggieekhfkaaBigNum
namespace Go.Proofs.Yteikggieekhfkaa
open Go.RowKit

/-- a number of 64 bits as it stands in eight bytes -/
def u64 (z : Int) : Nat := (z % 18446744073709551616).toNat
theorem u64_lt (z : Int) : u64 z < 18446744073709551616 := by unfold u64; omega
theorem u64_nat (n : Nat) (h : n < 18446744073709551616) : u64 (n : Int) = n := by unfold u64; omega
theorem shr_byte8 (z : Int) (k : Nat) (hk : k ≤ 7) : z / 2 ^ (8 * k) % 256 = ((UInt8.ofNat (u64 z / 256 ^ k)).toNat : Int) := by
  rw [← shr_byte]
  unfold u64
  have hz : (((z % 18446744073709551616).toNat : Nat) : Int) = z % 18446744073709551616 := Int.toNat_of_nonneg (by omega)
  rw [hz]
  have h8 : k = 0 ∨ k = 1 ∨ k = 2 ∨ k = 3 ∨ k = 4 ∨ k = 5 ∨ k = 6 ∨ k = 7 := by omega
  rcases h8 with rfl | rfl | rfl | rfl | rfl | rfl | rfl | rfl <;> omega
set_option maxRecDepth 100000 in
set_option maxHeartbeats 1000000 in
theorem append8_any (base : Nat) (v : Value) (l : List UInt8) (z : Int) (w : World) (hl : l.length ≤ 1000000) (hbase : base ≤ w.heap.size) (h : Own w base v l) :
    Calls Try.prog 70 #[v, .int .i64 z, .int .i64 8] w fun e w' => ∃ v', e = .returned v' ∧ Own w' base v' (l ++ bigE (u64 z) 8) ∧ Next w w' v v' := by
  obtain ⟨n, hn⟩ : ∃ n, u64 z = n := ⟨_, rfl⟩
  rw [hn]
  have HB := Lib.hid (fun (k : Nat) (hk : k ≤ 7) => by have := shr_byte8 z k hk; rw [hn] at this; exact this)
  clear hn
  obtain ⟨m, hm⟩ : ∃ m : Nat, m = 8 := ⟨_, rfl⟩
  have hmI : (8 : Int) = (m : Int) := by omega
  have hm8 : m ≤ 8 := by omega
  rw [hmI, ← hm]
  clear hm hmI
  go_enter Try.func70, Try.ntmps70
  go_wp2_with fail
  go_loopw [0, 7] (fun u i wr => ∃ (k : Nat) (X : List UInt8), k ≤ m ∧ i = .int .i64 ((k : Int) - 1) ∧ X.length + k = m ∧ bigE n m = X ++ bigE n k ∧ Own wr base u (l ++ X) ∧ Next w wr v u) (fun _ i _ => (intOf i + 1).toNat)
  case atStart => exact ⟨m, [], Nat.le_refl _, by go_num, by simp, rfl, by simpa using h, Next.refl _ _⟩
  case round =>
    obtain ⟨k, X, hk, rfl, hX, hE, hown, hnx⟩ := hrel
    rcases k with _ | k
    · go_wp2_with fail
      go_ret
      have : bigE n m = X := by simpa [bigE] using hE
      exact ⟨_, rfl, by rw [this]; exact hown, hnx⟩
    · have hXl : (l ++ X).length ≤ 1000008 := by simp; omega
      have HE := Lib.hid hE
      have HX := Lib.hid hX
      clear hE hX h
      generalize hL : l ++ X = L at *
      have HL := Lib.hid hL
      clear hL
      have hz := hnx.1.size
      have hk8 : k ≤ 7 := by omega
      obtain ⟨t, ht⟩ : ∃ t : UInt8, t = UInt8.ofNat (n / 256 ^ k) := ⟨_, rfl⟩
      have HT := Lib.hid ht
      have HV : Hid (z / 2 ^ (8 * k) % 256 = (t.toNat : Int)) := Lib.hid (by rw [ht]; exact HB.out k hk8)
      clear ht
      go_wp2_with (first | (at_builtin; refine wpList_app _ rfl (.tmp 14) (.tmp 20) 24 5 1 1 rfl elem8 base u0 L.length (L.map bv) rfl (World.ownsRow.alloc hown _) (wr.heap.size + 1) _ 1 1 ([t].map bv) rfl rfl (Cells.fresh wr _ 5 _ _ (by rw [HV.out]; rfl)) (bv_one _) (by unfold maxLen; omega) (by omega) (by simp; omega) ?_; intro v3 w3 hown3 hgrow3 hat3) | fail)
      go_roundw
      case rel =>
        have HTT : t = UInt8.ofNat (n / 256 ^ k) := HT.out
        refine ⟨k, X ++ [t], by omega, by go_num, by have := HX.out; simp; omega, ?_, ?_, ?_⟩
        · rw [HE.out, HTT]; simp [bigE]
        · rw [← List.append_assoc, HL.out]; exact Own.of (b := [t]) hown3 rfl
        · refine hnx.trans ((Next.alloc wr _ u0).trans ⟨hgrow3, ?_⟩)
          rcases hat3 with e | e
          · exact .inl e
          · exact .inr ⟨_, e, Nat.le_refl _⟩
      case measure => simp [intOf]
/-- a number of eight bytes as an int -/
def i64w (n : Nat) : Int := if n < 9223372036854775808 then (n : Int) else (n : Int) - 18446744073709551616
theorem bigN_8 (l : List UInt8) (h : l.length ≤ 8) : bigN l < 18446744073709551616 :=
  Nat.lt_of_lt_of_le (bigN_lt l) (Nat.pow_le_pow_right (by omega) h)
theorem bigE_snoc (n : Nat) : ∀ m, bigE n (m + 1) = bigE (n / 256) m ++ [UInt8.ofNat n]
  | 0 => by simp [bigE]
  | m + 1 => by
    have h := bigE_snoc n m
    rw [bigE, h]
    show _ = (UInt8.ofNat (n / 256 / 256 ^ m) :: bigE (n / 256) m) ++ [UInt8.ofNat n]
    rw [Nat.div_div_eq_div_mul, List.cons_append, show 256 * 256 ^ m = 256 ^ (m + 1) by rw [Nat.pow_succ]; omega]
theorem bigE_bigN : ∀ (n : Nat) (l : List UInt8), l.length = n → bigE (bigN l) n = l
  | 0, l, h => by
    obtain rfl := List.eq_nil_of_length_eq_zero h
    rfl
  | n + 1, l, h => by
    obtain ⟨x, c, rfl⟩ : ∃ x c, l = x ++ [c] := ⟨l.dropLast, l.getLast (by intro h'; simp [h'] at h), (List.dropLast_concat_getLast _).symm⟩
    have hc := c.toNat_lt
    rw [bigE_snoc, bigN_snoc, show (bigN x * 256 + c.toNat) / 256 = bigN x by omega, bigE_bigN n x (by simpa using h)]
    congr 1
    have : UInt8.ofNat (bigN x * 256 + c.toNat) = c := by
      apply UInt8.toNat_inj.1
      rw [UInt8.toNat_ofNat']
      omega
    rw [this]
theorem bigN_bigE : ∀ (m n : Nat), n < 256 ^ m → bigN (bigE n m) = n
  | 0, n, h => by simp at h; subst h; rfl
  | m + 1, n, h => by
    rw [bigE_snoc, bigN_snoc, bigN_bigE m (n / 256) (by rw [Nat.pow_succ] at h; omega)]
    have : (UInt8.ofNat n).toNat = n % 256 := UInt8.toNat_ofNat'
    rw [this]
    omega
theorem bigE_inj {a b : Nat} (ha : a < 18446744073709551616) (hb : b < 18446744073709551616) (h : bigE a 8 = bigE b 8) : a = b := by
  rw [← bigN_bigE 8 a (by simpa using ha), ← bigN_bigE 8 b (by simpa using hb), h]
theorem bofw (a : Nat) (ha : a < 18446744073709551616) : (BitVec.ofInt IntKind.i64.bits (i64w a)).toNat = a := by
  show (BitVec.ofInt 64 (i64w a)).toNat = a
  rw [BitVec.toNat_ofInt]
  unfold i64w
  split <;> omega
theorem i64w_wrap (n : Nat) (h : n < 18446744073709551616) : IntKind.i64.wrap (n : Int) = i64w n := by
  rw [IntKind.wrap_i64]
  unfold i64w
  split <;> omega
theorem u64_i64w (n : Nat) (h : n < 18446744073709551616) : u64 (i64w n) = n := by
  unfold u64 i64w
  split <;> omega
end Go.Proofs.Yteikggieekhfkaa
