/- slices.BinarySearch of numbers in order. -/
import Derived.Test.YteikggieekhfkaaInsI
namespace Go.Proofs.Yteikggieekhfkaa
open Go.RowKit

/-- how many numbers are less -/
def place (l : List Int) (x : Int) : Nat := l.countP (· < x)
theorem place_le (l : List Int) (x : Int) : place l x ≤ l.length := List.countP_le_length
theorem place_at (l : List Int) (x : Int) (i : Nat) (hi : i ≤ l.length) (h1 : ∀ j (_ : j < i), l[j]'(by omega) < x) (h2 : ∀ j (h : j < l.length), i ≤ j → x ≤ l[j]) : place l x = i := by
  refine Lib.countP_split _ l i hi (fun j hj => ?_) (fun j hj hl => ?_)
  · rw [Lib.getD_lt _ _ (by omega)]
    exact decide_eq_true (h1 j hj)
  · rw [Lib.getD_lt _ _ hl]
    have := h2 j hl hj
    exact decide_eq_false (by omega)
/-- numbers in order -/
def Asc (l : List Int) : Prop := ∀ i j (_ : i < j) (h : j < l.length), l[i]'(by omega) < l[j]
theorem isNaN1_any (x : Int) (w : World) : Calls Try.prog 110 #[.int .i64 x] w fun e w' => e = .returned (.bool false) ∧ w = w' := by
  have h : (x != x) = false := by simp
  go_enter Try.func110, Try.ntmps110
  go_wp2
  go_ret
  exact ⟨rfl, rfl⟩
theorem isNaN2_any (x : Int) (w : World) : Calls Try.prog 107 #[.int .i64 x] w fun e w' => e = .returned (.bool false) ∧ w = w' := by
  have h : (x != x) = false := by simp
  go_enter Try.func107, Try.ntmps107
  go_wp2
  go_ret
  exact ⟨rfl, rfl⟩
theorem less_any (x y : Int) (w : World) : Calls Try.prog 106 #[.int .i64 x, .int .i64 y] w fun e w' => e = .returned (.bool (decide (x < y))) ∧ w = w' := by
  go_enter Try.func106, Try.ntmps106
  go_wp2_with (first | (go_at_call 110; refine (isNaN1_any _ _).mono ?_; rintro e w' ⟨rfl, rfl⟩) | fail)
  go_ret
  exact ⟨rfl, rfl⟩
def SrchPost (p : Nat) (w : World) (e : Ending) (w' : World) : Prop := ∃ f, e = .returned (.tuple #[.int .i64 (p : Int), .bool f]) ∧ w = w'
set_option maxRecDepth 100000 in
set_option maxHeartbeats 1000000 in
theorem search_any (A : Option Addr) (l : List Int) (c : Nat) (x : Int) (B : Nat) (w : World) (hl : l.length ≤ 1000000) (hs : Asc l) (h : IR w B A l) :
    Calls Try.prog 98 #[.slice A l.length c, .int .i64 x] w (SrchPost (place l x) w) := by
  have HS := Lib.hid hs
  clear hs
  go_enter Try.func98, Try.ntmps98
  go_wp2_with fail
  go_loop [7, 8] (fun s t => ∃ lo hi : Nat, lo ≤ hi ∧ hi ≤ l.length ∧ s = .int .i64 lo ∧ t = .int .i64 hi ∧ Hid ((∀ j (_ : j < lo) (h : j < l.length), l[j] < x) ∧ ∀ j (h : j < l.length), hi ≤ j → x ≤ l[j])) (fun s t => (intOf t).toNat - (intOf s).toNat)
  case atStart => exact ⟨0, l.length, Nat.zero_le _, Nat.le_refl _, rfl, rfl, Lib.hid ⟨fun j hj => by omega, fun j hj hl => by omega⟩⟩
  case round =>
    obtain ⟨lo, hi, hlh, hhl, rfl, rfl, HI⟩ := hrel
    by_cases hlt : lo < hi
    · obtain ⟨m, hm⟩ : ∃ m, (lo + hi) / 2 = m := ⟨_, rfl⟩
      have hm1 : lo ≤ m := by omega
      have hm2 : m < hi := by omega
      obtain ⟨ad, rfl, -, hc⟩ := h.get m (by omega)
      have v1 : ((lo : Int) + (hi : Int)) / 2 = (m : Int) := by omega
      obtain ⟨n, hn⟩ : ∃ n, l[m]'(by omega) = n := ⟨_, rfl⟩
      rw [hn] at hc
      have HN := Lib.hid hn
      clear hn hm
      have hi0 : (0 : Int) ≤ (m : Int) := by omega
      have hi1 : (m : Int) < (l.length : Int) := by omega
      have hi2 : (lo : Int) < (hi : Int) := by omega
      by_cases hx : n < x
      · have d1 : decide (n < x) = true := decide_eq_true hx
        have HX := Lib.hid hx
        clear hx
        go_wp2_with (first | (go_at_call 106; refine (less_any _ _ _).mono ?_; rintro e w' ⟨rfl, rfl⟩) | fail)
        go_round
        case rel => exact ⟨m + 1, hi, by omega, hhl, by go_num, rfl, Lib.hid ⟨fun j hj hjl => by
          rcases Nat.lt_or_ge j m with h1 | h1
          · have h2 := HS.out j m h1 (by omega)
            rw [HN.out] at h2
            exact Int.lt_trans h2 HX.out
          · obtain rfl : j = m := by omega
            rw [HN.out]
            exact HX.out, HI.out.2⟩⟩
        case measure => simp [intOf]; omega
      · have d1 : decide (n < x) = false := decide_eq_false hx
        have HX : Hid (x ≤ n) := Lib.hid (by omega)
        clear hx
        go_wp2_with (first | (go_at_call 106; refine (less_any _ _ _).mono ?_; rintro e w' ⟨rfl, rfl⟩) | fail)
        go_round
        case rel => exact ⟨lo, m, hm1, by omega, rfl, rfl, Lib.hid ⟨HI.out.1, fun j hjl hj => by
          rcases Nat.lt_or_ge m j with h1 | h1
          · have h2 := HS.out m j h1 hjl
            rw [HN.out] at h2
            exact Int.le_trans HX.out (Int.le_of_lt h2)
          · obtain rfl : j = m := by omega
            rw [HN.out]
            exact HX.out⟩⟩
        case measure => simp [intOf]; omega
    · obtain rfl : lo = hi := by omega
      have HP := Lib.hid (place_at l x lo hhl (fun j hj => HI.out.1 j hj (by omega)) (fun j hjl hj => HI.out.2 j hjl hj))
      have hi2 : ¬ (lo : Int) < (lo : Int) := by omega
      clear HI hlh
      by_cases hend : lo < l.length
      · obtain ⟨ad, rfl, -, hc⟩ := h.get lo hend
        generalize l[lo] = n at *
        have hi0 : (0 : Int) ≤ (lo : Int) := by omega
        have hi1 : (lo : Int) < (l.length : Int) := by omega
        by_cases hx : n = x
        · have d1 : (n == x) = true := by simpa using hx
          clear hx
          go_wp2_with (first | (go_at_call 107; refine (isNaN2_any _ _).mono ?_; rintro e w' ⟨rfl, rfl⟩) | fail)
          go_ret2
          exact ⟨true, by rw [HP.out]; first | done | rfl, rfl⟩
        · have d1 : (n == x) = false := by simpa using hx
          clear hx
          go_wp2_with (first | (go_at_call 107; refine (isNaN2_any _ _).mono ?_; rintro e w' ⟨rfl, rfl⟩) | fail)
          go_ret2
          exact ⟨false, by rw [HP.out]; first | done | rfl, rfl⟩
      · have hi1 : ¬ (lo : Int) < (l.length : Int) := by omega
        go_wp2_with fail
        go_ret2
        exact ⟨false, by rw [HP.out]; first | done | rfl, rfl⟩
end Go.Proofs.Yteikggieekhfkaa
