/- two bytes as a number, by the program and by the reference. -/
import Derived.Test.YtpccpkjfnmclfaaSum
import Derived.Test.YtpccpkjfnmclfaaBase
import Derived.Test.YtpccpkjfnmclfaaBigNum
import Derived.RegionTactic
import Derived.Deep.QuietTactic
import Derived.BigQuiet
namespace Go.Proofs.Ytpccpkjfnmclfaa
open Go.RowKit

/-- two bytes as a number, the higher one first -/
def val2 : List UInt8 → Nat
  | a :: b :: _ => a.toNat * 256 + b.toNat
  | _ => 0
theorem val2_lt (l : List UInt8) : val2 l < 65536 := by
  unfold val2
  split
  · rename_i a b _
    have := a.toNat_lt
    have := b.toNat_lt
    omega
  · omega
theorem or_byte (a b : Nat) (ha : a < 256) (hb : b < 256) : bits .or .i64 ((a : Int) * 256) (b : Int) = ((a * 256 + b : Nat) : Int) := by
  have := or64 (a * 256) b (by omega) (by omega)
  rw [Int.natCast_mul] at this
  rw [show ((a : Int) * 256) = (a : Int) * ((256 : Nat) : Int) by rfl, this]
  have h := Nat.two_pow_add_eq_or_of_lt (i := 8) (b := b) (by omega) a
  rw [show a * 256 = 2 ^ 8 * a by omega, ← h]

theorem bigN_val2 (l : List UInt8) (h : 2 ≤ l.length) : bigN (l.take 2) = val2 l := by
  match l, h with
  | a :: b :: r, _ => simp [bigN, val2]
set_option maxHeartbeats 400000 in
theorem two_any (A : Option Addr) (n c : Nat) (l : List UInt8) (B : Nat) (w : World) (hn : n = l.length) (h2 : 2 ≤ l.length) (hc : 2 ≤ c) (h : BR w B A l) :
    Calls Try.prog 71 #[.slice A n c] w fun e w' => e = .returned (.int .i64 (val2 l : Nat)) ∧ ∃ d, w' = w.drewN d := by
  subst hn
  have hf := h.front 2
  have hl2 : (l.take 2).length = 2 := by simp; omega
  have HN := Lib.hid (fun c' => number_any A c' (l.take 2) B w (by omega) hf)
  rw [hl2, bigN_val2 l h2] at HN
  go_enter Try.func71, Try.ntmps71
  go_wp2_with (first | (go_at_call 100; refine (HN.out _).mono ?_; rintro e w' ⟨rfl, rfl⟩) | fail)
  go_ret
  exact ⟨rfl, ⟨0, rfl⟩⟩

theorem quiet_left {f : FuncId} {args : Array Value} {w : World} {n : Nat} {v : Value}
    (h : Calls Try.prog f args (w.drewN n) fun e w' => e = .returned v ∧ w.drewN n = w') : Calls Try.prog f args (w.drewN n) fun e w'' => e = .returned v ∧ ∃ m, w'' = w.drewN m :=
  h.mono fun _ _ ⟨he, hm⟩ => ⟨he, n, hm.symm⟩

/-- the same where the region's own world has draws already -/
theorem quiet_more_left {f : FuncId} {args : Array Value} {w : World} {a n : Nat} {v : Value}
    (h : Calls Try.prog f args (w.drewN (a + n)) fun e w' => e = .returned v ∧ w.drewN (a + n) = w') : Calls Try.prog f args (w.drewN (a + n)) fun e w'' => e = .returned v ∧ ∃ m, w'' = w.drewN (a + m) :=
  h.mono fun _ _ ⟨he, hm⟩ => ⟨he, n, hm.symm⟩
theorem quiet_more {f : FuncId} {args : Array Value} {w : World} {a n : Nat} {v : Value}
    (h : Calls Try.prog f args (w.drewN (a + n)) fun e w' => e = .returned v ∧ ∃ d, w' = (w.drewN (a + n)).drewN d) : Calls Try.prog f args (w.drewN (a + n)) fun e w'' => e = .returned v ∧ ∃ m, w'' = w.drewN (a + m) :=
  h.mono fun _ _ ⟨he, d, hm⟩ => ⟨he, n + d, by rw [hm, World.drewN_drewN, Nat.add_assoc]⟩

/-- the last two bytes are the sum of all before -/
def intactB (l : List UInt8) : Bool := decide (crcN (l.take (l.length - 2)) = val2 (l.drop (l.length - 2)))

set_option maxRecDepth 100000 in
set_option maxHeartbeats 400000 in
theorem intact_any (A : Option Addr) (n c : Nat) (l : List UInt8) (B : Nat) (w : World) (hn : n = l.length) (h2 : 2 ≤ l.length) (hc : l.length ≤ c) (hc2 : c ≤ 9223372036854775807) (h : BR w B A l) :
    Calls Try.prog 72 #[.slice A n c] w fun e w' => e = .returned (.bool (intactB l)) ∧ ∃ d, w' = w.drewN d := by
  have hf := h.front (l.length - 2)
  obtain ⟨ad, rfl, ht⟩ := h.tail (l.length - 2) (by omega)
  have HB : Hid (intactB l = (((crcN (l.take (l.length - 2)) : Nat) : Int) == ((val2 (l.drop (l.length - 2)) : Nat) : Int))) := by
    unfold Hid intactB
    rw [Bool.eq_iff_iff]
    simp
    omega
  have c1 := fun d : Nat => sum_any (some ad) c (l.take (l.length - 2)) B (w.drewN d) (by simp; omega) hf
  have c2 := fun d : Nat => two_any (some (ad.add (l.length - 2))) (l.length - (l.length - 2)) (c - (l.length - 2)) (l.drop (l.length - 2)) B (w.drewN d) (by simp) (by simp; omega) (by omega) ht
  rw [show (l.take (l.length - 2)).length = l.length - 2 by simp] at c1
  unfold crc at c1
  generalize crcN (l.take (l.length - 2)) = X at *
  generalize val2 (l.drop (l.length - 2)) = Y at *
  generalize intactB l = Z at *
  have hn' : Hid (l.length = n) := hn.symm
  rw [← hn] at *
  have C1 := Lib.hid c1
  have C2 := Lib.hid c2
  clear c1 c2 hf ht h
  have hcne : c ≠ n - 2 := by omega
  go_enter Try.func72, Try.ntmps72
  go_wp2_with fail
  go_quiet ((first | (go_at_call 39; with_reducible exact quiet_left (C1.out _)) | (go_at_call 71; with_reducible exact Calls.quiet_of (C2.out _))))
  all_goals
    go_wp2
    go_ret
    exact ⟨ret_bool (by rw [HB.out]), ⟨_, rfl⟩⟩
end Go.Proofs.Ytpccpkjfnmclfaa
