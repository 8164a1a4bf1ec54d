/- sort.Search over any closure with two captured boxes that makes new memory alone. -/
import Derived.Test.YtpccpkjfnmclfaaStep
import Derived.Test.YtpccpkjfnmclfaaAppend
namespace Go.Proofs.Ytpccpkjfnmclfaa
open Go.RowKit

/-- what Search leaves: a number at which P turns -/
def FoundR (P : Nat → Bool → Prop) (N r : Nat) : Prop := r ≤ N ∧ (r = 0 ∨ P (r - 1) false) ∧ (r = N ∨ P r true)
/-- the head of Search's loop -/
def SearchAt (P : Nat → Bool → Prop) (N : Nat) (w : World) (a b : Value) (wr : World) : Prop :=
  ∃ i j : Nat, a = .int .i64 i ∧ b = .int .i64 j ∧ i ≤ j ∧ j ≤ N ∧ (i = 0 ∨ P (i - 1) false) ∧ (j = N ∨ P j true) ∧ Below w.heap.size w wr
set_option maxRecDepth 100000 in
set_option maxHeartbeats 1000000 in
theorem search_rel (f : FuncId) (hcf : ∀ args w, (callFunc f args).run Try.prog w = .ok (.enter f args) w) (x1 x2 : Value) (P : Nat → Bool → Prop) (N : Nat) (hN : N ≤ 4611686018427387904) (w : World)
    (hstep : ∀ (i : Nat) (w' : World), i < N → Below w.heap.size w w' → Calls Try.prog f #[.int .i64 i, x1, x2] w' fun e w'' => (∃ b : Bool, e = .returned (.bool b) ∧ P i b) ∧ Below w'.heap.size w' w'') :
    Calls Try.prog 84 #[.int .i64 N, .func (Fn.func f) #[] #[x1, x2]] w fun e w' => (∃ r : Nat, e = .returned (.int .i64 r) ∧ FoundR P N r) ∧ Below w.heap.size w w' := by
  have HST := Lib.hid hstep
  clear hstep
  go_enter Try.func84, Try.ntmps84
  go_wp2_with fail
  go_loopw [5, 6] (fun a b wr => SearchAt P N w a b wr) (fun a b _ => (intOf b - intOf a).toNat)
  case atStart => exact ⟨0, N, rfl, rfl, Nat.zero_le _, Nat.le_refl _, .inl rfl, .inl rfl, Below.refl _ _⟩
  case round =>
    obtain ⟨i, j, rfl, rfl, hij, hjN, hi, hj, hb⟩ := hrel
    have HI := Lib.hid hi
    have HJ := Lib.hid hj
    clear hi hj
    by_cases hlt : i < j
    · obtain ⟨h, hh⟩ : ∃ h : Nat, h = (i + j) / 2 := ⟨_, rfl⟩
      have hh1 : i ≤ h := by omega
      have hh2 : h < j := by omega
      have he : ((i : Int) + (j : Int)) / 2 = (h : Int) := by omega
      have HC := Lib.hid (HST.out h wr (by omega) hb)
      clear hh
      go_wp2_with fail
      refine HC.out.mono ?_
      rintro e w2 ⟨⟨q, rfl, hq⟩, hb2⟩
      have HPH := Lib.hid hq
      have hb3 := hb.trans (hb2.mono hb.size)
      clear HC hb2 hq
      rcases q with _ | _
      · go_wp2_with fail
        go_roundw
        case rel => exact ⟨h + 1, j, by go_num, rfl, by omega, hjN, .inr (by simpa using HPH.out), HJ.out, hb3⟩
        case measure => simp [intOf]; omega
      · go_wp2_with fail
        go_roundw
        case rel => exact ⟨i, h, rfl, rfl, hh1, by omega, HI.out, .inr HPH.out, hb3⟩
        case measure => simp [intOf]; omega
    · obtain rfl : i = j := by omega
      go_wp2_with fail
      go_ret
      exact ⟨⟨i, rfl, hjN, HI.out, HJ.out⟩, hb⟩
/-- the same of a function of numbers -/
def FoundP (p : Nat → Bool) (N r : Nat) : Prop := r ≤ N ∧ (r = 0 ∨ p (r - 1) = false) ∧ (r = N ∨ p r = true)
theorem search_any (f : FuncId) (hcf : ∀ args w, (callFunc f args).run Try.prog w = .ok (.enter f args) w) (x1 x2 : Value) (p : Nat → Bool) (N : Nat) (hN : N ≤ 4611686018427387904) (w : World)
    (hstep : ∀ (i : Nat) (w' : World), i < N → Below w.heap.size w w' → Calls Try.prog f #[.int .i64 i, x1, x2] w' fun e w'' => e = .returned (.bool (p i)) ∧ Below w'.heap.size w' w'') :
    Calls Try.prog 84 #[.int .i64 N, .func (Fn.func f) #[] #[x1, x2]] w fun e w' => (∃ r : Nat, e = .returned (.int .i64 r) ∧ FoundP p N r) ∧ Below w.heap.size w w' :=
  search_rel f hcf x1 x2 (fun i b => p i = b) N hN w (fun i w' hi hb => (hstep i w' hi hb).mono fun _ _ ⟨h1, h2⟩ => ⟨⟨_, h1, rfl⟩, h2⟩)
end Go.Proofs.Ytpccpkjfnmclfaa
