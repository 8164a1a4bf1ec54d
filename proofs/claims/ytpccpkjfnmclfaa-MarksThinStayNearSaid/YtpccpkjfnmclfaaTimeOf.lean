/- TimeOf of both sides. -/
import Derived.Test.YtpccpkjfnmclfaaLines
namespace Go.Proofs.Ytpccpkjfnmclfaa
open Go.RowKit

/-- what the checks of marks and of a number up to 10^12 say -/
def ckN (l : List Mk) (n : Int) : Int := if ckM l ≠ 0 then ckM l else if n < 0 ∨ 1000000000000 < n then 1 else if l.length = 1 then 11 else 0
theorem ckN_ok {l : List Mk} {n : Int} (h : ckN l n = 0) : ckM l = 0 ∧ (0 ≤ n ∧ n ≤ 1000000000000) ∧ Good l := by
  unfold ckN at h
  split at h
  · rename_i h1; exact absurd h h1
  rename_i h1
  have h1 : ckM l = 0 := by omega
  split at h
  · simp at h
  split at h
  · simp at h
  obtain ⟨a, b, c, d⟩ := ckM_ok l h1
  exact ⟨h1, by omega, by omega, b, c, d⟩
set_option maxRecDepth 100000 in
set_option maxHeartbeats 1000000 in
theorem checkLine_any (A : Option Addr) (c : Nat) (l : List Mk) (n : Int) (w : World) (hl : l.length ≤ 9223372036854775807) (hA : MR w w.heap.size A l) :
    Calls Try.prog 52 #[.slice A l.length c, .int .i64 n, .int .i64 1000000000000] w fun e w' => e = .returned (.int .i64 (ckN l n)) ∧ Below w.heap.size w w' := by
  have HC := Lib.hid (checkMarks_any A c l w hl hA)
  by_cases h : ckM l = 0
  · rw [h] at HC
    by_cases hn : n < 0 ∨ 1000000000000 < n
    · have hr : ckN l n = 1 := by unfold ckN; rw [if_neg (by simpa using h), if_pos hn]
      rw [hr]
      have d0 : decide (0 ≤ n ∧ n ≤ 1000000000000) = false := by simp; omega
      clear hr hn h hA
      go_enter Try.func52, Try.ntmps52
      go_wp2_with fail
      refine HC.out.mono ?_
      rintro e w1 ⟨rfl, hb1⟩
      go_wp2_with (first | (go_at_call 46; refine (upTo_any _ _ _).mono ?_; rintro e w' ⟨rfl, rfl⟩) | fail)
      go_ret
      exact ⟨rfl, hb1⟩
    · have d0 : decide (0 ≤ n ∧ n ≤ 1000000000000) = true := by simp; omega
      by_cases h1 : l.length = 1
      · have hr : ckN l n = 11 := by unfold ckN; rw [if_neg (by simpa using h), if_neg hn, if_pos h1]
        rw [hr]
        have d1 : ((l.length : Int) == 1) = true := by rw [beq_iff_eq]; omega
        clear hr hn h hA h1
        go_enter Try.func52, Try.ntmps52
        go_wp2_with fail
        refine HC.out.mono ?_
        rintro e w1 ⟨rfl, hb1⟩
        go_wp2_with (first | (go_at_call 46; refine (upTo_any _ _ _).mono ?_; rintro e w' ⟨rfl, rfl⟩) | fail)
        go_ret
        exact ⟨rfl, hb1⟩
      · have hr : ckN l n = 0 := by unfold ckN; rw [if_neg (by simpa using h), if_neg hn, if_neg h1]
        rw [hr]
        have d1 : ((l.length : Int) == 1) = false := beq_eq_false_iff_ne.2 (by omega)
        clear hr hn h hA h1
        go_enter Try.func52, Try.ntmps52
        go_wp2_with fail
        refine HC.out.mono ?_
        rintro e w1 ⟨rfl, hb1⟩
        go_wp2_with (first | (go_at_call 46; refine (upTo_any _ _ _).mono ?_; rintro e w' ⟨rfl, rfl⟩) | fail)
        go_ret
        exact ⟨rfl, hb1⟩
  · have hr : ckN l n = ckM l := by unfold ckN; rw [if_pos h]
    rw [hr]
    generalize ckM l = r at *
    have hne : (r != 0) = true := by simpa using h
    clear h hr hA
    go_enter Try.func52, Try.ntmps52
    go_wp2_with fail
    refine HC.out.mono ?_
    rintro e w1 ⟨rfl, hb1⟩
    go_wp2_with fail
    go_ret
    exact ⟨rfl, hb1⟩

/-- what TimeOf says -/
def TimeR (l : List Mk) (n : Int) (r : Int × Int) : Prop := (ckN l n ≠ 0 ∧ r = (0, ckN l n)) ∨ (ckN l n = 0 ∧ ∃ x, TimeP l n x ∧ r = if 0 ≤ x ∧ x ≤ 1000000000000 then (x, 0) else (0, 1))
theorem TimeR.unique {l : List Mk} {n : Int} {r r' : Int × Int} (h : TimeR l n r) (h' : TimeR l n r') : r = r' := by
  rcases h with ⟨a, rfl⟩ | ⟨a, x, hx, rfl⟩
  · rcases h' with ⟨b, rfl⟩ | ⟨b, _⟩
    · rfl
    · exact absurd b a
  · rcases h' with ⟨b, _⟩ | ⟨b, y, hy, rfl⟩
    · exact absurd a b
    · rw [TimeP.unique (ckN_ok a).2.2.2.2.2 hx hy]
/-- what TimeOf leaves -/
def TimeOfPost (l : List Mk) (n : Int) (w : World) (e : Ending) (w' : World) : Prop := (∃ a b : Int, e = .returned (.tuple #[.int .i64 a, .int .i64 b]) ∧ TimeR l n (a, b)) ∧ Below w.heap.size w w'
set_option maxRecDepth 100000 in
set_option maxHeartbeats 1000000 in
theorem lines_any (A : Option Addr) (c n : Nat) (w : World) :
    Calls Try.prog 53 #[.slice A n c] w fun e w' => e = .returned (.func (Fn.func 83) #[] #[.pointer (some ⟨w.heap.size, 0, none⟩)]) ∧ w' = w.alloc (.cells #[.slice A n c] 30) := by
  have hmf : ∀ (fn : Fn) (first cap : Array Value) (w : World), (Instr.makeFunc fn first cap).run Try.prog w = .ok (.func fn first cap) w := fun _ _ _ _ => rfl
  go_enter Try.func53, Try.ntmps53
  go_wp2_with fail
  go_ret
  exact ⟨rfl, rfl⟩
set_option maxRecDepth 100000 in
set_option maxHeartbeats 1000000 in
theorem timeOf_any (A : Option Addr) (c : Nat) (l : List Mk) (n : Int) (w : World) (hl : l.length ≤ 9223372036854775807) (hA : MR w w.heap.size A l) :
    Calls Try.prog 21 #[.slice A l.length c, .int .i64 n] w (TimeOfPost l n w) := by
  have HC := Lib.hid (checkLine_any A c l n w hl hA)
  unfold TimeOfPost
  by_cases h : ckN l n = 0
  · obtain ⟨-, hn, hg⟩ := ckN_ok h
    have HR := Lib.hid (fun x (hx : TimeP l n x) => (show TimeR l n (if 0 ≤ x ∧ x ≤ 1000000000000 then (x, 0) else (0, 1)) from .inr ⟨h, x, hx, rfl⟩))
    have HL := Lib.hid (fun (w1 : World) (hb : Below w.heap.size w w1) => lines1_any A c l n w1.heap.size (w1.alloc (.cells #[.slice A l.length c] 30)) (by simp) (by simp) (((hA.below hb).below ((Below.refl _ _).alloc hb.size _)).lift (by simp; have := hb.size; omega)) hg hn)
    have hcf : ∀ args w, (callFunc 83 args).run Try.prog w = .ok (.enter 83 args) w := fun _ _ => by kernel_rfl
    rw [h] at HC
    clear h hA hn hg
    go_enter Try.func21, Try.ntmps21
    go_wp2_with fail
    refine HC.out.mono ?_
    rintro e w1 ⟨rfl, hb1⟩
    go_wp2_with fail
    refine (lines_any _ _ _ _).mono ?_
    rintro e w2 ⟨rfl, rfl⟩
    go_wp2_with fail
    refine (HL.out _ hb1).mono ?_
    rintro e w3 ⟨⟨v, x, rfl, hnear, htp⟩, hb3⟩
    have hb2 : Below w.heap.size w w3 := (hb1.alloc hb1.size _).trans (hb3.mono (by simp; have := hb1.size; omega))
    have HT := Lib.hid (HR.out x htp)
    obtain ⟨hv, v1, v2⟩ := hnear
    clear htp hb3 HL HC HR
    by_cases hx : 0 ≤ x ∧ x ≤ 1000000000000
    · obtain rfl : v = x := by omega
      have d0 : decide (0 ≤ v ∧ v ≤ 1000000000000) = true := by simp; omega
      have HI : Hid (TimeR l n (v, 0)) := Lib.hid (by have := HT.out; rw [if_pos hx] at this; exact this)
      clear hv hx
      go_wp2_with (first | (go_at_call 46; refine (upTo_any _ _ _).mono ?_; rintro e w' ⟨rfl, rfl⟩) | fail)
      go_ret2
      exact ⟨⟨_, _, rfl, HI.out⟩, hb2⟩
    · have d0 : decide (0 ≤ v ∧ v ≤ 1000000000000) = false := by simp; omega
      have HI : Hid (TimeR l n (0, 1)) := Lib.hid (by have := HT.out; rw [if_neg hx] at this; exact this)
      clear hv hx
      go_wp2_with (first | (go_at_call 46; refine (upTo_any _ _ _).mono ?_; rintro e w' ⟨rfl, rfl⟩) | fail)
      go_ret2
      exact ⟨⟨_, _, rfl, HI.out⟩, hb2⟩
  · have HR := Lib.hid (show TimeR l n (0, ckN l n) from .inl ⟨h, rfl⟩)
    have hne : (ckN l n != 0) = true := by simpa using h
    generalize ckN l n = r at *
    clear h hA
    go_enter Try.func21, Try.ntmps21
    go_wp2_with fail
    refine HC.out.mono ?_
    rintro e w1 ⟨rfl, hb1⟩
    go_wp2_with fail
    go_ret2
    exact ⟨⟨_, _, rfl, HR.out⟩, hb1⟩
end Go.Proofs.Ytpccpkjfnmclfaa
