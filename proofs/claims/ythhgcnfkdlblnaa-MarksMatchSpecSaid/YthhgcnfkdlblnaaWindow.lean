/- both checks in one, on both sides; Window of the program. -/
import Derived.Test.YthhgcnfkdlblnaaReach
namespace Go.Proofs.Ythhgcnfkdlblnaa
open Go.RowKit

/-- a clock in a block of its own -/
def boxed (s f : Int) (w : World) : World := w.alloc (.cells #[.int .i64 s, .int .i64 f] 45)
theorem boxed_size (s f : Int) (w : World) : (boxed s f w).heap.size = w.heap.size + 1 := by simp [boxed]
theorem boxed_below (s f : Int) (w : World) : Below w.heap.size w (boxed s f w) := (Below.refl _ _).alloc (Nat.le_refl _) _
theorem boxed_trans {s f : Int} {w w' : World} (h : Below (boxed s f w).heap.size (boxed s f w) w') : Below w.heap.size w w' := (boxed_below s f w).trans (h.mono (by rw [boxed_size]; omega))
theorem boxed_all {s f : Int} {w w' : World} (h : Below (w.heap.size + 1) (boxed s f w) w') : Below w.heap.size w w' := (boxed_below s f w).trans (h.mono (by omega))
theorem boxed_cells {s f : Int} {w w' : World} (h : Below (w.heap.size + 1) (boxed s f w) w') : w'.cell? ⟨w.heap.size, 0, none⟩ = some (.int .i64 s) ∧ w'.cell? ⟨w.heap.size, 1, none⟩ = some (.int .i64 f) := by
  constructor
  · rw [Below.at_ h _ (by omega)]; simp [boxed]
  · rw [Below.at_ h _ (by omega)]; simp [boxed]
set_option maxHeartbeats 1000000 in
theorem checkBoth_any (s f : Int) (A : Option Addr) (c : Nat) (l : List Mk) (w : World) (hl : l.length ≤ 9223372036854775807) (hA : MR w w.heap.size A l) :
    Calls Try.prog 67 #[cv s f, .slice A l.length c] w fun e w' => e = .returned (.int .i64 (ckB s f l)) ∧ Below w.heap.size w w' := by
  have hc := fun w => checkClock_any s f w
  have hm := fun (w' : World) (hb : Below w.heap.size w w') => checkMarks_any A c l w' hl ((hA.below hb).lift hb.size)
  unfold cv at *
  by_cases h : ckC s f = 0
  · have hB : ckB s f l = ckM l := by unfold ckB; rw [if_pos h]
    rw [h] at hc
    rw [hB]
    generalize ckM l = r at *
    have HC := Lib.hid hc
    have HM := Lib.hid hm
    clear hc hm h hB hA
    go_enter Try.func67, Try.ntmps67
    go_wp2_with fail
    refine (HC.out _).mono ?_
    rintro e w1 ⟨rfl, hb1⟩
    have hb2 : Below w.heap.size w w1 := boxed_trans hb1
    clear hb1
    go_wp2_with fail
    refine (HM.out _ hb2).mono ?_
    rintro e w2 ⟨rfl, hb3⟩
    go_wp2_with fail
    go_ret
    exact ⟨rfl, hb2.trans (hb3.mono hb2.size)⟩
  · have hB : ckB s f l = ckC s f := by unfold ckB; rw [if_neg h]
    rw [hB]
    generalize ckC s f = r at *
    have hne : (r != 0) = true := by simpa using h
    have HC := Lib.hid hc
    clear hc hm h hB hA
    go_enter Try.func67, Try.ntmps67
    go_wp2_with fail
    refine (HC.out _).mono ?_
    rintro e w1 ⟨rfl, hb1⟩
    go_wp2_with fail
    go_ret
    exact ⟨rfl, boxed_trans hb1⟩
set_option maxHeartbeats 1000000 in
theorem rcheckBoth_any (s f : Int) (A : Option Addr) (c : Nat) (l : List Mk) (w : World) (hl : l.length ≤ 9223372036854775807) (hA : MR w w.heap.size A l) :
    Calls Try.prog 69 #[cv s f, .slice A l.length c] w fun e w' => e = .returned (.int .i64 (ckB s f l)) ∧ Below w.heap.size w w' := by
  have hc := fun w => rcheckClock_any s f w
  have hm := fun (w' : World) (hb : Below w.heap.size w w') => rcheckMarks_any A c l w' hl ((hA.below hb).lift hb.size)
  unfold cv at *
  by_cases h : ckC s f = 0
  · have hB : ckB s f l = ckM l := by unfold ckB; rw [if_pos h]
    rw [h] at hc
    rw [hB]
    generalize ckM l = r at *
    have HC := Lib.hid hc
    have HM := Lib.hid hm
    clear hc hm h hB hA
    go_enter Try.func69, Try.ntmps69
    go_wp2_with fail
    refine (HC.out _).mono ?_
    rintro e w1 ⟨rfl, hb1⟩
    have hb2 : Below w.heap.size w w1 := boxed_trans hb1
    clear hb1
    go_wp2_with fail
    refine (HM.out _ hb2).mono ?_
    rintro e w2 ⟨rfl, hb3⟩
    go_wp2_with fail
    go_ret
    exact ⟨rfl, hb2.trans (hb3.mono hb2.size)⟩
  · have hB : ckB s f l = ckC s f := by unfold ckB; rw [if_neg h]
    rw [hB]
    generalize ckC s f = r at *
    have hne : (r != 0) = true := by simpa using h
    have HC := Lib.hid hc
    clear hc hm h hB hA
    go_enter Try.func69, Try.ntmps69
    go_wp2_with fail
    refine (HC.out _).mono ?_
    rintro e w1 ⟨rfl, hb1⟩
    go_wp2_with fail
    go_ret
    exact ⟨rfl, boxed_trans hb1⟩

theorem if_max (x r : Int) : (if x < r then r else x) = max x r := by split <;> omega
theorem if_min (y r : Int) : (if r < y then r else y) = min y r := by split <;> omega
/-- what Window leaves -/
def WinPost (r : Int × Int × Int) (w : World) (e : Ending) (w' : World) : Prop := e = .returned (.tuple #[.int .i64 r.1, .int .i64 r.2.1, .int .i64 r.2.2]) ∧ Below w.heap.size w w'
/-- the head of Window's loop -/
def WinAt (s f n : Int) (l : List Mk) (w : World) (a b i : Value) (wr : World) : Prop :=
  ∃ (k : Nat) (x y : Int), k ≤ l.length ∧ i = .int .i64 k ∧ a = .int .i64 x ∧ b = .int .i64 y ∧ Below (w.heap.size + 1) (boxed s f w) wr ∧ winL s f n (l.drop k) x y = winL s f n l lo64 hi64
set_option maxRecDepth 100000 in
set_option maxHeartbeats 2000000 in
theorem window_any (s f : Int) (A : Option Addr) (c : Nat) (l : List Mk) (n : Int) (w : World) (hl : l.length ≤ 9223372036854775807) (hA : MR w w.heap.size A l) :
    Calls Try.prog 33 #[cv s f, .slice A l.length c, .int .i64 n] w (WinPost (windowS s f l n) w) := by
  have hc := fun (w' : World) (hb : Below w.heap.size w w') => checkBoth_any s f A c l w' hl ((hA.below hb).lift hb.size)
  by_cases h : ckB s f l = 0
  · obtain ⟨q1, q2⟩ := ckB_ok h
    obtain ⟨hs, hf, -⟩ := ckC_ok q1
    obtain ⟨-, h2000, hok, -⟩ := ckM_ok l q2
    clear q1 q2
    have HC := Lib.hid hc
    clear hc
    by_cases hn : n < 0 ∨ 1000000000000 < n
    · have hW : windowS s f l n = (0, 0, 1) := by unfold windowS; rw [if_neg (by simpa using h), if_pos hn]
      rw [hW]
      rw [h] at HC
      have d0 : decide (0 ≤ n ∧ n ≤ 1000000000000) = false := by simp; omega
      clear hn hs hf hok hW h
      unfold cv at *
      go_enter Try.func33, Try.ntmps33
      go_wp2_with fail
      refine (HC.out _ (boxed_below s f w)).mono ?_
      rintro e w1 ⟨rfl, hb1⟩
      have hb2 : Below w.heap.size w w1 := boxed_trans hb1
      clear hb1
      go_wp2_with (first | (go_at_call 56; refine (upTo_any _ _ _).mono ?_; rintro e w' ⟨rfl, rfl⟩) | fail)
      exact bodyPost_ret (v := .tuple #[.int .i64 0, .int .i64 0, .int .i64 1]) (by simp [results, Try.results33, go_sem]) rfl ⟨rfl, hb2⟩
    · have hW : windowS s f l n = if (winL s f n l lo64 hi64).2 < (winL s f n l lo64 hi64).1 then (0, 0, 12) else ((winL s f n l lo64 hi64).1, (winL s f n l lo64 hi64).2, 0) := by
        unfold windowS; rw [if_neg (by simpa using h), if_neg hn]
      have d0 : decide (0 ≤ n ∧ n ≤ 1000000000000) = true := by simp; omega
      have hn2 : 0 ≤ n ∧ n ≤ 1000000000000 := by omega
      rw [h] at HC
      clear hn h
      have HR := Lib.hid (fun (x : Mk) (hx : x.ok) (w' : World) => reach_any s f x n hs hf hx hn2 w')
      have HWW := Lib.hid hW
      have HOK := Lib.hid hok
      clear hW hs hf hok hn2
      unfold cv at *
      go_enter Try.func33, Try.ntmps33
      go_wp2_with fail
      refine (HC.out _ (boxed_below s f w)).mono ?_
      rintro e w1 ⟨rfl, hb1⟩
      have hb2 : Below (w.heap.size + 1) (boxed s f w) w1 := hb1.mono (by rw [boxed_size]; omega)
      clear hb1 HC
      obtain ⟨fa, fb⟩ := boxed_cells hb2
      go_wp2_with (first | (go_at_call 56; refine (upTo_any _ _ _).mono ?_; rintro e w' ⟨rfl, rfl⟩) | fail)
      clear fa fb
      go_loopw [10, 11, 27] (fun a b i wr => WinAt s f n l w a b i wr) (fun _ _ i _ => l.length - (intOf i).toNat)
      case atStart => exact ⟨0, lo64, hi64, Nat.zero_le _, rfl, rfl, rfl, hb2, by simp⟩
      case round =>
        obtain ⟨k, x, y, hk, rfl, rfl, rfl, hb, hwin⟩ := hrel
        have HW := Lib.hid hwin
        clear hwin
        by_cases hlt : k < l.length
        · have hAr := hA.below (boxed_all hb)
          obtain ⟨ad, rfl, had, c0, c1, c2⟩ := hAr.get k hlt
          obtain ⟨fa, fb⟩ := boxed_cells hb
          have HD := Lib.hid (winL_one s f n l k hlt x y)
          have hz1 : w.heap.size < wr.heap.size := by have := hb.size; rw [boxed_size] at this; omega
          have HRC := Lib.hid (HR.out l[k] (HOK.out _ (List.getElem_mem hlt)))
          generalize l[k] = m at *
          obtain ⟨xt, xz, xo⟩ := m
          simp only at c0 c1 c2
          unfold mv at HRC
          simp only at HRC
          go_wp2_with fail
          refine (HRC.out _).mono ?_
          rintro e w2 ⟨rfl, hb3⟩
          generalize hrr : reachF s f ⟨xt, xz, xo⟩ n = rr at *
          obtain ⟨r1, r2⟩ := rr
          go_wp2_with fail
          go_roundw
          case rel =>
            refine ⟨k + 1, _, _, by omega, by go_num, rfl, rfl, (hb.alloc (by omega) _).trans (hb3.mono (by simp; omega)), ?_⟩
            rw [if_max, if_min]
            rw [← HD.out]
            exact HW.out
          case measure => simp [intOf]; omega
        · obtain rfl : k = l.length := by omega
          have he : winL s f n l lo64 hi64 = (x, y) := by rw [← HW.out, List.drop_length]; rfl
          have HE := Lib.hid (HWW.out)
          rw [he] at HE
          have hz : Below w.heap.size w wr := boxed_all hb
          clear HW HWW he
          by_cases hxy : y < x
          · have HF : Hid (windowS s f l n = (0, 0, 12)) := by have := HE.out; rw [if_pos hxy] at this; exact this
            go_wp2_with fail
            rw [HF.out]
            exact bodyPost_ret (v := .tuple #[.int .i64 0, .int .i64 0, .int .i64 12]) (by simp [results, Try.results33, go_sem]) rfl ⟨rfl, hz⟩
          · have HF : Hid (windowS s f l n = (x, y, 0)) := by have := HE.out; rw [if_neg hxy] at this; exact this
            go_wp2_with fail
            rw [HF.out]
            exact bodyPost_ret (v := .tuple #[.int .i64 x, .int .i64 y, .int .i64 0]) (by simp [results, Try.results33, go_sem]) rfl ⟨rfl, hz⟩
  · have hW : windowS s f l n = (0, 0, ckB s f l) := by unfold windowS; rw [if_pos h]
    rw [hW]
    generalize ckB s f l = r at *
    have hne : (r != 0) = true := by simpa using h
    have HC := Lib.hid hc
    clear hc hW h hA
    unfold cv at *
    go_enter Try.func33, Try.ntmps33
    go_wp2_with fail
    refine (HC.out _ (boxed_below s f w)).mono ?_
    rintro e w1 ⟨rfl, hb1⟩
    have hb2 : Below w.heap.size w w1 := boxed_trans hb1
    clear hb1
    go_wp2_with fail
    exact bodyPost_ret (v := .tuple #[.int .i64 0, .int .i64 0, .int .i64 r]) (by simp [results, Try.results33, go_sem]) rfl ⟨rfl, hb2⟩
end Go.Proofs.Ythhgcnfkdlblnaa
