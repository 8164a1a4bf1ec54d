/- slices.Grow of nil, slices.Concat and slices.Clone of bytes. -/
import Derived.Test.YtdcnpbdkhcdinaaBigApp
import Derived.Lib.AppendZeros
namespace Go.Proofs.Ytdcnpbdkhcdinaa
open Go.RowKit

set_option maxRecDepth 100000 in
set_option maxHeartbeats 400000 in
theorem grow_none (z : Int) (n : Nat) (w : World) (hzn : Hid (z = (n : Int))) (hn : n ≤ 140737488355328) :
    Calls Try.prog 69 #[.slice none 0 0, .int .i64 z] w fun e w' => ∃ v', e = .returned v' ∧ Own w' w.heap.size v' [] ∧ Below w.heap.size w w' := by
  obtain rfl : z = (n : Int) := hzn
  rcases Nat.eq_zero_or_pos n with h0 | h0
  · subst h0
    go_enter Try.func69, Try.ntmps69
    go_wp2
    go_ret
    exact ⟨_, rfl, Own.nil _ _, Below.refl _ _⟩
  · obtain ⟨i0, hi, hz0, hz1, hz2⟩ := info_parts info5
    have hr := Lib.run_append_nil_zeros (P := Try.prog) w 23 3 23 5 i0 _ .i64 .i64 Try.underlying23 Try.underlying3 hi hz0 n h0 (by omega) (by omega) (by rw [hz2]; omega)
    have HR := Lib.hid hr
    clear hr hi hz0 hz1 hz2
    go_enter Try.func69, Try.ntmps69
    go_wp2_with (first | (at_builtin; refine Lib.wpList_append_run _ rfl _ _ _ _ rfl _ _ rfl rfl _ _ HR.out ?_) | fail)
    go_ret
    have hg := grownCap_ge w n 0 5
    refine ⟨_, rfl, ?_, ((Below.refl _ _).alloc (Nat.le_refl _) _).drew⟩
    exact World.ownsRow_made (e := 5) (size := 1) w _ _ (Nat.le_refl _) (grownCap_le_maxLen _ _ _ _ (by unfold maxLen; omega)) (by simp [size_zeroCells]; omega)

/-- a byte slice as a cell -/
abbrev Part := Option Addr × Nat × List UInt8
def sv (p : Part) : Value := .slice p.1 p.2.2.length p.2.1
def joined (ps : List Part) : List UInt8 := ps.flatMap (·.2.2)
theorem joined_snoc (ps : List Part) (p : Part) : joined (ps ++ [p]) = joined ps ++ p.2.2 := by simp [joined]
theorem joined_take_le (ps : List Part) (k : Nat) : (joined (ps.take k)).length ≤ (joined ps).length := by
  have h : joined ps = joined (ps.take k) ++ joined (ps.drop k) := by
    unfold joined
    rw [← List.flatMap_append, List.take_append_drop]
  rw [h, List.length_append]
  omega
theorem ptake_one (l : List Part) (k : Nat) (h : k < l.length) : l.take (k + 1) = l.take k ++ [l[k]] := by
  rw [List.take_succ_eq_append_getElem h]

set_option maxRecDepth 100000 in
set_option maxHeartbeats 1000000 in
theorem concat_any (P : Option Addr) (c : Nat) (ps : List Part) (w : World) (hk : ps.length ≤ 1000) (hn : (joined ps).length ≤ 140737488355328) (hP : Cells w w.heap.size P (ps.map sv)) (hB : ∀ p ∈ ps, BR w w.heap.size p.1 p.2.2) :
    Calls Try.prog 41 #[.slice P ps.length c] w fun e w' => ∃ v', e = .returned v' ∧ Own w' w.heap.size v' (joined ps) ∧ Below w.heap.size w w' := by
  go_enter Try.func41, Try.ntmps41
  go_wp2_with fail
  go_loop [3, 11] (fun s i => ∃ k : Nat, k ≤ ps.length ∧ i = .int .i64 k ∧ s = .int .i64 ((joined (ps.take k)).length : Nat)) (fun _ i => ps.length - (intOf i).toNat)
  case atStart => exact ⟨0, Nat.zero_le _, rfl, rfl⟩
  case round =>
    obtain ⟨k, hk, rfl, rfl⟩ := hrel
    by_cases hlt : k < ps.length
    · obtain ⟨ad, rfl, -, hc⟩ := hP.get k (by simpa using hlt)
      have hle := joined_take_le ps (k + 1)
      rw [ptake_one ps k hlt, joined_snoc, List.length_append] at hle
      have HT := Lib.hid (show (joined (ps.take (k + 1))).length = (joined (ps.take k)).length + ps[k].2.2.length by rw [ptake_one ps k hlt, joined_snoc, List.length_append])
      generalize (joined (ps.take k)).length = J at *
      simp only [List.getElem_map, sv] at hc
      generalize ps[k].2.2.length = M at *
      go_wp2_with fail
      go_round
      case rel => exact ⟨k + 1, by omega, by go_num, by rw [HT.out]; go_num⟩
      case measure => simp [intOf]; omega
    · obtain rfl : k = ps.length := by omega
      rw [List.take_length]
      have HN := Lib.hid (show (joined ps).length ≤ 140737488355328 from hn)
      go_wp2_with fail
      refine (grow_none _ (joined ps).length _ (Lib.hid rfl) hn).mono ?_
      rintro e w1 ⟨v1, rfl, ho1, hb1⟩
      go_wp2_with fail
      go_loopw [6, 27] (fun v i wr => ∃ k : Nat, k ≤ ps.length ∧ i = .int .i64 k ∧ Own wr w.heap.size v (joined (ps.take k)) ∧ Below w.heap.size w wr) (fun _ i _ => ps.length - (intOf i).toNat)
      case atStart => exact ⟨0, Nat.zero_le _, rfl, by simpa [joined] using ho1, hb1⟩
      case round =>
        obtain ⟨k, hk, rfl, ho, hb⟩ := hrel
        by_cases hlt : k < ps.length
        · have hPr := hP.below hb
          obtain ⟨ad, rfl, -, hc⟩ := hPr.get k (by simpa using hlt)
          have hle := joined_take_le ps (k + 1)
          have hsn := joined_snoc (ps.take k) ps[k]
          rw [← ptake_one ps k hlt] at hsn
          rw [hsn, List.length_append] at hle
          have HSN := Lib.hid hsn
          have hBk := (hB _ (List.getElem_mem hlt)).below hb
          simp only [List.getElem_map, sv] at hc
          have HLE : Hid ((joined (ps.take k)).length + ps[k].2.2.length ≤ 140737488355328) := by have := HN.out; unfold Hid; omega
          clear hle hsn hPr
          generalize ps[k] = p at *
          go_wp2_with (first | (at_builtin; go_loud (refine wpList_app _ rfl (.tmp 31) (.tmp 32) 23 5 1 1 rfl elem8 w.heap.size _ _ _ rfl ho w.heap.size p.1 p.2.2.length p.2.1 (p.2.2.map bv) rfl (by simp) hBk (bv_one _) (by have := HLE.out; unfold maxLen; omega) (by have := HLE.out; omega) hb.size ?_); intro v2 w2 hown2 hgrow2 hat2) | fail)
          go_roundw
          case rel =>
            refine ⟨k + 1, by omega, by go_num, ?_, hb.grown hgrow2 hb.size (fun g hg => (ho.lt g hg).1)⟩
            rw [HSN.out]
            exact Own.of hown2 rfl
          case measure => simp [intOf]; omega
        · obtain rfl : k = ps.length := by omega
          rw [List.take_length] at ho
          go_wp2
          go_ret
          exact ⟨_, rfl, ho, hb⟩
end Go.Proofs.Ytdcnpbdkhcdinaa
