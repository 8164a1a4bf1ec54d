/- the walks of both AckBytes. -/
import Derived.Test.YteikggieekhfkaaTakeAll
import Derived.StillTailTactics
import Derived.Laws.BitsAllLaws
namespace Go.Proofs.Yteikggieekhfkaa
open Go.RowKit

attribute [local go_sem] setCell_draws alloc_draws
def flags (L R T : Bool) : Nat := (if L then 1 else 0) + (if R then 2 else 0) + (if T then 4 else 0)
def ackB (n : Nat) (L R T : Bool) : List UInt8 := [UInt8.ofNat n, UInt8.ofNat (flags L R T)]
def ackS (n : Int) : Int := if 0 ≤ n ∧ n ≤ 255 then 0 else 1
def outA (n : Int) (L R T : Bool) : List UInt8 := if ackS n = 0 then ackB n.toNat L R T else []
/-- bytes that a call answers, with a fault -/
def BytesPost (l : List UInt8) (f : Int) (w : World) (e : Ending) (w' : World) : Prop :=
  ∃ A c, e = .returned (.tuple #[.slice A l.length c, .int .i64 f]) ∧ BR w' w'.heap.size A l ∧ Below w.heap.size w w' ∧ l.length ≤ c
theorem lit_two (w : World) (a b : UInt8) (x y : Int) (hx : x = (a.toNat : Int)) (hy : y = (b.toNat : Int)) (t : TypeId) : BR (w.alloc (.cells #[.int .u8 x, .int .u8 y] t)) (w.alloc (.cells #[.int .u8 x, .int .u8 y] t)).heap.size (some ⟨w.heap.size, 0, none⟩) [a, b] := by
  rw [World.size_alloc]
  exact Cells.fresh w _ t _ _ (by rw [hx, hy]; rfl)
theorem lit_twoD (w : World) (a b : UInt8) (x y : Int) (hx : x = (a.toNat : Int)) (hy : y = (b.toNat : Int)) (t : TypeId) (n : Nat) : BR ((w.alloc (.cells #[.int .u8 x, .int .u8 y] t)).drewN n) ((w.alloc (.cells #[.int .u8 x, .int .u8 y] t)).drewN n).heap.size (some ⟨w.heap.size, 0, none⟩) [a, b] := lit_two w a b x y hx hy t
set_option maxRecDepth 100000 in
set_option maxHeartbeats 400000 in
theorem p_bitIf_any (b : Bool) (k : Int) (w : World) :
    Calls Try.prog 82 #[.bool b, .int .u8 k] w fun e w' => e = .returned (.int .u8 (if b then k else 0)) ∧ w = w' := by
  cases b
  all_goals
    go_enter Try.func82, Try.ntmps82
    go_wp2
    go_ret
    exact ⟨rfl, rfl⟩
set_option maxRecDepth 100000 in
set_option maxHeartbeats 400000 in
theorem p_checkAck_any (n : Int) (L R T : Bool) (w : World) :
    Calls Try.prog 81 #[ackV n L R T] w fun e w' => e = .returned (.int .i64 (ackS n)) ∧ Below w.heap.size w w' := by
  unfold ackV
  have HE := Lib.hid (show ackS n = if 0 ≤ n ∧ n ≤ 255 then 0 else 1 from rfl)
  generalize ackS n = X at *
  by_cases h1 : 0 ≤ n ∧ n ≤ 255
  · have d1 : decide (0 ≤ n ∧ n ≤ 255) = true := decide_eq_true h1
    have HR : Hid (X = 0) := Lib.hid (by rw [HE.out, if_pos h1])
    clear HE h1
    go_enter Try.func81, Try.ntmps81
    go_wp2_with (first | (go_at_call 54; refine (p_isNumber_any _ _).mono ?_; rintro e w' ⟨rfl, rfl⟩) | fail)
    go_ret
    exact ⟨ret_int HR.out.symm, (Below.refl _ _).alloc (Nat.le_refl _) _⟩
  · have d1 : decide (0 ≤ n ∧ n ≤ 255) = false := decide_eq_false h1
    have HR : Hid (X = 1) := Lib.hid (by rw [HE.out, if_neg h1])
    clear HE h1
    go_enter Try.func81, Try.ntmps81
    go_wp2_with (first | (go_at_call 54; refine (p_isNumber_any _ _).mono ?_; rintro e w' ⟨rfl, rfl⟩) | fail)
    go_ret
    exact ⟨ret_int HR.out.symm, (Below.refl _ _).alloc (Nat.le_refl _) _⟩
set_option maxRecDepth 100000 in
set_option maxHeartbeats 1600000 in
theorem p_ackBytes_any (n : Int) (L R T : Bool) (w : World) : Calls Try.prog 45 #[ackV n L R T] w (BytesPost (outA n L R T) (ackS n) w) := by
  have HA := Lib.hid (p_checkAck_any n L R T)
  have HB1 := Lib.hid (fun w => p_bitIf_any L 1 w)
  have HB2 := Lib.hid (fun w => p_bitIf_any R 2 w)
  have HB3 := Lib.hid (fun w => p_bitIf_any T 4 w)
  unfold ackV at *
  by_cases h1 : ackS n = 0
  · have hn : 0 ≤ n ∧ n ≤ 255 := by unfold ackS at h1; split at h1; assumption; simp at h1
    have HO : Hid (outA n L R T = ackB n.toNat L R T) := Lib.hid (by unfold outA; rw [if_pos h1])
    obtain ⟨N, rfl⟩ : ∃ N : Nat, n = (N : Int) := ⟨n.toNat, by omega⟩
    have hN : N ≤ 255 := by omega
    rw [h1] at HA ⊢
    generalize outA (N : Int) L R T = X at *
    rw [Int.toNat_natCast] at HO
    clear hn h1
    have hbits : bits .or .u8 (bits .or .u8 (if L then 1 else 0) (if R then 2 else 0)) (if T then 4 else 0) = ((UInt8.ofNat (flags L R T)).toNat : Int) := by
      cases L <;> cases R <;> cases T <;> rfl
    have hbyte : (N : Int) = ((UInt8.ofNat N).toNat : Int) := by
      rw [UInt8.toNat_ofNat']; omega
    have HBY := Lib.hid hbyte
    generalize (if L then (1 : Int) else 0) = l1 at *
    generalize (if R then (2 : Int) else 0) = l2 at *
    generalize (if T then (4 : Int) else 0) = l3 at *
    have HBT := Lib.hid hbits
    clear hbits hbyte
    go_enter Try.func45, Try.ntmps45
    go_wp2_with fail
    refine (HA.out _).mono ?_
    rintro e w1 ⟨rfl, hb1⟩
    have g0 : Blk w1 w.heap.size (ackC N L R T) 32 := ((Blk.new w _ _).below hb1 (by simp))
    have B1 := ((Below.refl w.heap.size w).alloc (Nat.le_refl _) (.cells (ackC N L R T) 32)).trans (hb1.mono (by simp))
    clear hb1
    obtain ⟨q0, q1, q2, q3⟩ := blk_a g0
    go_wp2_with fail
    go_quiet ((first | (go_at_call 82; with_reducible exact Calls.quiet_of_same ((HB1.out _).mono fun e w' h => ⟨h.1, h.2.symm⟩)) | (go_at_call 82; with_reducible exact Calls.quiet_of_same ((HB2.out _).mono fun e w' h => ⟨h.1, h.2.symm⟩)) | (go_at_call 82; with_reducible exact Calls.quiet_of_same ((HB3.out _).mono fun e w' h => ⟨h.1, h.2.symm⟩))))
    all_goals
      go_wp2_with fail
      go_ret2
      rw [HO.out]
      refine ⟨_, _, rfl, ?_, ?_, Nat.le_refl _⟩
      · exact lit_twoD _ _ _ _ _ HBY.out HBT.out _ _
      · exact below_draws (B1.alloc B1.size _) _
  · have HO : Hid (outA n L R T = []) := Lib.hid (by unfold outA; rw [if_neg h1])
    have d1 : (ackS n != 0) = true := by simpa using h1
    generalize ackS n = F at *
    generalize outA n L R T = X at *
    clear h1
    go_enter Try.func45, Try.ntmps45
    go_wp2_with fail
    refine (HA.out _).mono ?_
    rintro e w1 ⟨rfl, hb1⟩
    have B1 := ((Below.refl w.heap.size w).alloc (Nat.le_refl _) (.cells (ackC n L R T) 32)).trans (hb1.mono (by simp))
    clear hb1
    go_wp2_with fail
    go_ret2
    rw [HO.out]
    exact ⟨_, _, rfl, .inl rfl, B1, Nat.le_refl _⟩
set_option maxRecDepth 100000 in
set_option maxHeartbeats 400000 in
theorem r_flag_any (b : Bool) (k : Int) (w : World) :
    Calls Try.prog 83 #[.bool b, .int .i64 k] w fun e w' => e = .returned (.int .i64 (if b then k else 0)) ∧ w = w' := by
  cases b
  all_goals
    go_enter Try.func83, Try.ntmps83
    go_wp2
    go_ret
    exact ⟨rfl, rfl⟩
set_option maxRecDepth 100000 in
set_option maxHeartbeats 1600000 in
theorem r_ackBytes_any (n : Int) (L R T : Bool) (w : World) : Calls Try.prog 46 #[ackV n L R T] w (BytesPost (outA n L R T) (ackS n) w) := by
  have HB1 := Lib.hid (fun w => r_flag_any L 1 w)
  have HB2 := Lib.hid (fun w => r_flag_any R 2 w)
  have HB3 := Lib.hid (fun w => r_flag_any T 4 w)
  unfold ackV at *
  by_cases h1 : 0 ≤ n ∧ n ≤ 255
  · have hn := h1
    have HF : Hid (ackS n = 0) := Lib.hid (by unfold ackS; rw [if_pos h1])
    have HO : Hid (outA n L R T = ackB n.toNat L R T) := Lib.hid (by unfold outA; rw [HF.out, if_pos rfl])
    have d1 : decide (0 ≤ n ∧ n ≤ 255) = true := decide_eq_true h1
    clear h1
    generalize ackS n = F at *
    obtain ⟨N, rfl⟩ : ∃ N : Nat, n = (N : Int) := ⟨n.toNat, by omega⟩
    have hN : N ≤ 255 := by omega
    have d2 : decide ((N : Int) ≤ 255) = true := decide_eq_true (by omega)
    generalize outA (N : Int) L R T = X at *
    rw [Int.toNat_natCast] at HO
    clear hn
    have hbits : (if L then (1 : Int) else 0) + (if R then 2 else 0) + (if T then 4 else 0) = ((UInt8.ofNat (flags L R T)).toNat : Int) := by
      cases L <;> cases R <;> cases T <;> rfl
    have hbyte : (N : Int) = ((UInt8.ofNat N).toNat : Int) := by
      rw [UInt8.toNat_ofNat']; omega
    have HBY := Lib.hid hbyte
    have b1 : 0 ≤ (if L then (1 : Int) else 0) ∧ (if L then (1 : Int) else 0) ≤ 1 := by cases L <;> simp
    have b2 : 0 ≤ (if R then (2 : Int) else 0) ∧ (if R then (2 : Int) else 0) ≤ 2 := by cases R <;> simp
    have b3 : 0 ≤ (if T then (4 : Int) else 0) ∧ (if T then (4 : Int) else 0) ≤ 4 := by cases T <;> simp
    generalize (if L then (1 : Int) else 0) = l1 at *
    generalize (if R then (2 : Int) else 0) = l2 at *
    generalize (if T then (4 : Int) else 0) = l3 at *
    have HBT := Lib.hid hbits
    obtain ⟨b10, b11⟩ := b1
    obtain ⟨b20, b21⟩ := b2
    obtain ⟨b30, b31⟩ := b3
    clear hbits hbyte
    have w1 : IntKind.i64.wrap (l1 + l2) = l1 + l2 := IntWalk.i64_in _ (by omega)
    have w2 : IntKind.i64.wrap (l1 + l2 + l3) = l1 + l2 + l3 := IntWalk.i64_in _ (by omega)
    have w3 : (l1 + l2 + l3) % 256 = l1 + l2 + l3 := by omega
    go_enter Try.func46, Try.ntmps46
    go_wp2_with (first | (go_at_call 56; refine (r_within_any _ _ _ _).mono ?_; rintro e w' ⟨rfl, rfl⟩) | fail)
    refine wp_region_still_tail 15 (by kernel_rfl) (by kernel_rfl) ?_
    simp only [List.take_succ_cons, List.take_zero, List.drop_succ_cons, List.drop_zero]
    generalize hwd : ({ (w.alloc (.cells #[.int .i64 (N : Int), .bool L, .bool R, .bool T] 32)) with drawn := (w.alloc (.cells #[.int .i64 (N : Int), .bool L, .bool R, .bool T] 32)).drawn + 1 } : World) = wd
    have g0 : Blk wd w.heap.size (ackC N L R T) 32 := by rw [← hwd]; exact Blk.new w _ _
    have B1 : Below w.heap.size w wd := by rw [← hwd]; exact ((Below.refl w.heap.size w).alloc (Nat.le_refl _) (.cells (ackC N L R T) 32)).drew
    clear hwd
    obtain ⟨q0, q1, q2, q3⟩ := blk_a g0
    repeat still_step
    still_call ((HB1.out wd).mono fun e w' ⟨h1, h2⟩ => ⟨h1, h2.symm⟩)
    repeat still_step
    still_call ((HB2.out wd).mono fun e w' ⟨h1, h2⟩ => ⟨h1, h2.symm⟩)
    repeat still_step
    still_call ((HB3.out wd).mono fun e w' ⟨h1, h2⟩ => ⟨h1, h2.symm⟩)
    repeat still_step
    refine wpStill_nil ?_
    go_wp2_with fail
    go_ret2
    rw [HO.out, HF.out]
    refine ⟨some ⟨wd.heap.size, 0, none⟩, 2, rfl, ?_, ?_, Nat.le_refl _⟩
    · exact lit_two _ _ _ _ _ HBY.out HBT.out _
    · exact B1.alloc B1.size _
  · have HF : Hid (ackS n = 1) := Lib.hid (by unfold ackS; rw [if_neg h1])
    have HO : Hid (outA n L R T = []) := Lib.hid (by unfold outA; rw [HF.out]; rfl)
    have d1 : decide (0 ≤ n ∧ n ≤ 255) = false := decide_eq_false h1
    generalize ackS n = F at *
    generalize outA n L R T = X at *
    clear h1
    go_enter Try.func46, Try.ntmps46
    go_wp2_with (first | (go_at_call 56; refine (r_within_any _ _ _ _).mono ?_; rintro e w' ⟨rfl, rfl⟩) | fail)
    go_ret2
    rw [HO.out, HF.out]
    exact ⟨_, _, rfl, .inl rfl, (Below.refl _ _).alloc (Nat.le_refl _) _, Nat.le_refl _⟩
end Go.Proofs.Yteikggieekhfkaa
