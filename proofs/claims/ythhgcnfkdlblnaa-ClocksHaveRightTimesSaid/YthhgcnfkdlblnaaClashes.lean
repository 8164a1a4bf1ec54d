/- Clashes of the program; Window and Clashes of the reference. -/
import Derived.Test.YthhgcnfkdlblnaaClash
namespace Go.Proofs.Ythhgcnfkdlblnaa
open Go.RowKit

/-- the head of the loop of Clashes -/
def ClashAt (s f : Int) (l : List Mk) (w : World) (v i : Value) (wr : World) : Prop :=
  ∃ k : Nat, k ≤ l.length ∧ i = .int .i64 k ∧ OwnI wr (w.heap.size + 1) v (clashTo s f l k) ∧ Below (w.heap.size + 1) (boxed s f w) wr
theorem clashesS_bad {s f : Int} {l : List Mk} (h : ckB s f l ≠ 0) : clashesS s f l = ([], ckB s f l) := by unfold clashesS; rw [if_pos h]
theorem clashesS_ok {s f : Int} {l : List Mk} (h : ckB s f l = 0) : clashesS s f l = (clashTo s f l l.length, 0) := by unfold clashesS; rw [if_neg (by simpa using h)]
set_option maxRecDepth 100000 in
set_option maxHeartbeats 2000000 in
theorem clashes_any (s f : Int) (A : Option Addr) (c : Nat) (l : List Mk) (w : World) (hl : l.length ≤ 9223372036854775807) (hA : MR w w.heap.size A l) :
    Calls Try.prog 35 #[cv s f, .slice A l.length c] w (TurnPost (clashesS s f l) w) := by
  have hc := fun (w' : World) (hb : Below w.heap.size w w') => checkBoth_any s f A c l w' hl ((hA.below hb).lift hb.size)
  by_cases h : ckB s f l = 0
  · obtain ⟨q1, q2⟩ := ckB_ok h
    obtain ⟨hs, hf, -⟩ := ckC_ok q1
    obtain ⟨-, h2000, hok, -⟩ := ckM_ok l q2
    clear q1 q2
    have hcon := fun (k : Nat) (hk : k < l.length) (w' : World) (hb : Below w.heap.size w w') => contradicted_any s f A c l k w' hk hs hf hok h2000 ((hA.below hb).lift hb.size)
    rw [clashesS_ok h]
    rw [h] at hc
    unfold TurnPost
    simp only
    unfold cv at *
    have HC := Lib.hid hc
    have HCON := Lib.hid hcon
    clear hc hcon h hs hf hok
    go_enter Try.func35, Try.ntmps35
    go_wp2_with fail
    refine (HC.out _ (boxed_below s f w)).mono ?_
    rintro e w1 ⟨rfl, hb1⟩
    have hb2 : Below (w.heap.size + 1) (boxed s f w) w1 := hb1.mono (by rw [boxed_size]; omega)
    clear hb1 HC
    go_wp2_with fail
    go_loopw [7, 17] (fun v i wr => ClashAt s f l w v i wr) (fun _ i _ => l.length - (intOf i).toNat)
    case atStart => exact ⟨0, Nat.zero_le _, rfl, OwnI.nil _ _, hb2⟩
    case round =>
      obtain ⟨k, hk, rfl, hown, hb⟩ := hrel
      have hbw := boxed_all hb
      by_cases hlt : k < l.length
      · obtain ⟨fa, fb⟩ := boxed_cells hb
        have HK := Lib.hid (HCON.out k hlt wr hbw)
        have hlen := clashTo_len s f l k
        have hG := clashAt_get s f l k hlt
        have hbz := hb.size
        rw [boxed_size] at hbz
        by_cases hcl : clashAt s f l k = true
        · have HY := Lib.hid (clashTo_yes s f l k hcl)
          rw [hcl] at hG
          rw [← hG] at HK
          clear hG hcl
          generalize clashTo s f l k = acc at *
          go_wp2_with fail
          refine HK.out.mono ?_
          rintro e w2 ⟨rfl, hb3⟩
          have hown2 := hown.after hb3 (Nat.le_refl _)
          have hbn := hb.trans (hb3.mono (by omega))
          have hz2 := hb3.size
          clear hown hb3
          go_wp2_with (first | (at_builtin; refine wpList_app _ rfl (.tmp 24) (.tmp 26) 22 3 1 8 rfl elemI (w.heap.size + 1) u7 acc.length (acc.map iv) rfl (World.ownsRow.alloc hown2 _) (w2.heap.size + 1) _ 1 1 ([(k : Int)].map iv) rfl rfl (Cells.fresh w2 _ 3 _ _ rfl) (iv_one _) (by unfold maxLen; omega) (by omega) (by simp; omega) ?_; intro v3 w3 hown3 hgrow3 hat3) | fail)
          go_roundw
          case rel =>
            refine ⟨k + 1, by omega, by go_num, ?_, ?_⟩
            · rw [HY.out]; exact OwnI.of hown3 rfl
            · exact (hbn.alloc (by omega) _).grown hgrow3 (by simp; omega) (fun g hgv => (hown2.lt g hgv).1)
          case measure => simp [intOf]; omega
        · have hcl : clashAt s f l k = false := by simpa using hcl
          have HY := Lib.hid (clashTo_no s f l k hcl)
          rw [hcl] at hG
          rw [← hG] at HK
          clear hG hcl
          generalize clashTo s f l k = acc at *
          go_wp2_with fail
          refine HK.out.mono ?_
          rintro e w2 ⟨rfl, hb3⟩
          have hown2 := hown.after hb3 (Nat.le_refl _)
          have hbn := hb.trans (hb3.mono (by omega))
          clear hown hb3
          go_wp2_with fail
          go_roundw
          case rel => exact ⟨k + 1, by omega, by go_num, by rw [HY.out]; exact hown2, hbn⟩
          case measure => simp [intOf]; omega
      · obtain rfl : k = l.length := by omega
        go_wp2_with fail
        go_ret2
        exact ⟨_, rfl, hown.lower (by omega), hbw⟩
  · rw [clashesS_bad h]
    generalize ckB s f l = r at *
    have hne : (r != 0) = true := by simpa using h
    have HC := Lib.hid hc
    unfold TurnPost
    simp only
    clear hc h hA
    unfold cv at *
    go_enter Try.func35, Try.ntmps35
    go_wp2_with fail
    refine (HC.out _ (boxed_below s f w)).mono ?_
    rintro e w1 ⟨rfl, hb1⟩
    have hb2 : Below w.heap.size w w1 := boxed_trans hb1
    clear hb1
    go_wp2_with fail
    go_ret2
    exact ⟨_, rfl, OwnI.nil _ _, hb2⟩
end Go.Proofs.Ythhgcnfkdlblnaa
