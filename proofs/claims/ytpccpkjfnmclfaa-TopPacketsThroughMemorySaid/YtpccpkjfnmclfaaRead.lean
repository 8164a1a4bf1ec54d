/- Read of the program. -/
import Derived.Test.YtpccpkjfnmclfaaTwo
import Derived.Test.YtpccpkjfnmclfaaClone
import Derived.Test.YtpccpkjfnmclfaaCheck
namespace Go.Proofs.Ytpccpkjfnmclfaa
open Go.RowKit

theorem setCell_draws (w : World) (n : Nat) (a : Addr) (v : Value) : (w.drewN n).setCell a v = (w.setCell a v).drewN n := rfl
theorem alloc_draws (w : World) (n : Nat) (o : Obj) : (w.drewN n).alloc o = (w.alloc o).drewN n := rfl
attribute [local go_sem] setCell_draws alloc_draws

/-- what Read gives: the packet's fields, how many bytes, what is wrong -/
structure RP where
  s : Int
  cm : Bool
  pt : Int
  nm : Int
  body : List UInt8
  n : Int
  f : Int
def badRead (f : Int) : RP := ⟨0, false, 0, 0, [], 0, f⟩
def rpBad (l : List UInt8) : Bool := bits .andNot .i64 (val2 l : Nat) 6143 != 0
def rpBody (l : List UInt8) : Int := (val2 (l.drop 4) : Nat) - 1
def readP (l : List UInt8) : RP :=
  if l.length < 6 then badRead 9
  else if rpBad l = true ∨ rpBody l < 1 ∨ 1000 < rpBody l then badRead 3
  else if (l.length : Int) < 8 + rpBody l then badRead 9
  else if intactB (l.take (8 + (rpBody l).toNat)) = false then badRead 15
  else ⟨bits .and .i64 (val2 l : Nat) 2047, bits .and .i64 (val2 l : Nat) 4096 != 0, (val2 (l.drop 2) : Nat) / 16384, bits .and .i64 (val2 (l.drop 2) : Nat) 16383, (l.drop 6).take (rpBody l).toNat, 8 + rpBody l, 0⟩

def ReadPost (w : World) (r : RP) (e : Ending) (w' : World) : Prop :=
  ∃ A c, e = .returned (.tuple #[pv r.s r.cm r.pt r.nm A r.body.length c, .int .i64 r.n, .int .i64 r.f]) ∧ Own w' w.heap.size (.slice A r.body.length c) r.body ∧ Below w.heap.size w w'

set_option maxRecDepth 100000 in
set_option maxHeartbeats 1000000 in
theorem read_short (A : Option Addr) (c : Nat) (l : List UInt8) (w : World) (hs : l.length < 6) :
    Calls Try.prog 33 #[.slice A l.length c] w (ReadPost w (readP l)) := by
  have HR : Hid (readP l = badRead 9) := by unfold Hid readP; rw [if_pos hs]
  go_enter Try.func33, Try.ntmps33
  go_wp2
  refine bodyPost_ret (v := .tuple #[.agg #[.int .i64 0, .bool false, .int .i64 0, .int .i64 0, .slice none 0 0], .int .i64 0, .int .i64 9]) (by simp [results, Try.results33, go_sem]) rfl ?_
  rw [HR.out]
  exact ⟨none, 0, rfl, Own.nil _ _, (Below.refl _ _).alloc (Nat.le_refl _) _⟩

def ReadK (ad : Addr) (c : Nat) (l : List UInt8) (w : World) (V : Nat) : Prop := ∀ (d : Nat) (o : Obj), Calls Try.prog 71 #[.slice (some ad) l.length c] ((w.alloc o).drewN d) fun e w' => e = .returned (.int .i64 (V : Nat)) ∧ ∃ d', w' = ((w.alloc o).drewN d).drewN d'
def ReadK2 (ad : Addr) (c : Nat) (l : List UInt8) (w : World) (V : Nat) : Prop := ∀ (d : Nat) (o : Obj), Calls Try.prog 71 #[.slice (some ⟨ad.block, ad.off + 2, none⟩) (l.length - 2) (c - 2)] ((w.alloc o).drewN d) fun e w' => e = .returned (.int .i64 (V : Nat)) ∧ ∃ d', w' = ((w.alloc o).drewN d).drewN d'
def ReadK4 (ad : Addr) (c : Nat) (l : List UInt8) (w : World) (V : Nat) : Prop := ∀ (d : Nat) (o : Obj), Calls Try.prog 71 #[.slice (some ⟨ad.block, ad.off + 4, none⟩) (l.length - 4) (c - 4)] ((w.alloc o).drewN d) fun e w' => e = .returned (.int .i64 (V : Nat)) ∧ ∃ d', w' = ((w.alloc o).drewN d).drewN d'

set_option maxRecDepth 100000 in
set_option maxHeartbeats 2000000 in
theorem read_bad (ad : Addr) (c : Nat) (l : List UInt8) (w : World) (V0 V2 V4 : Nat) (hs : 6 ≤ l.length) (hc : l.length ≤ c) (_hc2 : c ≤ 9223372036854775807)
    (K0 : Hid (ReadK ad c l w V0)) (K2 : Hid (ReadK2 ad c l w V2)) (K4 : Hid (ReadK4 ad c l w V4)) (HR : Hid (readP l = badRead 3)) (v4 : V4 < 65536)
    (hb : (bits .andNot .i64 (V0 : Int) 6143 != 0) = true ∨ ((bits .andNot .i64 (V0 : Int) 6143 != 0) = false ∧ (V4 ≤ 1 ∨ 1002 ≤ V4))) :
    Calls Try.prog 33 #[.slice (some ad) l.length c] w (ReadPost w (readP l)) := by
  have hc6 : c ≠ 2 := by omega
  have hc4 : c ≠ 4 := by omega
  have hi6 : ¬ ((l.length : Int) < 6) := by omega
  have hw : IntKind.i64.wrap ((V4 : Int) - 1) = (V4 : Int) - 1 := IntWalk.i64_in _ (by omega)
  have k0 := K0.out
  have k2 := K2.out
  have k4 := K4.out
  unfold ReadK at k0
  unfold ReadK2 at k2
  unfold ReadK4 at k4
  have K0 := Lib.hid k0
  have K2 := Lib.hid k2
  have K4 := Lib.hid k4
  clear k0 k2 k4
  rcases hb with hb | ⟨hb, hv | hv⟩
  all_goals
    go_enter Try.func33, Try.ntmps33
    go_wp2_with fail
    go_quiet ((go_at_call 71; first | with_reducible exact Calls.quiet_of (K0.out _ _) | with_reducible exact Calls.quiet_of (K2.out _ _) | with_reducible exact Calls.quiet_of (K4.out _ _)))
    go_wp2_with fail
    all_goals
      refine bodyPost_ret (v := .tuple #[.agg #[.int .i64 0, .bool false, .int .i64 0, .int .i64 0, .slice none 0 0], .int .i64 0, .int .i64 3]) (by simp [results, Try.results33, go_sem]) rfl ?_
      rw [HR.out]
      exact ⟨none, 0, rfl, Own.nil _ _, below_draws ((Below.refl _ _).alloc (Nat.le_refl _) _) _⟩

set_option maxRecDepth 100000 in
set_option maxHeartbeats 2000000 in
theorem read_less (ad : Addr) (c : Nat) (l : List UInt8) (w : World) (V0 V2 N : Nat) (hs : 6 ≤ l.length) (hc : l.length ≤ c) (_hc2 : c ≤ 9223372036854775807)
    (K0 : Hid (ReadK ad c l w V0)) (K2 : Hid (ReadK2 ad c l w V2)) (K4 : Hid (ReadK4 ad c l w (N + 1))) (HR : Hid (readP l = badRead 9)) (hq : (bits .andNot .i64 (V0 : Int) 6143 != 0) = false) (h1 : 1 ≤ N) (h2 : N ≤ 1000) (hl : l.length < 8 + N) :
    Calls Try.prog 33 #[.slice (some ad) l.length c] w (ReadPost w (readP l)) := by
  have hc6 : c ≠ 2 := by omega
  have hc4 : c ≠ 4 := by omega
  have hi6 : ¬ ((l.length : Int) < 6) := by omega
  obtain ⟨V4, hV4⟩ : ∃ V4, V4 = N + 1 := ⟨_, rfl⟩
  rw [← hV4] at K4
  have hw : IntKind.i64.wrap ((V4 : Int) - 1) = (N : Int) := by rw [IntWalk.i64_in _ (by omega)]; omega
  clear hV4
  have k0 := K0.out
  have k2 := K2.out
  have k4 := K4.out
  unfold ReadK at k0
  unfold ReadK2 at k2
  unfold ReadK4 at k4
  have K0 := Lib.hid k0
  have K2 := Lib.hid k2
  have K4 := Lib.hid k4
  clear k0 k2 k4
  go_enter Try.func33, Try.ntmps33
  go_wp2_with fail
  go_quiet ((go_at_call 71; first | with_reducible exact Calls.quiet_of (K0.out _ _) | with_reducible exact Calls.quiet_of (K2.out _ _) | with_reducible exact Calls.quiet_of (K4.out _ _)))
  go_wp2_with fail
  refine bodyPost_ret (v := .tuple #[.agg #[.int .i64 0, .bool false, .int .i64 0, .int .i64 0, .slice none 0 0], .int .i64 0, .int .i64 9]) (by simp [results, Try.results33, go_sem]) rfl ?_
  rw [HR.out]
  exact ⟨none, 0, rfl, Own.nil _ _, below_draws ((Below.refl _ _).alloc (Nat.le_refl _) _) _⟩

set_option maxRecDepth 100000 in
set_option maxHeartbeats 2000000 in
theorem read_broken (ad : Addr) (c : Nat) (l : List UInt8) (w : World) (V0 V2 N : Nat) (hs : 6 ≤ l.length) (hc : l.length ≤ c) (_hc2 : c ≤ 9223372036854775807)
    (K0 : Hid (ReadK ad c l w V0)) (K2 : Hid (ReadK2 ad c l w V2)) (K4 : Hid (ReadK4 ad c l w (N + 1))) (HR : Hid (readP l = badRead 15)) (h : BR w w.heap.size (some ad) l) (hi : intactB (l.take (8 + N)) = false) (hq : (bits .andNot .i64 (V0 : Int) 6143 != 0) = false) (h1 : 1 ≤ N) (h2 : N ≤ 1000) (hl : 8 + N ≤ l.length) :
    Calls Try.prog 33 #[.slice (some ad) l.length c] w (ReadPost w (readP l)) := by
  have hI := fun (d : Nat) (o : Obj) => intact_any (some ad) (8 + N) c (l.take (8 + N)) w.heap.size ((w.alloc o).drewN d) (by simp; omega) (by simp; omega) (by simp; omega) (by omega) ((h.front (8 + N)).below (below_draws ((Below.refl _ _).alloc (Nat.le_refl _) _) _))
  rw [hi] at hI
  have HI := Lib.hid hI
  clear hI hi h
  have hc6 : c ≠ 2 := by omega
  have hc4 : c ≠ 4 := by omega
  have hi6 : ¬ ((l.length : Int) < 6) := by omega
  obtain ⟨V4, hV4⟩ : ∃ V4, V4 = N + 1 := ⟨_, rfl⟩
  rw [← hV4] at K4
  have hw : IntKind.i64.wrap ((V4 : Int) - 1) = (N : Int) := by rw [IntWalk.i64_in _ (by omega)]; omega
  clear hV4
  have k0 := K0.out
  have k2 := K2.out
  have k4 := K4.out
  unfold ReadK at k0
  unfold ReadK2 at k2
  unfold ReadK4 at k4
  have K0 := Lib.hid k0
  have K2 := Lib.hid k2
  have K4 := Lib.hid k4
  clear k0 k2 k4
  go_enter Try.func33, Try.ntmps33
  go_wp2_with fail
  go_quiet ((go_at_call 71; first | with_reducible exact Calls.quiet_of (K0.out _ _) | with_reducible exact Calls.quiet_of (K2.out _ _) | with_reducible exact Calls.quiet_of (K4.out _ _)))
  go_wp2_with fail
  refine (HI.out _ _).mono ?_
  rintro e w1 ⟨rfl, d1, rfl⟩
  go_wp2
  refine bodyPost_ret (v := .tuple #[.agg #[.int .i64 0, .bool false, .int .i64 0, .int .i64 0, .slice none 0 0], .int .i64 0, .int .i64 15]) (by simp [results, Try.results33, go_sem]) rfl ?_
  rw [HR.out]
  exact ⟨none, 0, rfl, Own.nil _ _, below_draws ((Below.refl _ _).alloc (Nat.le_refl _) _) _⟩
set_option maxRecDepth 100000 in
set_option maxHeartbeats 2000000 in
theorem read_good (ad : Addr) (c : Nat) (l : List UInt8) (w : World) (V0 V2 N : Nat) (hs : 6 ≤ l.length) (hc : l.length ≤ c) (_hc2 : c ≤ 9223372036854775807)
    (K0 : Hid (ReadK ad c l w V0)) (K2 : Hid (ReadK2 ad c l w V2)) (K4 : Hid (ReadK4 ad c l w (N + 1))) (HR : Hid (readP l = ⟨bits .and .i64 (V0 : Int) 2047, bits .and .i64 (V0 : Int) 4096 != 0, (V2 : Int) / 16384, bits .and .i64 (V2 : Int) 16383, (l.drop 6).take N, 8 + N, 0⟩)) (h : BR w w.heap.size (some ad) l) (hi : intactB (l.take (8 + N)) = true) (hq : (bits .andNot .i64 (V0 : Int) 6143 != 0) = false) (h1 : 1 ≤ N) (h2 : N ≤ 1000) (hl : 8 + N ≤ l.length) :
    Calls Try.prog 33 #[.slice (some ad) l.length c] w (ReadPost w (readP l)) := by
  have hI := fun (d : Nat) (o : Obj) => intact_any (some ad) (8 + N) c (l.take (8 + N)) w.heap.size ((w.alloc o).drewN d) (by simp; omega) (by simp; omega) (by simp; omega) (by omega) ((h.front (8 + N)).below (below_draws ((Below.refl _ _).alloc (Nat.le_refl _) _) _))
  obtain ⟨ad', e6, t6⟩ := h.tail 6 (by omega)
  obtain rfl : ad = ad' := by injection e6
  clear e6
  have hCl := fun (d : Nat) (o : Obj) => clone_any (some ⟨ad.block, ad.off + 6, none⟩) N (c - 6) ((l.drop 6).take N) ((w.alloc o).drewN d) (by simp; omega) (by simp; omega) ((((t6.front N).below (below_draws ((Below.refl _ _).alloc (Nat.le_refl _) _) _))).lift (by simp))
  have HCl := Lib.hid hCl
  clear hCl t6
  rw [hi] at hI
  have HI := Lib.hid hI
  clear hI hi h
  have hc6 : c ≠ 2 := by omega
  have hc4 : c ≠ 4 := by omega
  have hi6 : ¬ ((l.length : Int) < 6) := by omega
  obtain ⟨V4, hV4⟩ : ∃ V4, V4 = N + 1 := ⟨_, rfl⟩
  rw [← hV4] at K4
  have hw : IntKind.i64.wrap ((V4 : Int) - 1) = (N : Int) := by rw [IntWalk.i64_in _ (by omega)]; omega
  clear hV4
  have k0 := K0.out
  have k2 := K2.out
  have k4 := K4.out
  unfold ReadK at k0
  unfold ReadK2 at k2
  unfold ReadK4 at k4
  have K0 := Lib.hid k0
  have K2 := Lib.hid k2
  have K4 := Lib.hid k4
  clear k0 k2 k4
  go_enter Try.func33, Try.ntmps33
  go_wp2_with fail
  go_quiet ((go_at_call 71; first | with_reducible exact Calls.quiet_of (K0.out _ _) | with_reducible exact Calls.quiet_of (K2.out _ _) | with_reducible exact Calls.quiet_of (K4.out _ _)))
  go_wp2_with fail
  refine (HI.out _ _).mono ?_
  rintro e w1 ⟨rfl, d1, rfl⟩
  have hc8 : c ≠ 6 := by omega
  go_wp2_with fail
  refine (HCl.out _ _).mono ?_
  rintro e w2 ⟨v2, rfl, ho2, hb2⟩
  obtain ⟨A2, c2, rfl, -⟩ := ho2.form
  have hlen : ((l.drop 6).take N).length = N := by simp; omega
  have HLen := Lib.hid hlen
  rw [hlen] at ho2 ⊢
  clear hlen
  have hcell := fun k => Below.at_ hb2 w.heap.size (by simp) k
  have hfroz := fun k => hb2.frozen (p := ⟨w.heap.size, k, none⟩) (by simp)
  have hz : w.heap.size < w2.heap.size := by have := hb2.size; simp at this; omega
  have hbb : Below w.heap.size w w2 := (below_draws ((Below.refl _ _).alloc (Nat.le_refl _) _) _).trans (hb2.mono (by simp))
  have HO := Lib.hid ho2
  have HBB := Lib.hid hbb
  clear hb2 ho2 hbb
  go_wp2
  refine bodyPost_ret (v := .tuple #[.agg #[.int .i64 (bits .and .i64 (V0 : Int) 2047), .bool (bits .and .i64 (V0 : Int) 4096 != 0), .int .i64 ((V2 : Int) / 16384), .int .i64 (bits .and .i64 (V2 : Int) 16383), .slice A2 N c2], .int .i64 (8 + (N : Int)), .int .i64 0]) (by simp [results, Try.results33, go_sem, hcell]) rfl ?_
  rw [HR.out]
  refine ⟨A2, c2, by rw [HLen.out]; rfl, ?_, ((((HBB.out.setCell (Nat.le_refl _) _).setCell (Nat.le_refl _) _).setCell (Nat.le_refl _) _).setCell (Nat.le_refl _) _).setCell (Nat.le_refl _) _⟩
  have hg := ((((setCell_grown w2 w.heap.size 0 (.int .i64 (bits .and .i64 (V0 : Int) 2047))).trans (setCell_grown _ _ 1 (.bool (bits .and .i64 (V0 : Int) 4096 != 0)))).trans (setCell_grown _ _ 2 (.int .i64 ((V2 : Int) / 16384)))).trans (setCell_grown _ _ 3 (.int .i64 (bits .and .i64 (V2 : Int) 16383)))).trans (setCell_grown _ _ 4 (.slice A2 N c2))
  have := (HO.out.apart hg (by simp)).lower (base' := w.heap.size) (by simp)
  show Own _ _ (.slice A2 ((l.drop 6).take N).length c2) _
  rw [HLen.out]
  exact this

/-- Read of the program, for every bytes. -/
theorem read_any (A : Option Addr) (c : Nat) (l : List UInt8) (w : World) (hc : l.length ≤ c) (hc2 : c ≤ 9223372036854775807) (h : BR w w.heap.size A l) :
    Calls Try.prog 33 #[.slice A l.length c] w (ReadPost w (readP l)) := by
  by_cases hs : l.length < 6
  · exact read_short A c l w hs
  have hs : 6 ≤ l.length := by omega
  obtain ⟨ad, rfl, t2⟩ := h.tail 2 (by omega)
  obtain ⟨ad', e, t4⟩ := h.tail 4 (by omega)
  obtain rfl : ad = ad' := by injection e
  have k0 : ReadK ad c l w (val2 l) := fun (d : Nat) (o : Obj) => two_any (some ad) l.length c l w.heap.size ((w.alloc o).drewN d) rfl (by omega) (by omega) (h.below (below_draws ((Below.refl _ _).alloc (Nat.le_refl _) _) _))
  have k2 : ReadK2 ad c l w (val2 (l.drop 2)) := fun (d : Nat) (o : Obj) => two_any (some ⟨ad.block, ad.off + 2, none⟩) (l.length - 2) (c - 2) (l.drop 2) w.heap.size ((w.alloc o).drewN d) (by simp) (by simp; omega) (by omega) (t2.below (below_draws ((Below.refl _ _).alloc (Nat.le_refl _) _) _))
  have k4 : ReadK4 ad c l w (val2 (l.drop 4)) := fun (d : Nat) (o : Obj) => two_any (some ⟨ad.block, ad.off + 4, none⟩) (l.length - 4) (c - 4) (l.drop 4) w.heap.size ((w.alloc o).drewN d) (by simp) (by simp; omega) (by omega) (t4.below (below_draws ((Below.refl _ _).alloc (Nat.le_refl _) _) _))
  have v4 := val2_lt (l.drop 4)
  have hq0 : rpBad l = (bits .andNot .i64 (val2 l : Nat) 6143 != 0) := rfl
  have hb0 : rpBody l = (val2 (l.drop 4) : Nat) - 1 := rfl
  by_cases hb : rpBad l = true ∨ rpBody l < 1 ∨ 1000 < rpBody l
  · refine read_bad ad c l w _ _ _ hs hc hc2 k0 k2 k4 ?_ v4 ?_
    · unfold Hid readP
      rw [if_neg (by omega), if_pos hb]
    · rw [hq0, hb0] at hb
      by_cases hq : (bits .andNot .i64 (val2 l : Nat) 6143 != 0) = true
      · exact .inl hq
      · refine .inr ⟨by simpa using hq, ?_⟩
        rcases hb with h | h | h
        · exact absurd h hq
        · exact .inl (by omega)
        · exact .inr (by omega)
  · have hq : (bits .andNot .i64 (val2 l : Nat) 6143 != 0) = false := by
      rw [← hq0]
      have : ¬ rpBad l = true := fun e => hb (.inl e)
      simpa using this
    have hr1 : ¬ rpBody l < 1 := fun e => hb (.inr (.inl e))
    have hr2 : ¬ 1000 < rpBody l := fun e => hb (.inr (.inr e))
    obtain ⟨N, hN⟩ : ∃ N, val2 (l.drop 4) = N + 1 := ⟨val2 (l.drop 4) - 1, by omega⟩
    have hbN : rpBody l = (N : Int) := by omega
    rw [hN] at k4
    by_cases hl : l.length < 8 + N
    · refine read_less ad c l w _ _ N hs hc hc2 k0 k2 k4 ?_ hq (by omega) (by omega) hl
      unfold Hid readP
      rw [if_neg (by omega), if_neg hb, if_pos (by omega)]
    · cases hi : intactB (l.take (8 + N)) with
      | false =>
        refine read_broken ad c l w _ _ N hs hc hc2 k0 k2 k4 ?_ h hi hq (by omega) (by omega) (by omega)
        unfold Hid readP
        rw [if_neg (by omega), if_neg hb, if_neg (by omega), if_pos]
        rw [hbN]; exact hi
      | true =>
        refine read_good ad c l w _ _ N hs hc hc2 k0 k2 k4 ?_ h hi hq (by omega) (by omega) (by omega)
        unfold Hid readP
        rw [if_neg (by omega), if_neg hb, if_neg (by omega), if_neg, hbN]
        · rfl
        · rw [hbN]
          simp [hi]
end Go.Proofs.Ytpccpkjfnmclfaa
