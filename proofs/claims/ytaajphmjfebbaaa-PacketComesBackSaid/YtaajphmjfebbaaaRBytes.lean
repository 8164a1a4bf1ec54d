/- the bytes of a packet, made by the reference. -/
import Derived.Test.YtaajphmjfebbaaaPBytes
import Derived.Test.YtaajphmjfebbaaaConcat
import Derived.Deep.RegionHeld3
import Derived.Deep.DeepCutAuto
namespace Go.Proofs.Ytaajphmjfebbaaa
open Go.RowKit

theorem concat_n (P : Option Addr) (n c : Nat) (ps : List Part) (w : World) (hp : n = ps.length) (hk : ps.length ≤ 1000) (hn : (joined ps).length ≤ 140737488355328) (hP : Cells w w.heap.size P (ps.map sv)) (hB : ∀ p ∈ ps, BR w w.heap.size p.1 p.2.2) :
    Calls Try.prog 17 #[.slice P n c] w fun e w' => ∃ v', e = .returned v' ∧ Own w' w.heap.size v' (joined ps) ∧ Below w.heap.size w w' := by
  subst hp
  exact concat_any P c ps w hk hn hP hB

set_option maxRecDepth 100000 in
set_option maxHeartbeats 2000000 in
theorem rpacketBytes_any (s : Nat) (cm : Bool) (pt nm : Nat) (A : Option Addr) (cap : Nat) (l : List UInt8) (w : World) (h1 : s ≤ 2047) (h2 : pt ≤ 3) (h3 : nm ≤ 16383) (h4 : l.length ≤ 1000) (h : BR w w.heap.size A l) :
    Calls Try.prog 28 #[pv s cm pt nm A l.length cap] w fun e w' => ∃ v, e = .returned v ∧ Own w' w.heap.size v (pBytes s cm pt nm l) ∧ Below w.heap.size w w' := by
  obtain ⟨W0, hW0⟩ : ∃ W0 : World, W0 = w.alloc (.cells #[.int .i64 s, .bool cm, .int .i64 pt, .int .i64 nm, .slice A l.length cap] 24) := ⟨_, rfl⟩
  have HW0 := Lib.hid hW0
  clear hW0
  obtain ⟨S, hS⟩ : ∃ S : Nat, S = if cm then s + 4096 else s := ⟨_, rfl⟩
  have hP : pHead s cm pt nm l = two S ++ (two (pt * 16384 + nm) ++ (two (l.length + 1) ++ l)) := by rw [hS]; simp [pHead]
  have hPl := pHead_len s cm pt nm l
  have HPL : Hid (pBytes s cm pt nm l = pHead s cm pt nm l ++ two (crcN (pHead s cm pt nm l))) := rfl
  generalize pBytes s cm pt nm l = PB at *
  generalize pHead s cm pt nm l = PH at *
  have HP := Lib.hid hP
  have HPl := Lib.hid hPl
  have HS := Lib.hid hS
  clear hP hPl hS
  cases cm
  all_goals
    unfold pv
    go_enter Try.func28, Try.ntmps28
    go_wp2_with fail
    go_region_held3 (fun w' => w'.cell? ⟨w.heap.size, 2, none⟩ = some (.int .i64 pt) ∧ w'.cell? ⟨w.heap.size, 3, none⟩ = some (.int .i64 nm) ∧ w'.cell? ⟨w.heap.size, 4, none⟩ = some (.slice A l.length cap))
     (first | go_keep | (refine ⟨?_, ?_, ?_⟩ <;> (rw [Below.at_ (a := W0) (by assumption) w.heap.size (by omega), HW0.out]; simp [go_sem]; done)))
     (first
      | (go_at_call 45
         refine (rtwo_at (b := w.heap.size + 1) (W0 := W0) _ (S) ?_ ?_ ?_).mono ?_
         · (have := HS.out; simp at this; unfold Hid; omega)
         · first | assumption | (rw [HW0.out]; exact (Below.refl _ _).drew)
         · first | assumption | (simp; done)
         rintro e w1 ⟨A1, c1, rfl, ho1, hb1, hs1, hk1⟩)
      | (go_at_call 45
         refine (rtwo_at (b := w.heap.size + 1) (W0 := W0) _ (pt * 16384 + nm) ?_ ?_ ?_).mono ?_
         · exact wrapped (by rw [IntWalk.i64_in _ (by omega)]; omega) (by omega)
         · first | assumption | (rw [HW0.out]; exact (Below.refl _ _).drew)
         · first | assumption | (simp; done)
         rintro e w2 ⟨A2, c2, rfl, ho2, hb2, hs2, hk2⟩)
      | (go_at_call 45
         refine (rtwo_at (b := w.heap.size + 1) (W0 := W0) _ (l.length + 1) ?_ ?_ ?_).mono ?_
         · exact wrapped (by omega) (by omega)
         · first | assumption | (rw [HW0.out]; exact (Below.refl _ _).drew)
         · first | assumption | (simp; done)
         rintro e w3 ⟨A3, c3, rfl, ho3, hb3, hs3, hk3⟩)
      | (go_at_call 17
         refine (concat_n _ _ _ [(A1, c1, two S), (A2, c2, two (pt * 16384 + nm)), (A3, c3, two (l.length + 1)), (A, cap, l)] _ rfl (by simp) ?_ ?_ ?_).mono ?_
         · (simp [joined, two_len]; omega)
         · (exact (Cells.fresh w3 _ 22 (0, 0) _ rfl).lift (by simp))
         · intro p hp
           have hA : Below w.heap.size w w3 := by
             rw [HW0.out] at hb3
             exact ((Below.refl _ _).alloc (Nat.le_refl _) _).trans (hb3.mono (by omega))
           have hz : w3.heap.size ≤ (w3.alloc (.cells #[.slice A1 2 c1, .slice A2 2 c2, .slice A3 2 c3, .slice A l.length cap] 22)).heap.size := by simp
           have hw : Below w3.heap.size w3 (w3.alloc (.cells #[.slice A1 2 c1, .slice A2 2 c2, .slice A3 2 c3, .slice A l.length cap] 22)) := (Below.refl _ _).alloc (Nat.le_refl _) _
           simp only [List.mem_cons, List.not_mem_nil, or_false] at hp
           rcases hp with rfl | rfl | rfl | rfl
           · exact ((Own.read (hk3 _ _ (hk2 _ _ ho1))).2.below hw).lift hz
           · exact ((Own.read (hk3 _ _ ho2)).2.below hw).lift hz
           · exact ((Own.read ho3).2.below hw).lift hz
           · exact (((h.below hA).lift hA.size).below hw).lift hz
         rintro e w4 ⟨v4, rfl, ho4, hb4⟩
         have hb5 : Below (w.heap.size + 1) W0 w4 := (hb3.alloc hs3 _).trans (hb4.mono (by simp; omega))))
    have ho5 : Own w4 (w.heap.size + 1) v4 PH := by
      have := ho4.lower (base' := w.heap.size + 1) (by simp; omega)
      rw [HP.out]
      simpa [joined] using this
    have hs5 : w.heap.size + 1 ≤ w4.heap.size := by have := hb5.size; rw [HW0.out] at this; simpa using this
    have HL6 : Hid (PH.length ≤ 1006) := by unfold Hid; have := HPl.out; omega
    clear ho4 hb4 ho1 ho2 ho3 hk1 hk2 hk3 hb1 hb2 hb3 hs1 hs2 hs3
    go_wp2_with fail
    refine (rsumOwn_any _ _ _ _ (by have := HL6.out; omega) ho5).mono ?_
    rintro e w6 ⟨rfl, rfl⟩
    go_wp2_with fail
    refine (rtwo_at (b := w.heap.size + 1) (W0 := W0) _ (crcN PH) (Lib.hid rfl) hb5 hs5).mono ?_
    rintro e w7 ⟨A7, c7, rfl, ho7, hb7, hs7, hk7⟩
    have ho6 := hk7 _ _ ho5
    go_wp2_with (first | (at_builtin; refine wpList_app _ rfl (.tmp 29) (.tmp 32) 22 5 1 1 rfl elem8 (w.heap.size + 1) v4 _ _ rfl ho6 w7.heap.size A7 2 c7 ((two (crcN PH)).map bv) rfl rfl (Own.read ho7).2 (bv_one _) (by have := HL6.out; unfold maxLen; omega) (by have := HL6.out; omega) hs7 ?_; intro v8 w8 hown8 hgrow8 hat8) | fail)
    go_ret
    have hb8 := hb7.grown hgrow8 hs7 (fun k hk => (ho6.lt k hk).1)
    rw [HW0.out] at hb8
    refine ⟨v8, rfl, ?_, ((Below.refl _ _).alloc (Nat.le_refl _) _).trans (hb8.mono (by omega))⟩
    rw [HPL.out]
    exact (Own.of hown8 rfl).lower (by omega)
end Go.Proofs.Ytaajphmjfebbaaa
