/- the walk of the law MemorySlowestIsSlowEnough. -/
import Derived.Test.YteelepjhlhifhaaBase
import Derived.Test.YteelepjhlhifhaaSlow
import Derived.Test.YteelepjhlhifhaaWrong
namespace Go.Proofs.Yteelepjhlhifhaa
open Go.RowKit
attribute [local go_sem] setCell_draws alloc_draws

theorem slow_cases (l l' : List Int) (m : Int) (f : List Flp) (u q : Int) : (∃ F, slowS l l' m f u q = (0, false, F)) ∨
    ∃ N : Nat, slowS l l' m f u q = ((N : Int), true, 0) ∧ (N : Int) ≤ q ∧ N ≤ 1000000000000 ∧ (roundsS l l' (N : Int) m f u).2.2 = 0 ∧
      lostT (roundsS l l' (N : Int) m f u).1.1 (roundsS l l' (N : Int) m f u).1.1.length = [] ∧ wrongT (roundsS l l' (N : Int) m f u).1.1 (roundsS l l' (N : Int) m f u).1.2 (roundsS l l' (N : Int) m f u).1.1.length = [] := by
  by_cases hP : chkS l l' m f u q = 0
  · obtain ⟨M, U, Q, rfl, rfl, rfl, hF, hM, hU, hQ, hUM, hr, hf2, hok⟩ := chkS_nums hP
    unfold slowS
    rw [if_pos hP]
    simp only [Int.toNat_natCast]
    have hle := slowN_le (okE l l' M f U) U Q
    have hyes := slowN_ok (okE l l' M f U) U Q (okE_far l l' M f U)
    generalize slowN (okE l l' M f U) U Q = N at *
    by_cases hN : N = 0
    · subst hN
      exact .inl ⟨0, rfl⟩
    · refine .inr ⟨N, ?_, by omega, by omega, ?_⟩
      · have : (N != 0) = true := by simpa using hN
        rw [this]
      have hy := hyes hN
      have hchk : chkR l l' (N : Int) (M : Int) f (U : Int) = 0 := by
        unfold chkR
        rw [if_pos hF, if_pos ⟨⟨by omega, by omega⟩, ⟨by omega, by omega⟩, ⟨by omega, by omega⟩⟩]
        have ec : ((U : Int) / (N : Int) * (M : Int)) = ((U / N * M : Nat) : Int) := by simp
        have := div_few (E := N) hUM
        rw [ec, if_neg (by omega)]
      unfold roundsS
      rw [if_pos hchk]
      simp only [Int.toNat_natCast]
      unfold okE endC at hy
      have hOK := right_ok hr 0 hr.pos []
      have h3 : (runEnd N M U ⟨nats l, 0, []⟩ f).ok l.length := (flipU_ok (U : Int) _ _ (run_ok (every := N) (many := M) hOK hok (U / N)).1 (run_ok (every := N) (many := M) hOK hok (U / N)).2).1
      have hlen : (ints (runEnd N M U ⟨nats l, 0, []⟩ f).C).length = l.length := by rw [ints_len]; exact h3.len
      rw [hlen]
      exact ⟨trivial, (reads_lost _ _ _).1 hy⟩
  · unfold slowS
    rw [if_neg hP]
    exact .inl ⟨_, rfl⟩
theorem round_set {w : World} {X : Nat} {e m : Value} (h0 : w.heap[X]? = some (.cells #[e, m] 68 (0, 0))) (u : Value) : (w.setCell ⟨X, 0, none⟩ u).heap[X]? = some (.cells #[u, m] 68 (0, 0)) := by
  have hlt : X < w.heap.size := (Array.getElem?_eq_some_iff.1 h0).1
  have h' : w.heap[X] = .cells #[e, m] 68 (0, 0) := by simpa [Array.getElem?_eq_getElem hlt] using h0
  simp only [World.setCell]
  rw [Array.getElem?_eq_getElem (by simpa using hlt), Array.getElem_modify_self, h']
  rfl
theorem round_free {w : World} {X : Nat} {e m : Value} (h0 : w.heap[X]? = some (.cells #[e, m] 68 (0, 0))) (k : Nat) : w.frozen? ⟨X, k, none⟩ = false := by
  simp [World.frozen?, h0]
set_option maxRecDepth 100000 in
set_option maxHeartbeats 2000000 in
theorem lawEnough_any (A A' Af : Option Addr) (c c' cf : Nat) (l l' : List Int) (e m : Int) (f : List Flp) (u q : Int) (w : World) (hl : l.length ≤ 9223372036854775807) (hl' : l'.length ≤ 9223372036854775807) (hfl : f.length ≤ cf) (hcf : cf ≤ maxLen) (h : IR w w.heap.size A l) (h' : IR w w.heap.size A' l') (hf : FR w w.heap.size Af f) :
    Calls Try.prog 10 #[bankV A A' l.length l'.length c c', .agg #[.int .i64 e, .int .i64 m], .slice Af f.length cf, .int .i64 u, .int .i64 q] w fun e w' => e = .returned (.bool true) ∧ Below w.heap.size w w' := by
  have C1 := Lib.hid (fun (w1 : World) (hb : Below w.heap.size w w1) => slowest_any A A' Af c c' cf l l' e m f u q w.heap.size w1 hb.size hl hl' hfl hcf (h.below hb) (h'.below hb) (hf.below hb))
  have C2 := Lib.hid (fun (N : Nat) (w1 : World) (hb : Below w.heap.size w w1) => lost_any A A' Af c c' cf l l' (N : Int) m f u w.heap.size w1 hb.size hl hl' hfl hcf (h.below hb) (h'.below hb) (hf.below hb))
  have C3 := Lib.hid (fun (N : Nat) (w1 : World) (hb : Below w.heap.size w w1) => wrong_any A A' Af c c' cf l l' (N : Int) m f u w.heap.size w1 hb.size hl hl' hfl hcf (h.below hb) (h'.below hb) (hf.below hb))
  have hcs := slow_cases l l' m f u q
  unfold bankV PlacesPost at C2 C3
  unfold bankV at C1 ⊢
  obtain ⟨w0, hw0⟩ : ∃ w0, (w.alloc (.cells #[.slice A l.length c, .slice A' l'.length c'] 52)).alloc (.cells #[.int .i64 e, .int .i64 m] 68) = w0 := ⟨_, rfl⟩
  obtain ⟨b0, z0, h0, hx0⟩ := boxes2_held _ _ _ _ w w0 hw0
  clear h h' hf
  obtain ⟨p1, p2⟩ := h0.cells
  obtain ⟨p3, p4⟩ := rcells (w := w0) rfl hx0
  have HW0 := Lib.hid hw0
  clear hw0
  rcases hcs with ⟨F, hF⟩ | ⟨N, hF, hNq, hN, hz, hlo, hwr⟩
  · rw [hF] at C1
    simp only at C1
    clear hF
    by_cases hF0 : F = 0
    · subst hF0
      go_enter Try.func10, Try.ntmps10
      go_upto_region 1 with fail
      rw [HW0.out]
      go_wp2_with fail
      refine (C1.out w0 b0).mono ?_
      rintro e' w1 ⟨rfl, hb1⟩
      have bx1 := b0.trans (hb1.mono (by omega))
      clear HW0 p1 p2 p3 p4
      go_wp2_with (first | (go_at_call 36; with_reducible refine (awake_any _).mono ?_; rintro e w7 ⟨rfl, rfl⟩) | fail)
      go_ret
      first | exact ⟨rfl, bx1⟩ | exact ⟨rfl, bx1.drew⟩
    · have t1 : (F != 0) = true := by simpa using hF0
      go_enter Try.func10, Try.ntmps10
      go_upto_region 1 with fail
      rw [HW0.out]
      go_wp2_with fail
      refine (C1.out w0 b0).mono ?_
      rintro e' w1 ⟨rfl, hb1⟩
      have bx1 := b0.trans (hb1.mono (by omega))
      clear HW0 p1 p2 p3 p4
      go_wp2_with (first | (go_at_call 36; with_reducible refine (awake_any _).mono ?_; rintro e w7 ⟨rfl, rfl⟩) | fail)
      go_ret
      first | exact ⟨rfl, bx1⟩ | exact ⟨rfl, bx1.drew⟩
  · rw [hF] at C1
    simp only at C1
    have C2' := Lib.hid (C2.out N)
    have C3' := Lib.hid (C3.out N)
    rw [hz, hlo] at C2'
    rw [hz, hwr] at C3'
    simp only [List.length_nil] at C2' C3'
    clear hF C2 C3 hz hlo hwr
    have t1 : decide ((N : Int) ≤ q) = true := decide_eq_true hNq
    go_enter Try.func10, Try.ntmps10
    go_upto_region 1 with fail
    rw [HW0.out]
    go_wp2_with fail
    refine (C1.out w0 b0).mono ?_
    rintro e' w1 ⟨rfl, hb1⟩
    have bx1 := b0.trans (hb1.mono (by omega))
    have hs1 := hb1.size
    have k1 := h0.below hb1 (by omega)
    have x1 := (hb1.block (w.heap.size + 1) (by omega)).trans hx0
    clear HW0 p1 p2 p3 p4 C1
    obtain ⟨p1, p2⟩ := k1.cells
    obtain ⟨p3, p4⟩ := rcells (w := w1) rfl x1
    have f1 := round_free x1 0
    go_upto_region 5 with fail
    have k2 := k1.other (k := 0) (g := w.heap.size + 1) (u := .int .i64 (N : Int)) (by omega)
    have x2 := round_set x1 (.int .i64 (N : Int))
    have bx2 := bx1.setCell (p := ⟨w.heap.size + 1, 0, none⟩) (by simp) (.int .i64 (N : Int))
    have hs2 : w.heap.size + 2 ≤ (w1.setCell ⟨w.heap.size + 1, 0, none⟩ (.int .i64 (N : Int))).heap.size := by simp [World.setCell]; omega
    generalize w1.setCell ⟨w.heap.size + 1, 0, none⟩ (.int .i64 (N : Int)) = w2 at *
    clear p1 p2 p3 p4 f1
    obtain ⟨p1, p2⟩ := k2.cells
    obtain ⟨p3, p4⟩ := rcells (w := w2) rfl x2
    go_wp2_with fail
    refine (C2'.out w2 bx2).mono ?_
    rintro e' w3 ⟨D3, k3, rfl, -, hb3⟩
    have bx3 := bx2.trans (hb3.mono (by omega))
    have hs3 := hb3.size
    clear p1 p2 p3 p4
    obtain ⟨p1, p2⟩ := (k2.below hb3 (by omega)).cells
    obtain ⟨p3, p4⟩ := rcells (w := w3) rfl ((hb3.block (w.heap.size + 1) (by omega)).trans x2)
    go_wp2_with fail
    refine (C3'.out w3 bx3).mono ?_
    rintro e' w4 ⟨D4, k4, rfl, -, hb4⟩
    have bx4 := bx3.trans (hb4.mono (by omega))
    clear p1 p2 p3 p4
    go_wp2_with (first | (go_at_call 36; with_reducible refine (awake_any _).mono ?_; rintro e w7 ⟨rfl, rfl⟩) | fail)
    go_ret
    first | exact ⟨rfl, bx4⟩ | exact ⟨rfl, bx4.drew⟩
end Go.Proofs.Yteelepjhlhifhaa
