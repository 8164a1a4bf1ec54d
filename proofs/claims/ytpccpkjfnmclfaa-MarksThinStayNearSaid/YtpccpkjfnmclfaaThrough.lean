/- the line through two marks at a tick: through of the reference. -/
import Derived.Test.YtpccpkjfnmclfaaOnLine
import Derived.Test.YtpccpkjfnmclfaaCarry
namespace Go.Proofs.Ytpccpkjfnmclfaa
open Go.RowKit

set_option maxRecDepth 100000 in
set_option maxHeartbeats 2000000 in
theorem through_any (a b : Mk) (n : Int) (ha : a.ok) (hb : b.ok) (hlt : a.lt b) (hn : 0 ≤ n ∧ n ≤ 1000000000000) (w : World) :
    Calls Try.prog 80 #[mv a, mv b, .int .i64 n] w (LinePost (lineF a b n) w) := by
  obtain ⟨h1, h2⟩ := hlt
  have hup := fun (p run : Nat) (m r : Int) hrun hr hp h => near_up (a := a) (b := b) (n := n) (B := 4611686018427387904) (m := m) (r := r) (p := p) (run := run) ha.2.1 hrun hr hp (by omega) h
  have hdn := fun (p run : Nat) (m r : Int) hrun hr hp h => near_down (a := a) (b := b) (n := n) (B := 4611686018427387904) (m := m) (r := r) (p := p) (run := run) ha.2.1 hrun hr hp (by omega) h
  obtain ⟨x, hx⟩ : ∃ x, x = lineF a b n := ⟨_, rfl⟩
  rw [← hx] at hup hdn ⊢
  have HUP := Lib.hid hup
  have HDN := Lib.hid hdn
  clear hup hdn hx
  unfold mv LinePost
  obtain ⟨⟨x1, x2⟩, ⟨x3, x4⟩, ⟨x5, x6⟩⟩ := ha
  obtain ⟨⟨y1, y2⟩, ⟨y3, y4⟩, ⟨y5, y6⟩⟩ := hb
  obtain ⟨at_, az, ao⟩ := a
  obtain ⟨bt, bz, bo⟩ := b
  simp only at *
  obtain ⟨n1, n2⟩ := hn
  obtain ⟨R, hR⟩ : ∃ R : Nat, bz - az = R := ⟨(bz - az).toNat, by omega⟩
  obtain ⟨run, hrun⟩ : ∃ run : Nat, bt - at_ = run := ⟨(bt - at_).toNat, by omega⟩
  obtain ⟨W, hW⟩ : ∃ W, W = (w.alloc (.cells #[.int .i64 at_, .int .i64 az, .int .i64 ao] 36)).alloc (.cells #[.int .i64 bt, .int .i64 bz, .int .i64 bo] 36) := ⟨_, rfl⟩
  have f0 : W.cell? ⟨w.heap.size, 0, none⟩ = some (.int .i64 at_) := by rw [hW]; simp
  have f1 : W.cell? ⟨w.heap.size, 1, none⟩ = some (.int .i64 az) := by rw [hW]; simp
  have f3 : W.cell? ⟨w.heap.size + 1, 0, none⟩ = some (.int .i64 bt) := by rw [hW]; simp
  have f4 : W.cell? ⟨w.heap.size + 1, 1, none⟩ = some (.int .i64 bz) := by rw [hW]; simp
  have hsz : W.heap.size = w.heap.size + 2 := by rw [hW]; simp
  have hbb : Below w.heap.size w W := by rw [hW]; exact ((Below.refl _ _).alloc (Nat.le_refl _) _).alloc (by simp) _
  have HW := Lib.hid hW
  clear hW
  have hSS : ∀ w', Below W.heap.size W w' → (w'.cell? ⟨w.heap.size, 0, none⟩ = some (.int .i64 at_) ∧ w'.cell? ⟨w.heap.size, 1, none⟩ = some (.int .i64 az) ∧ w'.cell? ⟨w.heap.size + 1, 0, none⟩ = some (.int .i64 bt) ∧ w'.cell? ⟨w.heap.size + 1, 1, none⟩ = some (.int .i64 bz)) := fun w' hw =>
    ⟨(Below.at_ hw _ (by omega) _).trans f0, (Below.at_ hw _ (by omega) _).trans f1, (Below.at_ hw _ (by omega) _).trans f3, (Below.at_ hw _ (by omega) _).trans f4⟩
  have HSS := Lib.hid hSS
  clear hSS
  have wR : IntKind.i64.wrap (bz - az) = (R : Int) := by rw [hR]; exact IntWalk.i64_in _ (by omega)
  have wr : IntKind.i64.wrap (bt - at_) = (run : Int) := by rw [hrun]; exact IntWalk.i64_in _ (by omega)
  have wR2 : wrap64 (bz - az) = (R : Int) := by rw [hR]; exact IntWalk.wrap64_in _ (by omega)
  have wr2 : wrap64 (bt - at_) = (run : Int) := by rw [hrun]; exact IntWalk.wrap64_in _ (by omega)
  have hRb : R ≤ 1000000000000 := by omega
  have hrb : run ≤ 1000000000000 := by omega
  have hr0 : 0 < run := by omega
  have HRR := Lib.hid hR
  have HRN := Lib.hid hrun
  by_cases hd : at_ ≤ n
  · obtain ⟨D, hD⟩ : ∃ D : Nat, n - at_ = D := ⟨(n - at_).toNat, by omega⟩
    have hDb : D ≤ 1000000000000 := by omega
    have wD : IntKind.i64.wrap (n - at_) = (D : Int) := by rw [hD]; exact IntWalk.i64_in _ (by omega)
    have wD2 : wrap64 (n - at_) = (D : Int) := by rw [hD]; exact IntWalk.wrap64_in _ (by omega)
    have HDD := Lib.hid hD
    have HS := Lib.hid (fun (w' : World) (hb : Below W.heap.size W w') (hz : W.heap.size ≤ w'.heap.size) => carryB (nearest_up D R run hDb hRb hr0 hrb w') hb hz)
    clear hD hR hrun
    go_enter Try.func80, Try.ntmps80
    go_wp2_with fail
    rw [← HW.out]
    go_region_held3 (fun w' => w'.cell? ⟨w.heap.size, 0, none⟩ = some (.int .i64 at_) ∧ w'.cell? ⟨w.heap.size, 1, none⟩ = some (.int .i64 az) ∧ w'.cell? ⟨w.heap.size + 1, 0, none⟩ = some (.int .i64 bt) ∧ w'.cell? ⟨w.heap.size + 1, 1, none⟩ = some (.int .i64 bz))
      (first | go_keep | exact HSS.out _ (by assumption))
      (first
       | (go_at_call 112
          refine (HS.out _ ?_ ?_).mono ?_
          · first | assumption | exact (Below.refl _ _).drew | exact Below.drew (by assumption)
          · first | assumption | (simp; done) | (simp; omega)
          rintro e w3 ⟨⟨m, r, rfl, hs⟩, hb3, hs3⟩
          obtain ⟨⟨r0, r1⟩, m0, m1⟩ := scal_rest hs hr0 (by omega)
          have HN := Lib.hid (HUP.out (D * R) run m r hr0 HRN.out (by rw [HDD.out, HRR.out]; exact Int.natCast_mul D R |>.symm) hs)
          clear hs
          have hv : 0 ≤ (if (run : Int) ≤ 2 * r then m + 1 else m) ∧ (if (run : Int) ≤ 2 * r then m + 1 else m) ≤ 4611686018427387905 := by split <;> omega
          generalize (if (run : Int) ≤ 2 * r then m + 1 else m) = v at *))
    go_wp2_with fail
    have wv : IntKind.i64.wrap (az + v) = az + v := IntWalk.i64_in _ (by omega)
    have hg := hbb.trans (hb3.mono (by omega))
    go_ret
    exact ⟨⟨_, ret_int wv, HN.out⟩, hg⟩
  · obtain ⟨D, hD⟩ : ∃ D : Nat, at_ - n = D := ⟨(at_ - n).toNat, by omega⟩
    have hDb : D ≤ 1000000000000 := by omega
    have wD : IntKind.i64.wrap (at_ - n) = (D : Int) := by rw [hD]; exact IntWalk.i64_in _ (by omega)
    have wD2 : wrap64 (at_ - n) = (D : Int) := by rw [hD]; exact IntWalk.wrap64_in _ (by omega)
    have HDD := Lib.hid hD
    have hneg : n - at_ = -(D : Int) := by omega
    have wD3 : IntKind.i64.wrap (n - at_) = n - at_ := IntWalk.i64_in _ (by omega)
    have wD4 : wrap64 (n - at_) = n - at_ := IntWalk.wrap64_in _ (by omega)
    have HS := Lib.hid (fun (w' : World) (hb : Below W.heap.size W w') (hz : W.heap.size ≤ w'.heap.size) => carryB (nearest_down D R run (by omega) hDb hRb hr0 hrb (n - at_) hneg w') hb hz)
    clear hneg
    clear hD hR hrun
    go_enter Try.func80, Try.ntmps80
    go_wp2_with fail
    rw [← HW.out]
    go_region_held3 (fun w' => w'.cell? ⟨w.heap.size, 0, none⟩ = some (.int .i64 at_) ∧ w'.cell? ⟨w.heap.size, 1, none⟩ = some (.int .i64 az) ∧ w'.cell? ⟨w.heap.size + 1, 0, none⟩ = some (.int .i64 bt) ∧ w'.cell? ⟨w.heap.size + 1, 1, none⟩ = some (.int .i64 bz))
      (first | go_keep | exact HSS.out _ (by assumption))
      (first
       | (go_at_call 112
          refine (HS.out _ ?_ ?_).mono ?_
          · first | assumption | exact (Below.refl _ _).drew | exact Below.drew (by assumption)
          · first | assumption | (simp; done) | (simp; omega)
          rintro e w3 ⟨⟨m, r, rfl, hs⟩, hb3, hs3⟩
          obtain ⟨⟨r0, r1⟩, m0, m1⟩ := scal_rest hs hr0 (by omega)
          have HN := Lib.hid (HDN.out (D * R) run m r hr0 HRN.out (by rw [HDD.out, HRR.out]; exact Int.natCast_mul D R |>.symm) hs)
          clear hs
          have hv : 0 ≤ (if (run : Int) < 2 * r then m + 1 else m) ∧ (if (run : Int) < 2 * r then m + 1 else m) ≤ 4611686018427387905 := by split <;> omega
          generalize (if (run : Int) < 2 * r then m + 1 else m) = v at *))
    go_wp2_with fail
    have wv : IntKind.i64.wrap (az + -v) = az - v := IntWalk.i64_in _ (by omega)
    have hg := hbb.trans (hb3.mono (by omega))
    go_ret
    exact ⟨⟨_, ret_int wv, HN.out⟩, hg⟩
end Go.Proofs.Ytpccpkjfnmclfaa
