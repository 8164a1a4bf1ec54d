/- the walks of both Take and Report. -/
import Derived.Test.YteikggieekhfkaaTook
namespace Go.Proofs.Yteikggieekhfkaa
open Go.RowKit

/-- a board's block -/
def HeldU (w : World) (g : Nat) (n v : Int) (L R T : Bool) (k : Int) : Prop := w.heap[g]? = some (.cells #[.int .i64 n, .int .i64 v, .bool L, .bool R, .bool T, .int .i64 k] 23 (0, 0))
theorem HeldU.cells {w : World} {g : Nat} {n v : Int} {L R T : Bool} {k : Int} (h : HeldU w g n v L R T k) : w.cell? ⟨g, 0, none⟩ = some (.int .i64 n) ∧ w.cell? ⟨g, 1, none⟩ = some (.int .i64 v) ∧ w.cell? ⟨g, 2, none⟩ = some (.bool L) ∧ w.cell? ⟨g, 3, none⟩ = some (.bool R) ∧ w.cell? ⟨g, 4, none⟩ = some (.bool T) ∧ w.cell? ⟨g, 5, none⟩ = some (.int .i64 k) := by
  unfold HeldU at h
  exact ⟨by simp [World.cell?, h], by simp [World.cell?, h], by simp [World.cell?, h], by simp [World.cell?, h], by simp [World.cell?, h], by simp [World.cell?, h]⟩
theorem HeldU.free {w : World} {g : Nat} {n v : Int} {L R T : Bool} {k : Int} (h : HeldU w g n v L R T k) : w.frozen? ⟨g, 0, none⟩ = false ∧ w.frozen? ⟨g, 1, none⟩ = false ∧ w.frozen? ⟨g, 2, none⟩ = false ∧ w.frozen? ⟨g, 3, none⟩ = false ∧ w.frozen? ⟨g, 4, none⟩ = false ∧ w.frozen? ⟨g, 5, none⟩ = false := by
  unfold HeldU at h
  exact ⟨by simp [World.frozen?, h], by simp [World.frozen?, h], by simp [World.frozen?, h], by simp [World.frozen?, h], by simp [World.frozen?, h], by simp [World.frozen?, h]⟩
theorem HeldU.below {w w' : World} {B g : Nat} {n v : Int} {L R T : Bool} {k : Int} (h : HeldU w g n v L R T k) (hb : Below B w w') (hg : g < B) : HeldU w' g n v L R T k := (hb.block g hg).trans h
theorem heap_new (w : World) (o : Obj) : (w.alloc o).heap[w.heap.size]? = some o := by
  show (w.heap.push _)[w.heap.size]? = _
  simp
theorem held_third (w : World) (a b : Obj) (n v : Int) (L R T : Bool) (k : Int) : HeldU (((w.alloc a).alloc b).alloc (.cells #[.int .i64 n, .int .i64 v, .bool L, .bool R, .bool T, .int .i64 k] 23)) (w.heap.size + 2) n v L R T k := by
  have := heap_new ((w.alloc a).alloc b) (.cells #[.int .i64 n, .int .i64 v, .bool L, .bool R, .bool T, .int .i64 k] 23)
  rw [World.size_alloc, World.size_alloc] at this
  exact this
theorem HeldU.own {w w' : World} {B : Nat} {n v : Int} {L R T : Bool} {k : Int} (_h : HeldU w B n v L R T k) (hb : Below w.heap.size w w') (hB : B < w.heap.size) : HeldU w' B n v L R T k := _h.below hb hB
theorem six_set {w w' : World} {g B : Nat} (hb : Below B w w') (hg : B ≤ g) (a0 a1 a2 a3 a4 a5 : Value) :
    Below B w ((((((w'.setCell ⟨g, 0, none⟩ a0).setCell ⟨g, 1, none⟩ a1).setCell ⟨g, 2, none⟩ a2).setCell ⟨g, 3, none⟩ a3).setCell ⟨g, 4, none⟩ a4).setCell ⟨g, 5, none⟩ a5) :=
  (((((hb.setCell hg _).setCell hg _).setCell hg _).setCell hg _).setCell hg _).setCell hg _

set_option maxRecDepth 100000 in
set_option maxHeartbeats 1000000 in
theorem p_take_any (n v : Int) (L R T : Bool) (k c m : Int) (A : Option Addr) (z z' : Nat) (w : World) (hb : BrdOk n v k) (hm0 : 0 ≤ m) (hm1 : m ≤ 255) (hc1 : 1 ≤ c) (hc5 : c ≤ 5) :
    Calls Try.prog 51 #[uplV n v L R T k, ordV c m A z z'] w fun e w' => e = .returned (.tuple #[(tookS ⟨n, v, L, R, T, k⟩ c m).1.val, .int .i64 (tookS ⟨n, v, L, R, T, k⟩ c m).2]) ∧ Below w.heap.size w w' := by
  have k0 := hb.k0
  have k1 := hb.k1
  have hcc : c = 1 ∨ c = 2 ∨ c = 3 ∨ c = 4 ∨ c = 5 := by omega
  rcases hcc with rfl | rfl | rfl | rfl | rfl
  · have HE := Lib.hid (show tookS ⟨n, v, L, R, T, k⟩ 1 m = plainS ⟨n, v, L, R, T, k⟩ m from by simp [tookS])
    have HP := Lib.hid (fun w => p_plain_any n v L R T k m w hb hm0 hm1)
    generalize tookS ⟨n, v, L, R, T, k⟩ 1 m = Y at *
    generalize plainS ⟨n, v, L, R, T, k⟩ m = X at *
    obtain ⟨⟨n', v', L', R', T', k'⟩, u⟩ := X
    unfold Upl.val at *
    unfold uplV ordV at *
    simp only at HP
    clear hb
    go_enter Try.func51, Try.ntmps51
    go_wp2_with fail
    refine (HP.out _).mono ?_
    rintro e w1 ⟨rfl, hb1⟩
    have hh := (held_third w _ _ 0 0 false false false 0).below hb1 (by simp)
    obtain ⟨e0, e1, e2, e3, e4, e5⟩ := hh.cells
    obtain ⟨f0, f1, f2, f3, f4, f5⟩ := hh.free
    go_wp2_with fail
    refine bodyPost_ret (v := .tuple #[uplV n' v' L' R' T' k', .int .i64 u]) (by simp [results, Try.results51, go_sem, uplV, e0, e1, e2, e3, e4, e5]) rfl ⟨by rw [HE.out]; rfl, ?_⟩
    exact six_set ((three_new w _ _ _).trans (hb1.mono (by simp; omega))) (by omega) _ _ _ _ _ _
  · go_enter Try.func51, Try.ntmps51
    unfold uplV ordV
    go_wp2_with fail
    refine bodyPost_ret (v := .tuple #[uplV n v L R T (k + 1), .int .i64 1]) (by simp [results, Try.results51, go_sem, uplV]) rfl ⟨by simp [tookS, Upl.val], ?_⟩
    exact three_new _ _ _ _
  · go_enter Try.func51, Try.ntmps51
    unfold uplV ordV
    go_wp2_with fail
    refine bodyPost_ret (v := .tuple #[uplV n v false false false k, .int .i64 7]) (by simp [results, Try.results51, go_sem, uplV]) rfl ⟨by simp [tookS, Upl.val], ?_⟩
    exact three_new _ _ _ _
  · cases L
    · go_enter Try.func51, Try.ntmps51
      unfold uplV ordV
      go_wp2_with fail
      refine bodyPost_ret (v := .tuple #[uplV m v false false T k, .int .i64 7]) (by simp [results, Try.results51, go_sem, uplV]) rfl ⟨by simp [tookS, Upl.val], ?_⟩
      exact three_new _ _ _ _
    · go_enter Try.func51, Try.ntmps51
      unfold uplV ordV
      go_wp2_with fail
      refine bodyPost_ret (v := .tuple #[uplV n v true R T k, .int .i64 5]) (by simp [results, Try.results51, go_sem, uplV]) rfl ⟨by simp [tookS, Upl.val], ?_⟩
      exact three_new _ _ _ _
  · go_enter Try.func51, Try.ntmps51
    unfold uplV ordV
    go_wp2_with fail
    refine bodyPost_ret (v := .tuple #[uplV n v L R true k, .int .i64 7]) (by simp [results, Try.results51, go_sem, uplV]) rfl ⟨by simp [tookS, Upl.val], ?_⟩
    exact three_new _ _ _ _
set_option maxRecDepth 100000 in
set_option maxHeartbeats 1000000 in
theorem r_take_any (n v : Int) (L R T : Bool) (k c m : Int) (A : Option Addr) (z z' : Nat) (w : World) (hb : BrdOk n v k) (hm0 : 0 ≤ m) (hm1 : m ≤ 255) (hc1 : 1 ≤ c) (hc5 : c ≤ 5) :
    Calls Try.prog 53 #[uplV n v L R T k, ordV c m A z z'] w fun e w' => e = .returned (.tuple #[(tookS ⟨n, v, L, R, T, k⟩ c m).1.val, .int .i64 (tookS ⟨n, v, L, R, T, k⟩ c m).2]) ∧ Below w.heap.size w w' := by
  have k0 := hb.k0
  have k1 := hb.k1
  have hcc : c = 1 ∨ c = 2 ∨ c = 3 ∨ c = 4 ∨ c = 5 := by omega
  rcases hcc with rfl | rfl | rfl | rfl | rfl
  · have HE := Lib.hid (show tookS ⟨n, v, L, R, T, k⟩ 1 m = plainS ⟨n, v, L, R, T, k⟩ m from by simp [tookS])
    have HP := Lib.hid (fun w => r_plain_any n v L R T k 1 m A z z' w hb hm0 hm1)
    generalize tookS ⟨n, v, L, R, T, k⟩ 1 m = Y at *
    generalize plainS ⟨n, v, L, R, T, k⟩ m = X at *
    obtain ⟨⟨n', v', L', R', T', k'⟩, u⟩ := X
    unfold Upl.val at *
    unfold uplV ordV at *
    simp only at HP
    clear hb
    go_enter Try.func53, Try.ntmps53
    go_wp2_with fail
    refine (HP.out _).mono ?_
    rintro e w1 ⟨rfl, hb1⟩
    have hh := (held_third w _ _ 0 0 false false false 0).below hb1 (by simp)
    obtain ⟨e0, e1, e2, e3, e4, e5⟩ := hh.cells
    obtain ⟨f0, f1, f2, f3, f4, f5⟩ := hh.free
    go_wp2_with fail
    refine bodyPost_ret (v := .tuple #[uplV n' v' L' R' T' k', .int .i64 u]) (by simp [results, Try.results53, go_sem, uplV, e0, e1, e2, e3, e4, e5]) rfl ⟨by rw [HE.out]; rfl, ?_⟩
    exact six_set ((three_new w _ _ _).trans (hb1.mono (by simp; omega))) (by omega) _ _ _ _ _ _
  · go_enter Try.func53, Try.ntmps53
    unfold uplV ordV
    go_wp2_with fail
    refine bodyPost_ret (v := .tuple #[uplV n v L R T (k + 1), .int .i64 1]) (by simp [results, Try.results53, go_sem, uplV]) rfl ⟨by simp [tookS, Upl.val], ?_⟩
    exact three_new _ _ _ _
  · go_enter Try.func53, Try.ntmps53
    unfold uplV ordV
    go_wp2_with fail
    refine bodyPost_ret (v := .tuple #[uplV n v false false false k, .int .i64 7]) (by simp [results, Try.results53, go_sem, uplV]) rfl ⟨by simp [tookS, Upl.val], ?_⟩
    exact three_new _ _ _ _
  · cases L
    · go_enter Try.func53, Try.ntmps53
      unfold uplV ordV
      go_wp2_with fail
      refine bodyPost_ret (v := .tuple #[uplV m v false false T k, .int .i64 7]) (by simp [results, Try.results53, go_sem, uplV]) rfl ⟨by simp [tookS, Upl.val], ?_⟩
      exact three_new _ _ _ _
    · go_enter Try.func53, Try.ntmps53
      unfold uplV ordV
      go_wp2_with fail
      refine bodyPost_ret (v := .tuple #[uplV n v true R T k, .int .i64 5]) (by simp [results, Try.results53, go_sem, uplV]) rfl ⟨by simp [tookS, Upl.val], ?_⟩
      exact three_new _ _ _ _
  · go_enter Try.func53, Try.ntmps53
    unfold uplV ordV
    go_wp2_with fail
    refine bodyPost_ret (v := .tuple #[uplV n v L R true k, .int .i64 7]) (by simp [results, Try.results53, go_sem, uplV]) rfl ⟨by simp [tookS, Upl.val], ?_⟩
    exact three_new _ _ _ _
end Go.Proofs.Yteikggieekhfkaa
