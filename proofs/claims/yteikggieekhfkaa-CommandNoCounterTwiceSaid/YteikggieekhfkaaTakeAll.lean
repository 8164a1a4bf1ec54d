/- the walks of both Take and Report, whole. -/
import Derived.Test.YteikggieekhfkaaTake
namespace Go.Proofs.Yteikggieekhfkaa
open Go.RowKit

/-- a block of cells -/
def Blk (w : World) (g : Nat) (C : Array Value) (t : TypeId) : Prop := w.heap[g]? = some (.cells C t (0, 0))
theorem Blk.cell {w : World} {g : Nat} {C : Array Value} {t : TypeId} (h : Blk w g C t) (k : Nat) (v : Value) (hk : C[k]? = some v) : w.cell? ⟨g, k, none⟩ = some v := by
  unfold Blk at h
  simp [World.cell?, h, hk]
theorem Blk.free {w : World} {g : Nat} {C : Array Value} {t : TypeId} (h : Blk w g C t) (k : Nat) : w.frozen? ⟨g, k, none⟩ = false := by
  unfold Blk at h
  simp [World.frozen?, h]
theorem Blk.below {w w' : World} {B g : Nat} {C : Array Value} {t : TypeId} (h : Blk w g C t) (hb : Below B w w') (hg : g < B) : Blk w' g C t := (hb.block g hg).trans h
theorem Blk.new (w : World) (C : Array Value) (t : TypeId) : Blk (w.alloc (.cells C t)) w.heap.size C t := heap_new w _
theorem Blk.snd (w : World) (a : Obj) (C : Array Value) (t : TypeId) : Blk ((w.alloc a).alloc (.cells C t)) (w.heap.size + 1) C t := by
  have := Blk.new (w.alloc a) C t
  rw [World.size_alloc] at this
  exact this
theorem Blk.thd (w : World) (a b : Obj) (C : Array Value) (t : TypeId) : Blk (((w.alloc a).alloc b).alloc (.cells C t)) (w.heap.size + 1 + 1) C t := by
  have := Blk.new ((w.alloc a).alloc b) C t
  rw [World.size_alloc, World.size_alloc] at this
  exact this
theorem Blk.alloc {w : World} {g : Nat} {C : Array Value} {t : TypeId} (h : Blk w g C t) (o : Obj) : Blk (w.alloc o) g C t := by
  have hg : g < w.heap.size := by
    unfold Blk at h
    exact (Array.getElem?_eq_some_iff.1 h).1
  exact h.below ((Below.refl w.heap.size w).alloc (Nat.le_refl _) o) hg
theorem Blk.other {w : World} {g g' k : Nat} {u : Value} {C : Array Value} {t : TypeId} (h : Blk w g C t) (hg : g' ≠ g) : Blk (w.setCell ⟨g', k, none⟩ u) g C t :=
  (Below.heap_setCell w ⟨g', k, none⟩ u g (fun e => hg e.symm)).trans h
theorem Blk.lt {w : World} {g : Nat} {C : Array Value} {t : TypeId} (h : Blk w g C t) : g < w.heap.size := by
  unfold Blk at h
  exact (Array.getElem?_eq_some_iff.1 h).1
theorem Blk.drew {w : World} {g : Nat} {C : Array Value} {t : TypeId} (h : Blk w g C t) (n : Nat) : Blk (w.drewN n) g C t := h
/-- a board's cells, a command's -/
def uplC (n v : Int) (L R T : Bool) (k : Int) : Array Value := #[.int .i64 n, .int .i64 v, .bool L, .bool R, .bool T, .int .i64 k]
def ordC (c m : Int) (A : Option Addr) (n k : Nat) : Array Value := #[.int .i64 c, .int .i64 m, .slice A n k]
def ackC (n : Int) (L R T : Bool) : Array Value := #[.int .i64 n, .bool L, .bool R, .bool T]
def ackV (n : Int) (L R T : Bool) : Value := .agg #[.int .i64 n, .bool L, .bool R, .bool T]
theorem blk_u {w : World} {g : Nat} {n v : Int} {L R T : Bool} {k : Int} {t : TypeId} (h : Blk w g (uplC n v L R T k) t) : w.cell? ⟨g, 0, none⟩ = some (.int .i64 n) ∧ w.cell? ⟨g, 1, none⟩ = some (.int .i64 v) ∧ w.cell? ⟨g, 2, none⟩ = some (.bool L) ∧ w.cell? ⟨g, 3, none⟩ = some (.bool R) ∧ w.cell? ⟨g, 4, none⟩ = some (.bool T) ∧ w.cell? ⟨g, 5, none⟩ = some (.int .i64 k) :=
  ⟨h.cell 0 _ rfl, h.cell 1 _ rfl, h.cell 2 _ rfl, h.cell 3 _ rfl, h.cell 4 _ rfl, h.cell 5 _ rfl⟩
theorem blk_o {w : World} {g : Nat} {c m : Int} {A : Option Addr} {n k : Nat} {t : TypeId} (h : Blk w g (ordC c m A n k) t) : w.cell? ⟨g, 0, none⟩ = some (.int .i64 c) ∧ w.cell? ⟨g, 1, none⟩ = some (.int .i64 m) ∧ w.cell? ⟨g, 2, none⟩ = some (.slice A n k) :=
  ⟨h.cell 0 _ rfl, h.cell 1 _ rfl, h.cell 2 _ rfl⟩
theorem blk_a {w : World} {g : Nat} {n : Int} {L R T : Bool} {t : TypeId} (h : Blk w g (ackC n L R T) t) : w.cell? ⟨g, 0, none⟩ = some (.int .i64 n) ∧ w.cell? ⟨g, 1, none⟩ = some (.bool L) ∧ w.cell? ⟨g, 2, none⟩ = some (.bool R) ∧ w.cell? ⟨g, 3, none⟩ = some (.bool T) :=
  ⟨h.cell 0 _ rfl, h.cell 1 _ rfl, h.cell 2 _ rfl, h.cell 3 _ rfl⟩
theorem blk_f {w : World} {g : Nat} {C : Array Value} {t : TypeId} (h : Blk w g C t) : w.frozen? ⟨g, 0, none⟩ = false ∧ w.frozen? ⟨g, 1, none⟩ = false ∧ w.frozen? ⟨g, 2, none⟩ = false ∧ w.frozen? ⟨g, 3, none⟩ = false ∧ w.frozen? ⟨g, 4, none⟩ = false ∧ w.frozen? ⟨g, 5, none⟩ = false :=
  ⟨h.free 0, h.free 1, h.free 2, h.free 3, h.free 4, h.free 5⟩
theorem ord_ok {c m : Int} {n : Nat} (h : ordS c m n = 0) : 1 ≤ c ∧ c ≤ 5 ∧ 0 ≤ m ∧ m ≤ 255 := by
  unfold ordS at h
  split at h
  · split at h
    · omega
    · simp at h
  · simp at h

set_option maxRecDepth 100000 in
set_option maxHeartbeats 1600000 in
theorem p_Take_any (n v : Int) (L R T : Bool) (k c m : Int) (A : Option Addr) (z z' : Nat) (w : World) :
    Calls Try.prog 15 #[uplV n v L R T k, ordV c m A z z'] w fun e w' => e = .returned (.tuple #[(takeS ⟨n, v, L, R, T, k⟩ c m z).1.val, .int .i64 (takeS ⟨n, v, L, R, T, k⟩ c m z).2.1, .int .i64 (takeS ⟨n, v, L, R, T, k⟩ c m z).2.2]) ∧ Below w.heap.size w w' := by
  have HE := Lib.hid (show takeS ⟨n, v, L, R, T, k⟩ c m z = if brdS n v k ≠ 0 then (zeroU, 0, brdS n v k)
    else if ordS c m z ≠ 0 then (zeroU, 0, ordS c m z)
    else if 1000000 < (tookS ⟨n, v, L, R, T, k⟩ c m).1.k then (zeroU, 0, 16)
    else ((tookS ⟨n, v, L, R, T, k⟩ c m).1, (tookS ⟨n, v, L, R, T, k⟩ c m).2, 0) from rfl)
  have HB := Lib.hid (p_checkBoard_any n v L R T k)
  have HO := Lib.hid (p_checkOrder_any c m A z z')
  have HT := Lib.hid (fun (w : World) (hb : BrdOk n v k) (h2 : 1 ≤ c ∧ c ≤ 5 ∧ 0 ≤ m ∧ m ≤ 255) => p_take_any n v L R T k c m A z z' w hb h2.2.2.1 h2.2.2.2 h2.1 h2.2.1)
  have hb1 := @brd_ok n v k
  have hb2 := @ord_ok c m z
  generalize takeS ⟨n, v, L, R, T, k⟩ c m z = X at *
  generalize brdS n v k = F at *
  generalize ordS c m z = G at *
  generalize tookS ⟨n, v, L, R, T, k⟩ c m = Y at *
  obtain ⟨⟨n', v', L', R', T', k'⟩, u⟩ := Y
  unfold Upl.val at *
  unfold uplV ordV at *
  simp only at HT HE
  have hw1 : ∀ (w : World) (a b c : Obj), Below w.heap.size w (((w.alloc a).alloc b).alloc c) := three_new
  have H1 := Lib.hid hw1
  clear hw1
  by_cases hF : F = 0
  · have hF2 : (F != 0) = false := by simpa using hF
    have HOK := Lib.hid (hb1 hF)
    by_cases hG : G = 0
    · have hG2 : (G != 0) = false := by simpa using hG
      have HTT := Lib.hid (fun w => HT.out w HOK.out (hb2 hG))
      have HX : Hid (X = if 1000000 < k' then (zeroU, 0, 16) else (⟨n', v', L', R', T', k'⟩, u, 0)) := Lib.hid (by rw [HE.out, if_neg (by simp [hF]), if_neg (by simp [hG])])
      have HFF := Lib.hid hF
      have HGG := Lib.hid hG
      clear hF hG HE HT hb1 hb2 HOK
      by_cases hk : 1000000 < k'
      all_goals
        go_enter Try.func15, Try.ntmps15
        go_wp2_with fail
        refine (HB.out _).mono ?_
        rintro e w1 ⟨rfl, hb1⟩
        have g0 : Blk w1 w.heap.size (uplC n v L R T k) 23 := ((((Blk.new w _ _).alloc _).alloc _).below hb1 (by simp; omega))
        have g1 : Blk w1 (w.heap.size + 1) (ordC c m A z z') 26 := (((Blk.snd w _ _ _).alloc _).below hb1 (by simp))
        have g2 : Blk w1 (w.heap.size + 1 + 1) (uplC 0 0 false false false 0) 23 := ((Blk.thd w _ _ _ _).below hb1 (by simp))
        have s1 : w.heap.size + 3 ≤ w1.heap.size := by have := hb1.size; simp at this; omega
        have B1 := (H1.out w _ _ _).trans (hb1.mono (by simp; omega))
        clear hb1
        obtain ⟨p0, p1, p2⟩ := blk_o g1
        go_wp2_with fail
        refine (HO.out _).mono ?_
        rintro e w2 ⟨rfl, hb2⟩
        clear p0 p1 p2
        have g0 := g0.below hb2 (by omega)
        have g1 := g1.below hb2 (by omega)
        have g2 := g2.below hb2 (by omega)
        have s2 : w.heap.size + 3 ≤ w2.heap.size := by have := hb2.size; omega
        have B2 := B1.trans (hb2.mono (by omega))
        clear hb2
        obtain ⟨p0, p1, p2⟩ := blk_o g1
        obtain ⟨q0, q1, q2, q3, q4, q5⟩ := blk_u g0
        go_wp2_with fail
        refine (HTT.out _).mono ?_
        rintro e w3 ⟨rfl, hb3⟩
        clear p0 p1 p2 q0 q1 q2 q3 q4 q5 g0 g1
        have g2 := g2.below hb3 (by omega)
        have s3 : w.heap.size + 3 ≤ w3.heap.size := by have := hb3.size; omega
        have B3 := B2.trans (hb3.mono (by omega))
        clear hb3
        obtain ⟨q0, q1, q2, q3, q4, q5⟩ := blk_u g2
        obtain ⟨f0, f1, f2, f3, f4, f5⟩ := blk_f g2
        have hlt : w.heap.size + 1 + 1 < w3.heap.size := by omega
        clear s1 s2 s3 B1 B2
        go_wp2_with fail
      · refine bodyPost_ret (v := .tuple #[uplV 0 0 false false false 0, .int .i64 0, .int .i64 16]) (by simp [results, Try.results15, go_sem, uplV, q0, q1, q2, q3, q4, q5, hlt]) rfl ⟨by rw [HX.out, if_pos hk]; rfl, ?_⟩
        exact (six_set B3 (by omega) _ _ _ _ _ _).alloc (by simp; omega) _
      · refine bodyPost_ret (v := .tuple #[uplV n' v' L' R' T' k', .int .i64 u, .int .i64 0]) (by simp [results, Try.results15, go_sem, uplV, q0, q1, q2, q3, q4, q5, hlt]) rfl ⟨by rw [HX.out, if_neg (by omega)]; rfl, ?_⟩
        exact (six_set B3 (by omega) _ _ _ _ _ _).alloc (by simp; omega) _
    · have hG2 : (G != 0) = true := by simpa using hG
      have HX : Hid (X = (zeroU, 0, G)) := Lib.hid (by rw [HE.out, if_neg (by simp [hF]), if_pos hG])
      clear hF hG HE HT hb1 hb2 HOK
      go_enter Try.func15, Try.ntmps15
      go_wp2_with fail
      refine (HB.out _).mono ?_
      rintro e w1 ⟨rfl, hb1⟩
      have g1 : Blk w1 (w.heap.size + 1) (ordC c m A z z') 26 := (((Blk.snd w _ _ _).alloc _).below hb1 (by simp))
      have g2 : Blk w1 (w.heap.size + 1 + 1) (uplC 0 0 false false false 0) 23 := ((Blk.thd w _ _ _ _).below hb1 (by simp))
      have s1 : w.heap.size + 3 ≤ w1.heap.size := by have := hb1.size; simp at this; omega
      have B1 := (H1.out w _ _ _).trans (hb1.mono (by simp; omega))
      clear hb1
      obtain ⟨p0, p1, p2⟩ := blk_o g1
      go_wp2_with fail
      refine (HO.out _).mono ?_
      rintro e w2 ⟨rfl, hb2⟩
      clear p0 p1 p2
      have g2 := g2.below hb2 (by omega)
      have B2 := B1.trans (hb2.mono (by omega))
      clear hb2 s1 B1
      obtain ⟨q0, q1, q2, q3, q4, q5⟩ := blk_u g2
      obtain ⟨f0, f1, f2, f3, f4, f5⟩ := blk_f g2
      go_wp2_with fail
      refine bodyPost_ret (v := .tuple #[uplV 0 0 false false false 0, .int .i64 0, .int .i64 G]) (by simp [results, Try.results15, go_sem, uplV, q0, q1, q2, q3, q4, q5]) rfl ⟨by rw [HX.out]; rfl, ?_⟩
      exact six_set B2 (by omega) _ _ _ _ _ _
  · have hF2 : (F != 0) = true := by simpa using hF
    have HX : Hid (X = (zeroU, 0, F)) := Lib.hid (by rw [HE.out, if_pos hF])
    clear hF HE HT hb1 hb2
    go_enter Try.func15, Try.ntmps15
    go_wp2_with fail
    refine (HB.out _).mono ?_
    rintro e w1 ⟨rfl, hb1⟩
    have g2 : Blk w1 (w.heap.size + 1 + 1) (uplC 0 0 false false false 0) 23 := ((Blk.thd w _ _ _ _).below hb1 (by simp))
    have B1 := (H1.out w _ _ _).trans (hb1.mono (by simp; omega))
    clear hb1
    obtain ⟨q0, q1, q2, q3, q4, q5⟩ := blk_u g2
    obtain ⟨f0, f1, f2, f3, f4, f5⟩ := blk_f g2
    go_wp2_with fail
    refine bodyPost_ret (v := .tuple #[uplV 0 0 false false false 0, .int .i64 0, .int .i64 F]) (by simp [results, Try.results15, go_sem, uplV, q0, q1, q2, q3, q4, q5]) rfl ⟨by rw [HX.out]; rfl, ?_⟩
    exact six_set B1 (by omega) _ _ _ _ _ _
set_option maxRecDepth 100000 in
set_option maxHeartbeats 400000 in
theorem p_report_any (n v : Int) (L R T : Bool) (k : Int) (w : World) :
    Calls Try.prog 57 #[uplV n v L R T k] w fun e w' => e = .returned (ackV n L R T) ∧ Below w.heap.size w w' := by
  unfold uplV
  go_enter Try.func57, Try.ntmps57
  go_wp2_with fail
  refine bodyPost_ret (v := ackV n L R T) (by simp [results, Try.results57, go_sem, ackV]) rfl ⟨rfl, ?_⟩
  exact two_new _ _ _
set_option maxRecDepth 100000 in
set_option maxHeartbeats 1000000 in
theorem p_Report_any (n v : Int) (L R T : Bool) (k : Int) (w : World) :
    Calls Try.prog 19 #[uplV n v L R T k] w fun e w' => e = .returned (.tuple #[if brdS n v k = 0 then ackV n L R T else ackV 0 false false false, .int .i64 (brdS n v k)]) ∧ Below w.heap.size w w' := by
  have HB := Lib.hid (p_checkBoard_any n v L R T k)
  have HR := Lib.hid (p_report_any n v L R T k)
  generalize brdS n v k = F at *
  unfold uplV ackV at *
  by_cases hF : F = 0
  · have hF2 : (F != 0) = false := by simpa using hF
    have HF := Lib.hid hF
    clear hF
    go_enter Try.func19, Try.ntmps19
    go_wp2_with fail
    refine (HB.out _).mono ?_
    rintro e w1 ⟨rfl, hb1⟩
    have g0 : Blk w1 w.heap.size (uplC n v L R T k) 23 := (((Blk.new w _ _).alloc _).below hb1 (by simp; omega))
    have g2 : Blk w1 (w.heap.size + 1) (ackC 0 false false false) 32 := ((Blk.snd w _ _ _).below hb1 (by simp))
    have s1 : w.heap.size + 2 ≤ w1.heap.size := by have := hb1.size; simp at this; omega
    have B1 := (two_new w _ _).trans (hb1.mono (by simp; omega))
    clear hb1
    obtain ⟨q0, q1, q2, q3, q4, q5⟩ := blk_u g0
    go_wp2_with fail
    refine (HR.out _).mono ?_
    rintro e w2 ⟨rfl, hb2⟩
    clear q0 q1 q2 q3 q4 q5 g0
    have g2 := g2.below hb2 (by omega)
    have B2 := B1.trans (hb2.mono (by omega))
    clear hb2 B1
    obtain ⟨q0, q1, q2, q3⟩ := blk_a g2
    obtain ⟨f0, f1, f2, f3, -, -⟩ := blk_f g2
    go_wp2_with fail
    refine bodyPost_ret (v := .tuple #[.agg #[.int .i64 n, .bool L, .bool R, .bool T], .int .i64 0]) (by simp [results, Try.results19, go_sem, q0, q1, q2, q3]) rfl ⟨rfl, ?_⟩
    exact (((B2.setCell (by simp) _).setCell (by simp) _).setCell (by simp) _).setCell (by simp) _
  · have hF2 : (F != 0) = true := by simpa using hF
    have HF := Lib.hid hF
    clear hF
    go_enter Try.func19, Try.ntmps19
    go_wp2_with fail
    refine (HB.out _).mono ?_
    rintro e w1 ⟨rfl, hb1⟩
    have g2 : Blk w1 (w.heap.size + 1) (ackC 0 false false false) 32 := ((Blk.snd w _ _ _).below hb1 (by simp))
    have B1 := (two_new w _ _).trans (hb1.mono (by simp; omega))
    clear hb1
    obtain ⟨q0, q1, q2, q3⟩ := blk_a g2
    obtain ⟨f0, f1, f2, f3, -, -⟩ := blk_f g2
    go_wp2_with fail
    refine bodyPost_ret (v := .tuple #[.agg #[.int .i64 0, .bool false, .bool false, .bool false], .int .i64 F]) (by simp [results, Try.results19, go_sem, q0, q1, q2, q3]) rfl ⟨rfl, ?_⟩
    exact (((B1.setCell (by simp) _).setCell (by simp) _).setCell (by simp) _).setCell (by simp) _
set_option maxRecDepth 100000 in
set_option maxHeartbeats 1600000 in
theorem r_Take_any (n v : Int) (L R T : Bool) (k c m : Int) (A : Option Addr) (z z' : Nat) (w : World) :
    Calls Try.prog 16 #[uplV n v L R T k, ordV c m A z z'] w fun e w' => e = .returned (.tuple #[(takeS ⟨n, v, L, R, T, k⟩ c m z).1.val, .int .i64 (takeS ⟨n, v, L, R, T, k⟩ c m z).2.1, .int .i64 (takeS ⟨n, v, L, R, T, k⟩ c m z).2.2]) ∧ Below w.heap.size w w' := by
  have HE := Lib.hid (show takeS ⟨n, v, L, R, T, k⟩ c m z = if brdS n v k ≠ 0 then (zeroU, 0, brdS n v k)
    else if ordS c m z ≠ 0 then (zeroU, 0, ordS c m z)
    else if 1000000 < (tookS ⟨n, v, L, R, T, k⟩ c m).1.k then (zeroU, 0, 16)
    else ((tookS ⟨n, v, L, R, T, k⟩ c m).1, (tookS ⟨n, v, L, R, T, k⟩ c m).2, 0) from rfl)
  have HB := Lib.hid (r_checkBoard_any n v L R T k)
  have HO := Lib.hid (r_checkOrder_any c m A z z')
  have HT := Lib.hid (fun (w : World) (hb : BrdOk n v k) (h2 : 1 ≤ c ∧ c ≤ 5 ∧ 0 ≤ m ∧ m ≤ 255) => r_take_any n v L R T k c m A z z' w hb h2.2.2.1 h2.2.2.2 h2.1 h2.2.1)
  have hb1 := @brd_ok n v k
  have hb2 := @ord_ok c m z
  generalize takeS ⟨n, v, L, R, T, k⟩ c m z = X at *
  generalize brdS n v k = F at *
  generalize ordS c m z = G at *
  generalize tookS ⟨n, v, L, R, T, k⟩ c m = Y at *
  obtain ⟨⟨n', v', L', R', T', k'⟩, u⟩ := Y
  unfold Upl.val at *
  unfold uplV ordV at *
  simp only at HT HE
  have hw1 : ∀ (w : World) (a b c : Obj), Below w.heap.size w (((w.alloc a).alloc b).alloc c) := three_new
  have H1 := Lib.hid hw1
  clear hw1
  by_cases hF : F = 0
  · have hF2 : (F != 0) = false := by simpa using hF
    have HOK := Lib.hid (hb1 hF)
    by_cases hG : G = 0
    · have hG2 : (G != 0) = false := by simpa using hG
      have HTT := Lib.hid (fun w => HT.out w HOK.out (hb2 hG))
      have HX : Hid (X = if 1000000 < k' then (zeroU, 0, 16) else (⟨n', v', L', R', T', k'⟩, u, 0)) := Lib.hid (by rw [HE.out, if_neg (by simp [hF]), if_neg (by simp [hG])])
      have HFF := Lib.hid hF
      have HGG := Lib.hid hG
      clear hF hG HE HT hb1 hb2 HOK
      by_cases hk : 1000000 < k'
      all_goals
        go_enter Try.func16, Try.ntmps16
        go_wp2_with fail
        refine (HB.out _).mono ?_
        rintro e w1 ⟨rfl, hb1⟩
        have g0 : Blk w1 w.heap.size (uplC n v L R T k) 23 := ((((Blk.new w _ _).alloc _).alloc _).below hb1 (by simp; omega))
        have g1 : Blk w1 (w.heap.size + 1) (ordC c m A z z') 26 := (((Blk.snd w _ _ _).alloc _).below hb1 (by simp))
        have g2 : Blk w1 (w.heap.size + 1 + 1) (uplC 0 0 false false false 0) 23 := ((Blk.thd w _ _ _ _).below hb1 (by simp))
        have s1 : w.heap.size + 3 ≤ w1.heap.size := by have := hb1.size; simp at this; omega
        have B1 := (H1.out w _ _ _).trans (hb1.mono (by simp; omega))
        clear hb1
        obtain ⟨p0, p1, p2⟩ := blk_o g1
        go_wp2_with fail
        refine (HO.out _).mono ?_
        rintro e w2 ⟨rfl, hb2⟩
        clear p0 p1 p2
        have g0 := g0.below hb2 (by omega)
        have g1 := g1.below hb2 (by omega)
        have g2 := g2.below hb2 (by omega)
        have s2 : w.heap.size + 3 ≤ w2.heap.size := by have := hb2.size; omega
        have B2 := B1.trans (hb2.mono (by omega))
        clear hb2
        obtain ⟨p0, p1, p2⟩ := blk_o g1
        obtain ⟨q0, q1, q2, q3, q4, q5⟩ := blk_u g0
        go_wp2_with fail
        refine (HTT.out _).mono ?_
        rintro e w3 ⟨rfl, hb3⟩
        clear p0 p1 p2 q0 q1 q2 q3 q4 q5 g0 g1
        have g2 := g2.below hb3 (by omega)
        have s3 : w.heap.size + 3 ≤ w3.heap.size := by have := hb3.size; omega
        have B3 := B2.trans (hb3.mono (by omega))
        clear hb3
        obtain ⟨q0, q1, q2, q3, q4, q5⟩ := blk_u g2
        obtain ⟨f0, f1, f2, f3, f4, f5⟩ := blk_f g2
        have hlt : w.heap.size + 1 + 1 < w3.heap.size := by omega
        clear s1 s2 s3 B1 B2
        go_wp2_with fail
      · refine bodyPost_ret (v := .tuple #[uplV 0 0 false false false 0, .int .i64 0, .int .i64 16]) (by simp [results, Try.results16, go_sem, uplV, q0, q1, q2, q3, q4, q5, hlt]) rfl ⟨by rw [HX.out, if_pos hk]; rfl, ?_⟩
        exact (six_set B3 (by omega) _ _ _ _ _ _).alloc (by simp; omega) _
      · refine bodyPost_ret (v := .tuple #[uplV n' v' L' R' T' k', .int .i64 u, .int .i64 0]) (by simp [results, Try.results16, go_sem, uplV, q0, q1, q2, q3, q4, q5, hlt]) rfl ⟨by rw [HX.out, if_neg (by omega)]; rfl, ?_⟩
        exact (six_set B3 (by omega) _ _ _ _ _ _).alloc (by simp; omega) _
    · have hG2 : (G != 0) = true := by simpa using hG
      have HX : Hid (X = (zeroU, 0, G)) := Lib.hid (by rw [HE.out, if_neg (by simp [hF]), if_pos hG])
      clear hF hG HE HT hb1 hb2 HOK
      go_enter Try.func16, Try.ntmps16
      go_wp2_with fail
      refine (HB.out _).mono ?_
      rintro e w1 ⟨rfl, hb1⟩
      have g1 : Blk w1 (w.heap.size + 1) (ordC c m A z z') 26 := (((Blk.snd w _ _ _).alloc _).below hb1 (by simp))
      have g2 : Blk w1 (w.heap.size + 1 + 1) (uplC 0 0 false false false 0) 23 := ((Blk.thd w _ _ _ _).below hb1 (by simp))
      have s1 : w.heap.size + 3 ≤ w1.heap.size := by have := hb1.size; simp at this; omega
      have B1 := (H1.out w _ _ _).trans (hb1.mono (by simp; omega))
      clear hb1
      obtain ⟨p0, p1, p2⟩ := blk_o g1
      go_wp2_with fail
      refine (HO.out _).mono ?_
      rintro e w2 ⟨rfl, hb2⟩
      clear p0 p1 p2
      have g2 := g2.below hb2 (by omega)
      have B2 := B1.trans (hb2.mono (by omega))
      clear hb2 s1 B1
      obtain ⟨q0, q1, q2, q3, q4, q5⟩ := blk_u g2
      obtain ⟨f0, f1, f2, f3, f4, f5⟩ := blk_f g2
      go_wp2_with fail
      refine bodyPost_ret (v := .tuple #[uplV 0 0 false false false 0, .int .i64 0, .int .i64 G]) (by simp [results, Try.results16, go_sem, uplV, q0, q1, q2, q3, q4, q5]) rfl ⟨by rw [HX.out]; rfl, ?_⟩
      exact six_set B2 (by omega) _ _ _ _ _ _
  · have hF2 : (F != 0) = true := by simpa using hF
    have HX : Hid (X = (zeroU, 0, F)) := Lib.hid (by rw [HE.out, if_pos hF])
    clear hF HE HT hb1 hb2
    go_enter Try.func16, Try.ntmps16
    go_wp2_with fail
    refine (HB.out _).mono ?_
    rintro e w1 ⟨rfl, hb1⟩
    have g2 : Blk w1 (w.heap.size + 1 + 1) (uplC 0 0 false false false 0) 23 := ((Blk.thd w _ _ _ _).below hb1 (by simp))
    have B1 := (H1.out w _ _ _).trans (hb1.mono (by simp; omega))
    clear hb1
    obtain ⟨q0, q1, q2, q3, q4, q5⟩ := blk_u g2
    obtain ⟨f0, f1, f2, f3, f4, f5⟩ := blk_f g2
    go_wp2_with fail
    refine bodyPost_ret (v := .tuple #[uplV 0 0 false false false 0, .int .i64 0, .int .i64 F]) (by simp [results, Try.results16, go_sem, uplV, q0, q1, q2, q3, q4, q5]) rfl ⟨by rw [HX.out]; rfl, ?_⟩
    exact six_set B1 (by omega) _ _ _ _ _ _
set_option maxRecDepth 100000 in
set_option maxHeartbeats 400000 in
theorem r_report_any (n v : Int) (L R T : Bool) (k : Int) (w : World) :
    Calls Try.prog 58 #[uplV n v L R T k] w fun e w' => e = .returned (ackV n L R T) ∧ Below w.heap.size w w' := by
  unfold uplV
  go_enter Try.func58, Try.ntmps58
  go_wp2_with fail
  refine bodyPost_ret (v := ackV n L R T) (by simp [results, Try.results58, go_sem, ackV]) rfl ⟨rfl, ?_⟩
  exact two_new _ _ _
set_option maxRecDepth 100000 in
set_option maxHeartbeats 1000000 in
theorem r_Report_any (n v : Int) (L R T : Bool) (k : Int) (w : World) :
    Calls Try.prog 20 #[uplV n v L R T k] w fun e w' => e = .returned (.tuple #[if brdS n v k = 0 then ackV n L R T else ackV 0 false false false, .int .i64 (brdS n v k)]) ∧ Below w.heap.size w w' := by
  have HB := Lib.hid (r_checkBoard_any n v L R T k)
  have HR := Lib.hid (r_report_any n v L R T k)
  generalize brdS n v k = F at *
  unfold uplV ackV at *
  by_cases hF : F = 0
  · have hF2 : (F != 0) = false := by simpa using hF
    have HF := Lib.hid hF
    clear hF
    go_enter Try.func20, Try.ntmps20
    go_wp2_with fail
    refine (HB.out _).mono ?_
    rintro e w1 ⟨rfl, hb1⟩
    have g0 : Blk w1 w.heap.size (uplC n v L R T k) 23 := (((Blk.new w _ _).alloc _).below hb1 (by simp; omega))
    have g2 : Blk w1 (w.heap.size + 1) (ackC 0 false false false) 32 := ((Blk.snd w _ _ _).below hb1 (by simp))
    have s1 : w.heap.size + 2 ≤ w1.heap.size := by have := hb1.size; simp at this; omega
    have B1 := (two_new w _ _).trans (hb1.mono (by simp; omega))
    clear hb1
    obtain ⟨q0, q1, q2, q3, q4, q5⟩ := blk_u g0
    go_wp2_with fail
    refine (HR.out _).mono ?_
    rintro e w2 ⟨rfl, hb2⟩
    clear q0 q1 q2 q3 q4 q5 g0
    have g2 := g2.below hb2 (by omega)
    have B2 := B1.trans (hb2.mono (by omega))
    clear hb2 B1
    obtain ⟨q0, q1, q2, q3⟩ := blk_a g2
    obtain ⟨f0, f1, f2, f3, -, -⟩ := blk_f g2
    go_wp2_with fail
    refine bodyPost_ret (v := .tuple #[.agg #[.int .i64 n, .bool L, .bool R, .bool T], .int .i64 0]) (by simp [results, Try.results20, go_sem, q0, q1, q2, q3]) rfl ⟨rfl, ?_⟩
    exact (((B2.setCell (by simp) _).setCell (by simp) _).setCell (by simp) _).setCell (by simp) _
  · have hF2 : (F != 0) = true := by simpa using hF
    have HF := Lib.hid hF
    clear hF
    go_enter Try.func20, Try.ntmps20
    go_wp2_with fail
    refine (HB.out _).mono ?_
    rintro e w1 ⟨rfl, hb1⟩
    have g2 : Blk w1 (w.heap.size + 1) (ackC 0 false false false) 32 := ((Blk.snd w _ _ _).below hb1 (by simp))
    have B1 := (two_new w _ _).trans (hb1.mono (by simp; omega))
    clear hb1
    obtain ⟨q0, q1, q2, q3⟩ := blk_a g2
    obtain ⟨f0, f1, f2, f3, -, -⟩ := blk_f g2
    go_wp2_with fail
    refine bodyPost_ret (v := .tuple #[.agg #[.int .i64 0, .bool false, .bool false, .bool false], .int .i64 F]) (by simp [results, Try.results20, go_sem, q0, q1, q2, q3]) rfl ⟨rfl, ?_⟩
    exact (((B1.setCell (by simp) _).setCell (by simp) _).setCell (by simp) _).setCell (by simp) _
end Go.Proofs.Yteikggieekhfkaa
