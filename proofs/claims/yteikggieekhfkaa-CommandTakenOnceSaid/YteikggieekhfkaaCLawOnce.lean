/- Of commands one behind the other those that are taken have numbers one behind the other: the law CommandTakenOnce answers true for every input. No condition. -/
import Derived.Test.YteikggieekhfkaaCodes2
import Derived.Test.YteikggieekhfkaaOpenRow
import Derived.Test.YteikggieekhfkaaClosed
namespace Go.Proofs.Yteikggieekhfkaa
open Go.ChangeShapes Go.WideShapes Go.ChangeAt Go.RowKit

/-- the number that a board waits for next, told from outside -/
def nextS (n c m u : Int) : Int := if c = 1 ∧ u = 1 then (n + 1) % 256 else if c = 4 ∧ u = 7 then m else n
theorem took_next {b : Upl} {c m : Int} (h1 : 1 ≤ c ∧ c ≤ 5) : (tookS b c m).1.n = nextS b.n c m (tookS b c m).2 ∧ (c = 1 → (tookS b c m).2 = 1 → m = b.n ∧ (tookS b c m).1.k = b.k + 1) := by
  have hcc : c = 1 ∨ c = 2 ∨ c = 3 ∨ c = 4 ∨ c = 5 := by omega
  rcases hcc with rfl | rfl | rfl | rfl | rfl
  · simp only [tookS, if_true, plainS, nextS]
    split
    · simp
    · split
      · split
        · simp
        · rename_i h2 _
          simp [h2]
      · split
        · simp
        · split
          · simp
          · simp
  · simp [tookS, nextS]
  · simp [tookS, nextS]
  · simp only [tookS, nextS]
    cases hL : b.L <;> simp
  · simp [tookS, nextS]
theorem take_next {n v : Int} {L R T : Bool} {k c m : Int} {z : Nat} {X : Upl} {u : Int} (h : takeS ⟨n, v, L, R, T, k⟩ c m z = (X, u, 0)) :
    (0 ≤ n ∧ n ≤ 255) ∧ (0 ≤ k ∧ k ≤ 1000000) ∧ X.n = nextS n c m u ∧ (c = 1 → u = 1 → m = n ∧ X.k = k + 1) := by
  unfold takeS at h
  by_cases hb : brdS n v k = 0
  · rw [if_neg (by simpa using hb)] at h
    by_cases ho : ordS c m z = 0
    · rw [if_neg (by simpa using ho)] at h
      have h1 := brd_ok hb
      obtain ⟨c0, c1, m0, m1⟩ := ord_ok ho
      split at h
      · simp at h
      · have e1 := (Prod.mk.inj h).1
        have e2 := (Prod.mk.inj (Prod.mk.inj h).2).1
        have := took_next (b := ⟨n, v, L, R, T, k⟩) (c := c) (m := m) ⟨c0, c1⟩
        rw [e1, e2] at this
        exact ⟨⟨h1.n0, h1.n1⟩, ⟨h1.k0, h1.k1⟩, this.1, this.2⟩
    · rw [if_pos (by simpa using ho)] at h
      have := (Prod.mk.inj (Prod.mk.inj h).2).2
      exact absurd this ho
  · rw [if_pos (by simpa using hb)] at h
    have := (Prod.mk.inj (Prod.mk.inj h).2).2
    exact absurd this hb
theorem Blk.set6 {w : World} {g : Nat} {n v : Int} {L R T : Bool} {k : Int} {t : TypeId} (h : Blk w g (uplC n v L R T k) t) (n' v' : Int) (L' R' T' : Bool) (k' : Int) :
    Blk ((((((w.setCell ⟨g, 0, none⟩ (.int .i64 n')).setCell ⟨g, 1, none⟩ (.int .i64 v')).setCell ⟨g, 2, none⟩ (.bool L')).setCell ⟨g, 3, none⟩ (.bool R')).setCell ⟨g, 4, none⟩ (.bool T')).setCell ⟨g, 5, none⟩ (.int .i64 k')) g (uplC n' v' L' R' T' k') t :=
  (((((h.set1 0 _).set1 1 _).set1 2 _).set1 3 _).set1 4 _).set1 5 _
set_option maxRecDepth 100000 in
set_option maxHeartbeats 2000000 in
theorem lawOnce_any (n v : Int) (L R T : Bool) (k : Int) (A : Option Addr) (l : List Od) (q : Nat) (w : World) (h : SR Od.cells w w.heap.size A l) :
    Calls Try.prog 4 #[uplV n v L R T k, .slice A l.length q] w fun e w' => e = .returned (.bool true) ∧ Below w.heap.size w w' := by
  unfold uplV
  have hb1 := (Below.refl w.heap.size w).alloc (Nat.le_refl _) (.cells (uplC n v L R T k) 23)
  have hk0 := Blk.new w (uplC n v L R T k) 23
  have h := h.below hb1
  go_enter Try.func4, Try.ntmps4
  go_wp2_with fail
  go_loopw [5, 15] (fun s i wr => ∃ (j : Nat) (n v : Int) (L R T : Bool) (k : Int), j ≤ l.length ∧ i = .int .i64 j ∧ s = .int .i64 n ∧ Blk wr w.heap.size (uplC n v L R T k) 23 ∧ SR Od.cells wr w.heap.size A l ∧ Below w.heap.size w wr) (fun _ i _ => l.length - (intOf i).toNat)
  case atStart => exact ⟨0, n, v, L, R, T, k, Nat.zero_le _, rfl, rfl, hk0, h, hb1⟩
  case round =>
    obtain ⟨j, n, v, L, R, T, k, hj, rfl, rfl, gB, hS, hB⟩ := hrel
    by_cases hlt : j < l.length
    · obtain ⟨ad, rfl, hbk, c0, c1, c2⟩ := ods_get hS j hlt
      have hi0 : (0 : Int) ≤ (j : Int) := by omega
      have hi1 : (j : Int) < (l.length : Int) := by omega
      generalize l[j] = x at *
      obtain ⟨c, m, Ab, z, z'⟩ := x
      simp only at c0 c1 c2
      obtain ⟨w0, hw0⟩ : ∃ w0, wr.alloc (.cells (ordC c m Ab z z') 26) = w0 := ⟨_, rfl⟩
      have g0 : Blk w0 w.heap.size (uplC n v L R T k) 23 := by rw [← hw0]; exact gB.alloc _
      have g1 : Blk w0 wr.heap.size (ordC c m Ab z z') 26 := by rw [← hw0]; exact Blk.new wr _ _
      have B0 : Below w.heap.size w w0 := by rw [← hw0]; exact hB.alloc hB.size _
      have S0 : SR Od.cells w0 w.heap.size (some ad) l := by rw [← hw0]; exact hS.below ((Below.refl _ _).alloc hB.size _)
      have hz : w.heap.size < wr.heap.size := gB.lt
      unfold ordC at hw0
      by_cases h100 : 100 ≤ j
      · have hj100 : (100 : Int) ≤ (j : Int) := by omega
        go_wp2_with (first | (go_at_call 21; refine (awake_any _).mono ?_; rintro e w7 ⟨rfl, hb7⟩) | fail)
        go_ret
        exact ⟨rfl, B0.trans (hb7.mono B0.size)⟩
      · have hj100 : ¬ (100 : Int) ≤ (j : Int) := by omega
        have HT := Lib.hid (p_Take_any n v L R T k c m Ab z z')
        have hnx := @take_next n v L R T k c m z
        generalize takeS ⟨n, v, L, R, T, k⟩ c m z = X at *
        obtain ⟨⟨n', v', L', R', T', k'⟩, u, F⟩ := X
        have hnx := @hnx ⟨n', v', L', R', T', k'⟩ u
        unfold Upl.val at HT
        unfold uplV ordV at HT
        simp only at HT hnx
        have HNX := Lib.hid hnx
        clear hnx h100
        by_cases hF : F = 0
        · obtain ⟨hn0, hk0, e1, e2⟩ := HNX.out (by rw [hF])
          have hf0 : (F != 0) = false := by simpa using hF
          clear hF HNX
          obtain ⟨n0, n1⟩ := hn0
          obtain ⟨k0, k1⟩ := hk0
          by_cases h11 : c = 1 ∧ u = 1
          · obtain ⟨hc, hu⟩ := h11
            obtain ⟨hm, hk⟩ := e2 hc hu
            have E1 : Hid (n' = (n + 1) % 256) := Lib.hid (by rw [e1]; unfold nextS; rw [if_pos ⟨hc, hu⟩])
            have dc : (c == 1) = true := by simpa using hc
            have dc4 : (c == 4) = false := by rw [hc]; rfl
            have du : (u == 1) = true := by simpa using hu
            have dm : (m != n) = false := by simpa using hm
            have dk : (k' != k + 1) = false := by simpa using hk
            have dn : (n' != (n + 1) % 256) = false := by simpa using E1.out
            clear hc hu hm hk e1 e2
            obtain ⟨p0, p1, p2⟩ := blk_o g1
            obtain ⟨q0, q1, q2, q3, q4, q5⟩ := blk_u g0
            go_wp2_with fail
            refine (HT.out _).mono ?_
            rintro e w1 ⟨rfl, hb1⟩
            clear hw0 p0 p1 p2 q0 q1 q2 q3 q4 q5 HT
            have s0 : w.heap.size ≤ w0.heap.size := B0.size
            have g0 := g0.below hb1 g0.lt
            have g1 := g1.below hb1 g1.lt
            have S1 := S0.below (hb1.mono s0)
            have B1 := B0.trans (hb1.mono s0)
            obtain ⟨p0, p1, p2⟩ := blk_o g1
            obtain ⟨q0, q1, q2, q3, q4, q5⟩ := blk_u g0
            obtain ⟨f0, f1, f2, f3, f4, f5⟩ := blk_f g0
            have hlt0 : w.heap.size < w1.heap.size := g0.lt
            have hlt1 : wr.heap.size < w1.heap.size := g1.lt
            have b6 := fun (a0 a1 a2 a3 a4 a5 : Value) => (six_set (Below.refl w.heap.size w1) (Nat.le_refl _) a0 a1 a2 a3 a4 a5).alloc (by simp; omega) (.cells (uplC n' v' L' R' T' k') 23)
            have H6 := Lib.hid b6
            clear b6
            go_wp2_with fail
            go_roundw
            case rel => exact ⟨j + 1, n', v', L', R', T', k', by omega, by go_num, by rw [E1.out], (g0.set6 n' v' L' R' T' k').alloc _, S1.below (H6.out _ _ _ _ _ _), B1.trans (H6.out _ _ _ _ _ _)⟩
            case measure => simp [intOf]; omega
          · by_cases h47 : c = 4 ∧ u = 7
            · obtain ⟨hc, hu⟩ := h47
              have E1 : Hid (n' = m) := Lib.hid (by rw [e1]; unfold nextS; rw [if_neg h11, if_pos ⟨hc, hu⟩])
              have dc : (c == 1) = false := by rw [hc]; rfl
              have dc4 : (c == 4) = true := by simpa using hc
              have du : (u == 7) = true := by simpa using hu
              have dn : (n' != m) = false := by simpa using E1.out
              clear hc hu e1 e2 h11
              obtain ⟨p0, p1, p2⟩ := blk_o g1
              obtain ⟨q0, q1, q2, q3, q4, q5⟩ := blk_u g0
              go_wp2_with fail
              refine (HT.out _).mono ?_
              rintro e w1 ⟨rfl, hb1⟩
              clear hw0 p0 p1 p2 q0 q1 q2 q3 q4 q5 HT
              have s0 : w.heap.size ≤ w0.heap.size := B0.size
              have g0 := g0.below hb1 g0.lt
              have g1 := g1.below hb1 g1.lt
              have S1 := S0.below (hb1.mono s0)
              have B1 := B0.trans (hb1.mono s0)
              obtain ⟨p0, p1, p2⟩ := blk_o g1
              obtain ⟨q0, q1, q2, q3, q4, q5⟩ := blk_u g0
              obtain ⟨f0, f1, f2, f3, f4, f5⟩ := blk_f g0
              have hlt0 : w.heap.size < w1.heap.size := g0.lt
              have hlt1 : wr.heap.size < w1.heap.size := g1.lt
              have b6 := fun (a0 a1 a2 a3 a4 a5 : Value) => (six_set (Below.refl w.heap.size w1) (Nat.le_refl _) a0 a1 a2 a3 a4 a5).alloc (by simp; omega) (.cells (uplC n' v' L' R' T' k') 23)
              have H6 := Lib.hid b6
              clear b6
              go_wp2_with fail
              go_roundw
              case rel => exact ⟨j + 1, n', v', L', R', T', k', by omega, by go_num, by rw [E1.out], (g0.set6 n' v' L' R' T' k').alloc _, S1.below (H6.out _ _ _ _ _ _), B1.trans (H6.out _ _ _ _ _ _)⟩
              case measure => simp [intOf]; omega
            · have E1 : Hid (n' = n) := Lib.hid (by rw [e1]; unfold nextS; rw [if_neg h11, if_neg h47])
              have dn : (n' != n) = false := by simpa using E1.out
              clear e1 e2
              by_cases hc : c = 1
              · have dc : (c == 1) = true := by simpa using hc
                have dc4 : (c == 4) = false := by rw [hc]; rfl
                have du : (u == 1) = false := by simpa using fun e => h11 ⟨hc, e⟩
                clear hc h11 h47
                obtain ⟨p0, p1, p2⟩ := blk_o g1
                obtain ⟨q0, q1, q2, q3, q4, q5⟩ := blk_u g0
                go_wp2_with fail
                refine (HT.out _).mono ?_
                rintro e w1 ⟨rfl, hb1⟩
                clear hw0 p0 p1 p2 q0 q1 q2 q3 q4 q5 HT
                have s0 : w.heap.size ≤ w0.heap.size := B0.size
                have g0 := g0.below hb1 g0.lt
                have g1 := g1.below hb1 g1.lt
                have S1 := S0.below (hb1.mono s0)
                have B1 := B0.trans (hb1.mono s0)
                obtain ⟨p0, p1, p2⟩ := blk_o g1
                obtain ⟨q0, q1, q2, q3, q4, q5⟩ := blk_u g0
                obtain ⟨f0, f1, f2, f3, f4, f5⟩ := blk_f g0
                have hlt0 : w.heap.size < w1.heap.size := g0.lt
                have hlt1 : wr.heap.size < w1.heap.size := g1.lt
                have b6 := fun (a0 a1 a2 a3 a4 a5 : Value) => (six_set (Below.refl w.heap.size w1) (Nat.le_refl _) a0 a1 a2 a3 a4 a5).alloc (by simp; omega) (.cells (uplC n' v' L' R' T' k') 23)
                have H6 := Lib.hid b6
                clear b6
                go_wp2_with fail
                go_roundw
                case rel => exact ⟨j + 1, n', v', L', R', T', k', by omega, by go_num, by rw [E1.out], (g0.set6 n' v' L' R' T' k').alloc _, S1.below (H6.out _ _ _ _ _ _), B1.trans (H6.out _ _ _ _ _ _)⟩
                case measure => simp [intOf]; omega
              · have dc : (c == 1) = false := by simpa using hc
                by_cases hc4 : c = 4
                · have dc4 : (c == 4) = true := by simpa using hc4
                  have du : (u == 7) = false := by simpa using fun e => h47 ⟨hc4, e⟩
                  clear hc h11 h47 hc4
                  obtain ⟨p0, p1, p2⟩ := blk_o g1
                  obtain ⟨q0, q1, q2, q3, q4, q5⟩ := blk_u g0
                  go_wp2_with fail
                  refine (HT.out _).mono ?_
                  rintro e w1 ⟨rfl, hb1⟩
                  clear hw0 p0 p1 p2 q0 q1 q2 q3 q4 q5 HT
                  have s0 : w.heap.size ≤ w0.heap.size := B0.size
                  have g0 := g0.below hb1 g0.lt
                  have g1 := g1.below hb1 g1.lt
                  have S1 := S0.below (hb1.mono s0)
                  have B1 := B0.trans (hb1.mono s0)
                  obtain ⟨p0, p1, p2⟩ := blk_o g1
                  obtain ⟨q0, q1, q2, q3, q4, q5⟩ := blk_u g0
                  obtain ⟨f0, f1, f2, f3, f4, f5⟩ := blk_f g0
                  have hlt0 : w.heap.size < w1.heap.size := g0.lt
                  have hlt1 : wr.heap.size < w1.heap.size := g1.lt
                  have b6 := fun (a0 a1 a2 a3 a4 a5 : Value) => (six_set (Below.refl w.heap.size w1) (Nat.le_refl _) a0 a1 a2 a3 a4 a5).alloc (by simp; omega) (.cells (uplC n' v' L' R' T' k') 23)
                  have H6 := Lib.hid b6
                  clear b6
                  go_wp2_with fail
                  go_roundw
                  case rel => exact ⟨j + 1, n', v', L', R', T', k', by omega, by go_num, by rw [E1.out], (g0.set6 n' v' L' R' T' k').alloc _, S1.below (H6.out _ _ _ _ _ _), B1.trans (H6.out _ _ _ _ _ _)⟩
                  case measure => simp [intOf]; omega
                · have dc4 : (c == 4) = false := by simpa using hc4
                  clear hc h11 h47 hc4
                  obtain ⟨p0, p1, p2⟩ := blk_o g1
                  obtain ⟨q0, q1, q2, q3, q4, q5⟩ := blk_u g0
                  go_wp2_with fail
                  refine (HT.out _).mono ?_
                  rintro e w1 ⟨rfl, hb1⟩
                  clear hw0 p0 p1 p2 q0 q1 q2 q3 q4 q5 HT
                  have s0 : w.heap.size ≤ w0.heap.size := B0.size
                  have g0 := g0.below hb1 g0.lt
                  have g1 := g1.below hb1 g1.lt
                  have S1 := S0.below (hb1.mono s0)
                  have B1 := B0.trans (hb1.mono s0)
                  obtain ⟨p0, p1, p2⟩ := blk_o g1
                  obtain ⟨q0, q1, q2, q3, q4, q5⟩ := blk_u g0
                  obtain ⟨f0, f1, f2, f3, f4, f5⟩ := blk_f g0
                  have hlt0 : w.heap.size < w1.heap.size := g0.lt
                  have hlt1 : wr.heap.size < w1.heap.size := g1.lt
                  have b6 := fun (a0 a1 a2 a3 a4 a5 : Value) => (six_set (Below.refl w.heap.size w1) (Nat.le_refl _) a0 a1 a2 a3 a4 a5).alloc (by simp; omega) (.cells (uplC n' v' L' R' T' k') 23)
                  have H6 := Lib.hid b6
                  clear b6
                  go_wp2_with fail
                  go_roundw
                  case rel => exact ⟨j + 1, n', v', L', R', T', k', by omega, by go_num, by rw [E1.out], (g0.set6 n' v' L' R' T' k').alloc _, S1.below (H6.out _ _ _ _ _ _), B1.trans (H6.out _ _ _ _ _ _)⟩
                  case measure => simp [intOf]; omega
        · have hf0 : (F != 0) = true := by simpa using hF
          clear hF HNX
          obtain ⟨p0, p1, p2⟩ := blk_o g1
          obtain ⟨q0, q1, q2, q3, q4, q5⟩ := blk_u g0
          go_wp2_with fail
          refine (HT.out _).mono ?_
          rintro e w1 ⟨rfl, hb1⟩
          clear hw0 p0 p1 p2 q0 q1 q2 q3 q4 q5 HT
          have s0 : w.heap.size ≤ w0.heap.size := B0.size
          have g0 := g0.below hb1 g0.lt
          have S1 := S0.below (hb1.mono s0)
          have B1 := B0.trans (hb1.mono s0)
          go_wp2_with fail
          go_roundw
          case rel => exact ⟨j + 1, n, v, L, R, T, k, by omega, by go_num, rfl, g0.alloc _, S1.below ((Below.refl _ _).alloc B1.size _), B1.alloc B1.size _⟩
          case measure => simp [intOf]; omega
    · go_wp2_with (first | (go_at_call 21; refine (awake_any _).mono ?_; rintro e w7 ⟨rfl, hb7⟩) | fail)
      go_ret
      exact ⟨rfl, hB.trans (hb7.mono hB.size)⟩

set_option maxHeartbeats 1600000 in
set_option maxRecDepth 100000 in
theorem once_lifted (os : Os) (started : os.Started) (H : Type) (enc : TypeId × Value → H) :
    ReturnsInHanded {} Try.checked os 4 .any (Rows.commandTakenOnceSpec.pre6 enc Try.prog Try.f4 Rows.commandTakenOnceRow.domain false) (Rows.commandTakenOnceSpec.post enc Try.prog Try.f4 false true false false) := by
  refine returnsInHanded_of_change (C := Try.checked) own started (by kernel_rfl) Try.func4
    (ChangeSpec.witness6 (enc := enc) (C := Try.checked) false ⟨#[], #[.agg #[.int .i64 0, .int .i64 0, .bool false, .bool false, .bool false, .int .i64 0], .slice none 0 0], []⟩ 8 (by kernel_rfl) (by kernel_rfl) (by kernel_rfl) (by kernel_rfl)) ?_
  intro W base args ds gs before hval0 hW _ _
  have hval : ∀ (j : Nat) t v, Try.f4.params[j]? = some t → args[j]? = some v → Value.okWide Try.prog W .any base t v := hval0
  have hW' := hW
  have hlt := fun x hx => hW'.lt x hx
  obtain ⟨p, q, hA0, hV, rfl, _, _⟩ := hW
  have hA : DataW.TrodAll enc Try.prog W 0 (fun _ => true) true Try.f4.params.toList args.toList ds p := hA0
  rw [Try.params4] at hA hval
  obtain ⟨v0, v1, d0, d1, p0, p1, rfl, rfl, rfl, h0, h1⟩ := trodAll_two hA
  obtain ⟨rfl, rfl⟩ := trodVars_none hV
  obtain ⟨nb, qb, Lb, Rb, Tb, kb, rfl, hnb, hqb, hkb⟩ := open_upl (hval 0 23 v0 rfl rfl) h0
  obtain ⟨Al', lenl, capl, rfl⟩ := okWide_slice Try.underlying37 (hval 1 37 v1 rfl rfl)
  obtain ⟨nl, hnl⟩ := h1
  obtain ⟨Al, cl, l, hvl, hlcl, hcl, hBl, hIl, hdl⟩ := open_ods (fun x hx => hlt x (by simp [hx])) hnl
  rw [hvl] at hW' ⊢
  refine (lawOnce_any nb qb Lb Rb Tb kb Al l cl W hBl).mono fun e W' ⟨he, hb⟩ => ?_
  subst he
  exact ⟨_, rfl, law_post (by decide +kernel) rfl rfl hW' rfl hb⟩

set_option maxRecDepth 100000 in
theorem once_closed : joinedFacts Try.prog 4 Try.f4 Rows.commandTakenOnceSpec Rows.commandTakenOnceRow = true :=
  closed_all (by as_aux_lemma => kernel_rfl) (by as_aux_lemma => kernel_rfl) (by as_aux_lemma => kernel_rfl) (by as_aux_lemma => kernel_rfl) (by as_aux_lemma => kernel_rfl) (by as_aux_lemma => kernel_rfl) (by as_aux_lemma => kernel_rfl) (by as_aux_lemma => kernel_rfl) (by as_aux_lemma => kernel_rfl) (by as_aux_lemma => kernel_rfl) (by as_aux_lemma => kernel_rfl) (by as_aux_lemma => kernel_rfl) (by as_aux_lemma => kernel_rfl) (by as_aux_lemma => kernel_rfl) (by as_aux_lemma => kernel_rfl) (by as_aux_lemma => kernel_rfl) (by as_aux_lemma => kernel_rfl) (by as_aux_lemma => kernel_rfl) pKeys (by as_aux_lemma => kernel_rfl) pLifts pMake (by as_aux_lemma => kernel_rfl) (by as_aux_lemma => kernel_rfl) (by as_aux_lemma => kernel_rfl) (by as_aux_lemma => kernel_rfl)

theorem once_holds : Rows.CommandTakenOnceSaid :=
  OpenClaim.holds_of_wide 4 Try.f4 rfl rfl rfl rfl rfl rfl rfl ⟨rfl, rfl, rfl, rfl, rfl⟩ rfl rfl rfl rfl rfl (by kernel_rfl) Try.func4 once_closed
    (of_decide_eq_true (by kernel_rfl)) (by unfold Func.isWrapper; first | (rw [if_pos (by decide +kernel)]; kernel_rfl) | (rw [if_neg (by decide +kernel)]; exact ⟨rfl, rfl⟩))
    (fun os started H enc _ => once_lifted os started H enc)
#print axioms once_holds
end Go.Proofs.Yteikggieekhfkaa
