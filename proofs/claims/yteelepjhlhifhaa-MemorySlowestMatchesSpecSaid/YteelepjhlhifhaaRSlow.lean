/- the walk of the reference's Slowest. -/
import Derived.Test.YteelepjhlhifhaaSlow
import Derived.Test.YteelepjhlhifhaaPlay
import Derived.Test.YteelepjhlhifhaaRLost
namespace Go.Proofs.Yteelepjhlhifhaa
open Go.RowKit
attribute [local go_sem] setCell_draws alloc_draws

/-- one more call that only makes memory, from a world that does so far -/
theorem carryR {K : Nat} {args : Array Value} {B : Nat} {W0 w : World} {Q : Ending → World → Prop} (h : Calls Try.prog K args w fun e w' => Q e w' ∧ Below w.heap.size w w') (hb : Below B W0 w) (hB : B ≤ w.heap.size) :
    Calls Try.prog K args w fun e w' => Q e w' ∧ Below B W0 w' ∧ B ≤ w'.heap.size :=
  h.mono fun _ _ ⟨h1, h2⟩ => ⟨h1, hb.trans (h2.mono hB), Nat.le_trans hB h2.size⟩
/-- a slice of so many -/
def LenIs (n : Nat) (e : Ending) : Prop := ∃ A c, e = .returned (.slice A n c)
theorem rlost_len (D D' : Option Addr) (k k' n n' : Nat) (X X' : List Int) (w : World) (hn : X.length = n) (hn' : X'.length = n') (hX : X.length ≤ 1048576) (hC : ∀ j (h : j < X.length), 0 ≤ X[j] ∧ X[j] ≤ 4194303) (i1 : IR w w.heap.size D X) (i1' : IR w w.heap.size D' X') :
    Calls Try.prog 83 #[.agg #[.slice D n k, .slice D' n' k']] w fun e w' => LenIs (lostT X n).length e ∧ Below w.heap.size w w' := by
  subst hn hn'
  exact (rlost_any D D' k k' X X' w hX hC i1 i1').mono fun e w' ⟨A, c, he, _, hb⟩ => ⟨⟨A, c, he⟩, hb⟩
theorem rwrong_len (D D' : Option Addr) (k k' n n' : Nat) (X X' : List Int) (w : World) (hn : X.length = n) (hn' : X'.length = n') (hX : X.length ≤ 1048576) (hX' : X'.length = X.length) (hC : ∀ j (h : j < X.length), 0 ≤ X[j] ∧ X[j] ≤ 4194303) (i1 : IR w w.heap.size D X) (i1' : IR w w.heap.size D' X') :
    Calls Try.prog 84 #[.agg #[.slice D n k, .slice D' n' k']] w fun e w' => LenIs (wrongT X X' n).length e ∧ Below w.heap.size w w' := by
  subst hn hn'
  exact (rwrong_any D D' k k' X X' w hX hX' hC i1 i1').mono fun e w' ⟨A, c, he, _, hb⟩ => ⟨⟨A, c, he⟩, hb⟩
theorem lens_none (X X' : List Int) (n : Nat) : (decide (((lostT X n).length : Int) + ((wrongT X X' n).length : Int) = 0)) = readsT X X' n := by
  rw [Bool.eq_iff_iff, decide_eq_true_iff, reads_lost]
  constructor
  · intro h
    exact ⟨List.eq_nil_of_length_eq_zero (by omega), List.eq_nil_of_length_eq_zero (by omega)⟩
  · rintro ⟨h1, h2⟩
    rw [h1, h2]
    rfl
set_option maxRecDepth 100000 in
set_option maxHeartbeats 4000000 in
theorem rSlowest_any (A A' Af : Option Addr) (c c' cf : Nat) (l l' : List Int) (e m : Int) (f : List Flp) (u q : Int) (B : Nat) (w : World) (hB : B ≤ w.heap.size) (hl : l.length ≤ 9223372036854775807) (hl' : l'.length ≤ 9223372036854775807) (hfl : f.length ≤ cf) (hcf : cf ≤ maxLen) (h : IR w B A l) (h' : IR w B A' l') (hf : FR w B Af f) :
    Calls Try.prog 40 #[bankV A A' l.length l'.length c c', .agg #[.int .i64 e, .int .i64 m], .slice Af f.length cf, .int .i64 u, .int .i64 q] w fun e' w' => e' = .returned (.tuple #[.int .i64 (slowS l l' m f u q).1, .bool (slowS l l' m f u q).2.1, .int .i64 (slowS l l' m f u q).2.2]) ∧ Below w.heap.size w w' := by
  have hfl2 : f.length ≤ 9223372036854775807 := by unfold maxLen at hcf; omega
  have HC := Lib.hid (fun (w1 : World) (hb : Below w.heap.size w w1) => rcheckFlips_any A A' Af c c' cf l l' f B w1 (Nat.le_trans hB hb.size) hl hl' hfl2 (h.below (hb.mono hB)) (h'.below (hb.mono hB)) (hf.below (hb.mono hB)))
  obtain ⟨R, hRe⟩ : ∃ R, R = slowS l l' m f u q := ⟨_, rfl⟩
  rw [← hRe]
  have HR := Lib.hid (show R = if chkS l l' m f u q = 0 then (((slowN (okE l l' m.toNat f u.toNat) u.toNat q.toNat : Nat) : Int), (slowN (okE l l' m.toNat f u.toNat) u.toNat q.toNat != 0), 0) else (0, false, chkS l l' m f u q) from hRe)
  clear hRe
  have hnm := fun p => chkS_nums (l := l) (l' := l') (m := m) (u := u) (q := q) (f := f) p
  have hcs := chkS_cases l l' m f u q
  have HPL := Lib.hid (fun (hr : Right l l') (hf2 : f.length ≤ 2000) (hok : ∀ x ∈ f, x.ok l.length) (M U : Nat) (hM : 1 ≤ M ∧ M ≤ 5000) (hU : U ≤ 1000000000000) (hUM : U * M ≤ 20000) (E : Nat) (hE : 1 ≤ E ∧ E ≤ 1000000000001) (w1 : World) (hb : Below w.heap.size w w1) =>
    play_any A A' Af c c' cf l l' E M U f B w1 (Nat.le_trans hB hb.size) (h.below (hb.mono hB)) (h'.below (hb.mono hB)) (hf.below (hb.mono hB)) hr hE hM hU (Nat.le_trans (div_few hUM) (by omega)) hf2 hok)
  unfold bankV at HC HPL ⊢
  obtain ⟨w0, hw0⟩ : ∃ w0, (w.alloc (.cells #[.slice A l.length c, .slice A' l'.length c'] 52)).alloc (.cells #[.int .i64 e, .int .i64 m] 68) = w0 := ⟨_, rfl⟩
  obtain ⟨b0, z0, h0, hx0⟩ := boxes2_held _ _ _ _ w w0 hw0
  have HCC := Lib.hid (HC.out w0 b0)
  have HW0 := Lib.hid hw0
  clear HC hw0 h h' hf
  obtain ⟨p1, p2⟩ := h0.cells
  have HGO : Hid (∀ w1, Below w0.heap.size w0 w1 → Below w.heap.size w w1 ∧ w1.cell? ⟨w.heap.size + 1, 0, none⟩ = some (.int .i64 e) ∧ w1.cell? ⟨w.heap.size + 1, 1, none⟩ = some (.int .i64 m)) := Lib.hid fun w1 hb1 =>
    ⟨b0.trans (hb1.mono (by omega)), rcells (hb1.block (w.heap.size + 1) (by omega)) hx0⟩
  generalize chkS l l' m f u q = P at *
  generalize hKe : chkF l l' f = K at *
  rcases hcs with ⟨hK, rfl⟩ | ⟨rfl, g1, rfl⟩ | ⟨rfl, g1, g2, rfl⟩ | ⟨rfl, M, U, rfl, rfl, hM, hU, hP⟩
  · rw [if_neg hK] at HR
    have hne : (P != 0) = true := by simpa using hK
    clear hnm hKe
    go_enter Try.func40, Try.ntmps40
    go_upto_region 1 with fail
    rw [HW0.out]
    go_wp2_with fail
    refine HCC.out.mono ?_
    rintro e' w1 ⟨rfl, hb1⟩
    go_wp2_with fail
    refine bodyPost_ret (v := .tuple #[.int .i64 0, .bool false, .int .i64 P]) (by simp [results, Try.results40, go_sem]) rfl ?_
    rw [HR.out]
    exact ⟨rfl, (HGO.out w1 hb1).1⟩
  · rw [if_neg (by omega)] at HR
    have d1 : decide (1 ≤ m ∧ m ≤ 5000) = false := by simp; omega
    clear hnm hKe
    go_enter Try.func40, Try.ntmps40
    go_upto_region 1 with fail
    rw [HW0.out]
    go_wp2_with fail
    refine HCC.out.mono ?_
    rintro e' w1 ⟨rfl, hb1⟩
    obtain ⟨bx, r1, r2⟩ := HGO.out w1 hb1
    clear g1
    go_wp2_with (first | (go_at_call 81; refine (rwithin_any _ _ _ _).mono ?_; rintro e w' ⟨rfl, rfl⟩) | fail)
    refine bodyPost_ret (v := .tuple #[.int .i64 0, .bool false, .int .i64 1]) (by simp [results, Try.results40, go_sem]) rfl ?_
    rw [HR.out]
    exact ⟨rfl, bx⟩
  · rw [if_neg (by omega)] at HR
    have d1 : decide (1 ≤ m ∧ m ≤ 5000) = true := by simp only [g1, decide_true, and_self]
    have d2 : decide (0 ≤ u ∧ u ≤ 1000000000000) = false := by simp; omega
    clear hnm hKe
    go_enter Try.func40, Try.ntmps40
    go_upto_region 1 with fail
    rw [HW0.out]
    go_wp2_with fail
    refine HCC.out.mono ?_
    rintro e' w1 ⟨rfl, hb1⟩
    obtain ⟨bx, r1, r2⟩ := HGO.out w1 hb1
    clear g1 g2
    go_wp2_with (first | (go_at_call 81; refine (rwithin_any _ _ _ _).mono ?_; rintro e w' ⟨rfl, rfl⟩) | fail)
    refine bodyPost_ret (v := .tuple #[.int .i64 0, .bool false, .int .i64 1]) (by simp [results, Try.results40, go_sem]) rfl ?_
    rw [HR.out]
    exact ⟨rfl, bx⟩
  · have g1 : decide ((1 : Int) ≤ (M : Int) ∧ (M : Int) ≤ 5000) = true := by simp; omega
    have g2 : decide ((0 : Int) ≤ (U : Int) ∧ (U : Int) ≤ 1000000000000) = true := by simp; omega
    obtain ⟨hM1, hM2⟩ := hM
    have hUi : (U : Int) ≤ 1000000000000 := by omega
    have hMi : (1 : Int) ≤ (M : Int) := by omega
    have hMj : (M : Int) ≤ 5000 := by omega
    have hM0 : ((M : Int) == 0) = false := beq_eq_false_iff_ne.2 (by omega)
    have hMne : ¬ (M : Int) = 0 := by omega
    have hdv : (20000 : Int) / (M : Int) < (U : Int) ↔ 20000 < U * M := by
      have key : 20000 / M < U ↔ 20000 < U * M := Nat.div_lt_iff_lt_mul (by omega)
      have e1 : ((20000 : Int) / (M : Int)) = ((20000 / M : Nat) : Int) := by simp
      rw [e1, ← key]
      omega
    have HDV := Lib.hid hdv
    have HPP := Lib.hid hP
    clear hdv hP
    by_cases h4 : 20000 < U * M
    · have HR2 : Hid (R = (0, false, 2)) := Lib.hid (by have e := HPP.out; rw [if_pos h4] at e; rw [HR.out, e, if_neg (by omega)])
      have d4 : decide ((20000 : Int) / (M : Int) < (U : Int)) = true := decide_eq_true (HDV.out.2 h4)
      clear hnm hKe h4
      go_enter Try.func40, Try.ntmps40
      go_upto_region 1 with fail
      rw [HW0.out]
      go_wp2_with fail
      refine HCC.out.mono ?_
      rintro e' w1 ⟨rfl, hb1⟩
      obtain ⟨bx, r1, r2⟩ := HGO.out w1 hb1
      go_wp2_with (first | (go_at_call 81; refine (rwithin_any _ _ _ _).mono ?_; rintro e w' ⟨rfl, rfl⟩) | fail)
      refine bodyPost_ret (v := .tuple #[.int .i64 0, .bool false, .int .i64 2]) (by simp [results, Try.results40, go_sem]) rfl ?_
      rw [HR2.out]
      exact ⟨rfl, bx⟩
    · have d4 : decide ((20000 : Int) / (M : Int) < (U : Int)) = false := decide_eq_false (fun q => h4 (HDV.out.1 q))
      rw [if_neg h4] at HPP
      clear h4
      by_cases h5 : 1 ≤ q ∧ q ≤ 1000000000000
      · rw [if_pos h5] at HPP
        have d5 : decide (1 ≤ q ∧ q ≤ 1000000000000) = true := by simp only [h5, decide_true, and_self]
        obtain ⟨M', U', Q, hm', hu', rfl, -, -, -, hQ, hUM, hr, hf2, hok⟩ := hnm HPP.out
        obtain rfl : M = M' := by omega
        obtain rfl : U = U' := by omega
        have hp0 := HPP.out
        subst hp0
        rw [if_pos rfl] at HR
        simp only [Int.toNat_natCast] at HR
        have hfew := hr.few
        have HSAME := Lib.hid hr.same
        have HPQ := Lib.hid (HPL.out hr hf2 hok M U ⟨hM1, hM2⟩ hU hUM)
        have HFAR := Lib.hid (okE_far l l' M f U)
        have HLW : Hid (∀ (E : Nat) (wq : World) (g cap g' cap' : Nat), RowAt wq g cap (ints (runEnd E M U ⟨nats l, 0, []⟩ f).C) → RowAt wq g' cap' l' → ∃ NL NW : Nat, NL ≤ 1000000 ∧ NW ≤ 1000000 ∧ decide ((NL : Int) + (NW : Int) = 0) = okE l l' M f U E ∧
            (∀ w', Below wq.heap.size wq w' → Calls Try.prog 83 #[.agg #[.slice (some ⟨g, 0, none⟩) l.length cap, .slice (some ⟨g', 0, none⟩) l'.length cap']] w' fun e w'' => LenIs NL e ∧ Below w'.heap.size w' w'') ∧
            (∀ w', Below wq.heap.size wq w' → Calls Try.prog 84 #[.agg #[.slice (some ⟨g, 0, none⟩) l.length cap, .slice (some ⟨g', 0, none⟩) l'.length cap']] w' fun e w'' => LenIs NW e ∧ Below w'.heap.size w' w'')) := Lib.hid (by
          intro E wq g cap g' cap' k1 k2
          have hOK := right_ok hr 0 hr.pos []
          have h3 : (runEnd E M U ⟨nats l, 0, []⟩ f).ok l.length := (flipU_ok (U : Int) _ _ (run_ok (every := E) (many := M) hOK hok (U / E)).1 (run_ok (every := E) (many := M) hOK hok (U / E)).2).1
          have hlen : (ints (runEnd E M U ⟨nats l, 0, []⟩ f).C).length = l.length := by rw [ints_len]; exact h3.len
          have hCD : ∀ j (h : j < (ints (runEnd E M U ⟨nats l, 0, []⟩ f).C).length), 0 ≤ (ints (runEnd E M U ⟨nats l, 0, []⟩ f).C)[j] ∧ (ints (runEnd E M U ⟨nats l, 0, []⟩ f).C)[j] ≤ 4194303 := fun j h => by
            have hj : j < (runEnd E M U ⟨nats l, 0, []⟩ f).C.length := by rw [ints_len] at h; exact h
            rw [ints_get _ j hj]
            have := h3.codes j hj
            omega
          have hsame := hr.same
          have i1 : IR wq wq.heap.size (some ⟨g, 0, none⟩) (ints (runEnd E M U ⟨nats l, 0, []⟩ f).C) := k1.ir
          have i2 : IR wq wq.heap.size (some ⟨g', 0, none⟩) l' := k2.ir
          have z1 := lostT_len (ints (runEnd E M U ⟨nats l, 0, []⟩ f).C) l.length
          have z2 := wrongT_len (ints (runEnd E M U ⟨nats l, 0, []⟩ f).C) l' l.length
          refine ⟨_, _, Nat.le_trans z1 (by omega), Nat.le_trans z2 (by omega), lens_none (ints (runEnd E M U ⟨nats l, 0, []⟩ f).C) l' l.length, fun w' hb => ?_, fun w' hb => ?_⟩
          · exact rlost_len _ _ _ _ _ _ _ _ w' hlen rfl (by omega) hCD ((i1.below hb).lift hb.size) ((i2.below hb).lift hb.size)
          · exact rwrong_len _ _ _ _ _ _ _ _ w' hlen rfl (by omega) (by omega) hCD ((i1.below hb).lift hb.size) ((i2.below hb).lift hb.size))
        obtain ⟨ok, hoke⟩ : ∃ ok, ok = okE l l' M f U := ⟨_, rfl⟩
        rw [← hoke] at HR HFAR HLW
        clear hoke hnm hr hok hKe HPL h5 HPP
        go_enter Try.func40, Try.ntmps40
        go_upto_region 1 with fail
        rw [HW0.out]
        go_wp2_with fail
        refine HCC.out.mono ?_
        rintro e' w1 ⟨rfl, hb1⟩
        obtain ⟨bx, r1, r2⟩ := HGO.out w1 hb1
        obtain ⟨p3, p4⟩ := (h0.below hb1 (by omega)).cells
        have hs1 := hb1.size
        clear p1 p2 HCC HW0
        have HP1 := HPQ.out (U + 1) ⟨by omega, by omega⟩ w1 bx
        simp only [Int.natCast_add, Int.natCast_one] at HP1
        have HP1' := Lib.hid HP1
        clear HP1
        go_wp2_with (first | (go_at_call 81; refine (rwithin_any _ _ _ _).mono ?_; rintro e w' ⟨rfl, rfl⟩) | fail)
        refine HP1'.out.mono ?_
        rintro e' w2 ⟨g, cap, g', cap', D, k, rfl, y2, xr, -, -, -, -, hb3⟩
        have hs3 := hb3.size
        obtain ⟨wq, hwq⟩ : ∃ wq, w2.alloc (.cells #[.slice (some ⟨g, 0, none⟩) l.length cap, .slice (some ⟨g', 0, none⟩) l'.length cap'] 52) = wq := ⟨_, rfl⟩
        have b9 : Below w2.heap.size w2 wq := by rw [← hwq]; exact box_below _ _
        have h9 : HeldB wq w2.heap.size (.slice (some ⟨g, 0, none⟩) l.length cap) (.slice (some ⟨g', 0, none⟩) l'.length cap') := by rw [← hwq]; exact HeldB.new w2 _ _
        have zq : wq.heap.size = w2.heap.size + 1 := by rw [← hwq]; simp
        have b1q : Below w1.heap.size w1 wq := hb3.trans (b9.mono hs3)
        obtain ⟨NL, NW, hNL, hNW, hNz, HL, HWR⟩ := HLW.out (U + 1) wq g cap g' cap' (y2.below b9 y2.lt) (xr.below b9 xr.lt)
        have HL' := Lib.hid HL
        have HWR' := Lib.hid HWR
        have HNZ := Lib.hid hNz
        have HWQ := Lib.hid hwq
        clear hwq HL HWR hNz HP1' r1 r2 p3 p4 y2 xr hb3
        go_upto_region 11 with fail
        rw [HWQ.out]
        clear HWQ
        have HSS := Lib.hid (fun (w' : World) (hb : Below wq.heap.size wq w') => (h9.below hb (by omega)).cells)
        obtain ⟨j1, j2⟩ := h9.cells
        have r0 : Below wq.heap.size wq wq := Below.refl _ _
        have z0q : wq.heap.size ≤ wq.heap.size := Nat.le_refl _
        have hwr : IntKind.i64.wrap ((NL : Int) + (NW : Int)) = (NL : Int) + (NW : Int) := IntWalk.i64_in _ (by omega)
        have hwr2 : wrap64 ((NL : Int) + (NW : Int)) = (NL : Int) + (NW : Int) := IntWalk.wrap64_in _ (by omega)
        have hz1 : (((NL : Int) + (NW : Int)) == 0) = ok (U + 1) := by rw [← HNZ.out]; rfl
        have HOKU := Lib.hid (show slowN ok U Q = if U < Q then (if ok (U + 1) = true then Q else srch ok U) else srch ok Q from rfl)
        by_cases hUQ : U < Q
        · have hg : decide ((U : Int) < (Q : Int)) = true := by rw [decide_eq_true_iff]; omega
          rw [if_pos hUQ] at HOKU
          cases hk : ok (U + 1) with
          | true =>
            rw [hk] at HOKU hz1
            rw [if_pos rfl] at HOKU
            clear hk
            go_region_held3 (fun w' => w'.cell? ⟨w2.heap.size, 0, none⟩ = some (.slice (some ⟨g, 0, none⟩) l.length cap) ∧ w'.cell? ⟨w2.heap.size, 1, none⟩ = some (.slice (some ⟨g', 0, none⟩) l'.length cap'))
              (first | exact HSS.out _ (by assumption) | exact HSS.out _ (Below.drew (by assumption)) | go_keep)
              (first
               | (go_at_call 83
                  refine (carryR (B := wq.heap.size) (W0 := wq) (HL'.out _ ?_) ?_ ?_).mono ?_
                  · first | assumption | exact r0.drew | exact Below.drew (by assumption)
                  · first | assumption | exact r0.drew | exact Below.drew (by assumption)
                  · first | assumption | (simp; done)
                  rintro e w3 ⟨⟨A3, c3, rfl⟩, hb3, hs3⟩)
               | (go_at_call 84
                  refine (carryR (B := wq.heap.size) (W0 := wq) (HWR'.out _ ?_) ?_ ?_).mono ?_
                  · first | assumption | exact r0.drew | exact Below.drew (by assumption)
                  · first | assumption | exact r0.drew | exact Below.drew (by assumption)
                  · first | assumption | (simp; done)
                  rintro e w4 ⟨⟨A4, c4, rfl⟩, hb4, hs4⟩))
            all_goals
              have hbz : Below wq.heap.size wq _ := hb4
              have HB := Lib.hid (bx.trans ((b1q.trans (hbz.mono b1q.size)).mono bx.size))
              have HR1 : Hid (R = ((Q : Int), true, 0)) := Lib.hid (by
                rw [HR.out, HOKU.out]
                have : (Q != 0) = true := by simp; omega
                rw [this])
              clear hbz
              go_wp2_with fail
              refine bodyPost_ret (v := .tuple #[.int .i64 (Q : Int), .bool true, .int .i64 0]) (by simp [results, Try.results40, go_sem]) rfl ?_
              rw [HR1.out]
              exact ⟨rfl, HB.out⟩
          | false =>
            rw [hk] at HOKU hz1
            rw [if_neg (by simp)] at HOKU
            clear hk
            go_region_held3 (fun w' => w'.cell? ⟨w2.heap.size, 0, none⟩ = some (.slice (some ⟨g, 0, none⟩) l.length cap) ∧ w'.cell? ⟨w2.heap.size, 1, none⟩ = some (.slice (some ⟨g', 0, none⟩) l'.length cap'))
              (first | exact HSS.out _ (by assumption) | exact HSS.out _ (Below.drew (by assumption)) | go_keep)
              (first
               | (go_at_call 83
                  refine (carryR (B := wq.heap.size) (W0 := wq) (HL'.out _ ?_) ?_ ?_).mono ?_
                  · first | assumption | exact r0.drew | exact Below.drew (by assumption)
                  · first | assumption | exact r0.drew | exact Below.drew (by assumption)
                  · first | assumption | (simp; done)
                  rintro e w3 ⟨⟨A3, c3, rfl⟩, hb3, hs3⟩)
               | (go_at_call 84
                  refine (carryR (B := wq.heap.size) (W0 := wq) (HWR'.out _ ?_) ?_ ?_).mono ?_
                  · first | assumption | exact r0.drew | exact Below.drew (by assumption)
                  · first | assumption | exact r0.drew | exact Below.drew (by assumption)
                  · first | assumption | (simp; done)
                  rintro e w4 ⟨⟨A4, c4, rfl⟩, hb4, hs4⟩))
            all_goals
              have hbz : Below wq.heap.size wq w4 := hb4
              generalize w4 = ws at *
              have hmin : min (Q : Int) (U : Int) = (U : Int) := Int.min_eq_right (by omega)
              have HT := Lib.hid HOKU.out.symm
              have hTl : U ≤ 1000000000000 := by omega
              have HK0 : Hid (Below w1.heap.size w1 ws) := Lib.hid (b1q.trans (hbz.mono b1q.size))
              clear HL' HWR' HSS j1 j2 r0 z0q
              go_wp2_with fail
              go_loopw [16, 17, 18] (fun i _ _ wr => ∃ E : Nat, E ≤ 1000000000000 ∧ i = .int .i64 (E : Int) ∧ srch ok E = slowN ok U Q ∧ Below w1.heap.size w1 wr) (fun i _ _ _ => (intOf i).toNat)
              case atStart => exact ⟨U, hTl, rfl, HT.out, HK0.out⟩
              case round =>
                obtain ⟨E, hE, rfl, hN, hK⟩ := hrel
                have HN := Lib.hid hN
                clear hN HK0 HT
                have bxr := bx.trans (hK.mono bx.size)
                have b0r := hb1.trans (hK.mono hs1)
                obtain ⟨-, r1, r2⟩ := HGO.out wr b0r
                obtain ⟨p3, p4⟩ := (h0.below b0r (by omega)).cells
                by_cases hE1 : E = 0
                · subst hE1
                  have HR1 : Hid (R = (0, false, 0)) := Lib.hid (by
                    have e0 : slowN ok U Q = 0 := by rw [← HN.out]; rfl
                    rw [HR.out, e0]
                    rfl)
                  have HB := Lib.hid bxr
                  clear bxr
                  go_wp2_with fail
                  refine bodyPost_ret (v := .tuple #[.int .i64 0, .bool false, .int .i64 0]) (by simp [results, Try.results40, go_sem]) rfl ?_
                  rw [HR1.out]
                  exact ⟨rfl, HB.out⟩
                · obtain ⟨E, rfl⟩ : ∃ k, E = k + 1 := ⟨E - 1, by omega⟩
                  have HP1 := HPQ.out (E + 1) ⟨by omega, by omega⟩ wr bxr
                  simp only [Int.natCast_add, Int.natCast_one] at HP1
                  have HP1' := Lib.hid HP1
                  clear HP1
                  go_wp2_with fail
                  refine HP1'.out.mono ?_
                  rintro e' w6 ⟨g6, cap6, g6', cap6', D6, k6, rfl, y6, x6, -, -, -, -, hb6⟩
                  have hs6 := hb6.size
                  obtain ⟨w7, hw7⟩ : ∃ w7, w6.alloc (.cells #[.slice (some ⟨g6, 0, none⟩) l.length cap6, .slice (some ⟨g6', 0, none⟩) l'.length cap6'] 52) = w7 := ⟨_, rfl⟩
                  have b7 : Below w6.heap.size w6 w7 := by rw [← hw7]; exact box_below _ _
                  have h7 : HeldB w7 w6.heap.size (.slice (some ⟨g6, 0, none⟩) l.length cap6) (.slice (some ⟨g6', 0, none⟩) l'.length cap6') := by rw [← hw7]; exact HeldB.new w6 _ _
                  have z7 : w7.heap.size = w6.heap.size + 1 := by rw [← hw7]; simp
                  have b17 : Below w1.heap.size w1 w7 := hK.trans ((hb6.trans (b7.mono hs6)).mono hK.size)
                  obtain ⟨NL6, NW6, hNL6, hNW6, hNz6, HL6, HWR6⟩ := HLW.out (E + 1) w7 g6 cap6 g6' cap6' (y6.below b7 y6.lt) (x6.below b7 x6.lt)
                  have HL6' := Lib.hid HL6
                  have HWR6' := Lib.hid HWR6
                  have HNZ6 := Lib.hid hNz6
                  have HW7 := Lib.hid hw7
                  clear hw7 HL6 HWR6 hNz6 HP1' r1 r2 p3 p4 y6 x6 hb6 hwr hwr2 hz1
                  go_upto_region 17 with fail
                  rw [HW7.out]
                  clear HW7
                  have HSS6 := Lib.hid (fun (w' : World) (hb : Below w7.heap.size w7 w') => (h7.below hb (by omega)).cells)
                  obtain ⟨j1, j2⟩ := h7.cells
                  have r06 : Below w7.heap.size w7 w7 := Below.refl _ _
                  have z07 : w7.heap.size ≤ w7.heap.size := Nat.le_refl _
                  have hwr : IntKind.i64.wrap ((NL6 : Int) + (NW6 : Int)) = (NL6 : Int) + (NW6 : Int) := IntWalk.i64_in _ (by omega)
                  have hwr2 : wrap64 ((NL6 : Int) + (NW6 : Int)) = (NL6 : Int) + (NW6 : Int) := IntWalk.wrap64_in _ (by omega)
                  have hz6 : (((NL6 : Int) + (NW6 : Int)) == 0) = ok (E + 1) := by rw [← HNZ6.out]; rfl
                  have HS1 := Lib.hid (show srch ok (E + 1) = if ok (E + 1) = true then E + 1 else srch ok E from rfl)
                  cases hk6 : ok (E + 1) with
                  | true =>
                    rw [hk6] at HS1 hz6
                    rw [if_pos rfl] at HS1
                    clear hk6
                    go_region_held3 (fun w' => w'.cell? ⟨w6.heap.size, 0, none⟩ = some (.slice (some ⟨g6, 0, none⟩) l.length cap6) ∧ w'.cell? ⟨w6.heap.size, 1, none⟩ = some (.slice (some ⟨g6', 0, none⟩) l'.length cap6'))
                      (first | exact HSS6.out _ (by assumption) | exact HSS6.out _ (Below.drew (by assumption)) | go_keep)
                      (first
                       | (go_at_call 83
                          refine (carryR (B := w7.heap.size) (W0 := w7) (HL6'.out _ ?_) ?_ ?_).mono ?_
                          · first | assumption | exact r06.drew | exact Below.drew (by assumption)
                          · first | assumption | exact r06.drew | exact Below.drew (by assumption)
                          · first | assumption | (simp; done)
                          rintro e w3 ⟨⟨A3, c3, rfl⟩, hb3, hs3⟩)
                       | (go_at_call 84
                          refine (carryR (B := w7.heap.size) (W0 := w7) (HWR6'.out _ ?_) ?_ ?_).mono ?_
                          · first | assumption | exact r06.drew | exact Below.drew (by assumption)
                          · first | assumption | exact r06.drew | exact Below.drew (by assumption)
                          · first | assumption | (simp; done)
                          rintro e w4 ⟨⟨A4, c4, rfl⟩, hb4, hs4⟩))
                    all_goals
                      have hb9 : Below w7.heap.size w7 _ := hb4
                      have HB := Lib.hid (bx.trans ((b17.trans (hb9.mono b17.size)).mono bx.size))
                      have HR1 : Hid (R = (((E : Int) + 1), true, 0)) := Lib.hid (by
                        rw [HR.out, ← HN.out, HS1.out]
                        rfl)
                      clear hb9
                      go_wp2_with fail
                      refine bodyPost_ret (v := .tuple #[.int .i64 ((E : Int) + 1), .bool true, .int .i64 0]) (by simp [results, Try.results40, go_sem]) rfl ?_
                      rw [HR1.out]
                      exact ⟨rfl, HB.out⟩
                  | false =>
                    rw [hk6] at HS1 hz6
                    rw [if_neg (by simp)] at HS1
                    clear hk6
                    go_region_held3 (fun w' => w'.cell? ⟨w6.heap.size, 0, none⟩ = some (.slice (some ⟨g6, 0, none⟩) l.length cap6) ∧ w'.cell? ⟨w6.heap.size, 1, none⟩ = some (.slice (some ⟨g6', 0, none⟩) l'.length cap6'))
                      (first | exact HSS6.out _ (by assumption) | exact HSS6.out _ (Below.drew (by assumption)) | go_keep)
                      (first
                       | (go_at_call 83
                          refine (carryR (B := w7.heap.size) (W0 := w7) (HL6'.out _ ?_) ?_ ?_).mono ?_
                          · first | assumption | exact r06.drew | exact Below.drew (by assumption)
                          · first | assumption | exact r06.drew | exact Below.drew (by assumption)
                          · first | assumption | (simp; done)
                          rintro e w3 ⟨⟨A3, c3, rfl⟩, hb3, hs3⟩)
                       | (go_at_call 84
                          refine (carryR (B := w7.heap.size) (W0 := w7) (HWR6'.out _ ?_) ?_ ?_).mono ?_
                          · first | assumption | exact r06.drew | exact Below.drew (by assumption)
                          · first | assumption | exact r06.drew | exact Below.drew (by assumption)
                          · first | assumption | (simp; done)
                          rintro e w4 ⟨⟨A4, c4, rfl⟩, hb4, hs4⟩))
                    all_goals
                      have hb9 : Below w7.heap.size w7 _ := hb4
                      have HB := Lib.hid (b17.trans (hb9.mono b17.size))
                      clear hb9
                      go_wp2_with fail
                      refine ⟨⟨E, by omega, ?_, ?_, HB.out⟩, ?_⟩
                      · rfl
                      · rw [← HN.out, HS1.out]
                      · first | (simp [intOf]; done) | (simp [intOf]; omega)
        · have hg : decide ((U : Int) < (Q : Int)) = false := by rw [decide_eq_false_iff_not]; omega
          rw [if_neg hUQ] at HOKU
          have hmin : min (Q : Int) (U : Int) = (Q : Int) := Int.min_eq_left (by omega)
          have HT := Lib.hid HOKU.out.symm
          go_quiet (fail)
          all_goals
            have hTl : Q ≤ 1000000000000 := by omega
            have HK0 := Lib.hid (fun n => b1q.trans ((below_draws r0 n).mono b1q.size))
            clear HL' HWR' HSS j1 j2 r0 z0q
            go_wp2_with fail
            go_loopw [16, 17, 18] (fun i _ _ wr => ∃ E : Nat, E ≤ 1000000000000 ∧ i = .int .i64 (E : Int) ∧ srch ok E = slowN ok U Q ∧ Below w1.heap.size w1 wr) (fun i _ _ _ => (intOf i).toNat)
            case atStart => exact ⟨Q, hTl, rfl, HT.out, HK0.out _⟩
            case round =>
              obtain ⟨E, hE, rfl, hN, hK⟩ := hrel
              have HN := Lib.hid hN
              clear hN HK0 HT
              have bxr := bx.trans (hK.mono bx.size)
              have b0r := hb1.trans (hK.mono hs1)
              obtain ⟨-, r1, r2⟩ := HGO.out wr b0r
              obtain ⟨p3, p4⟩ := (h0.below b0r (by omega)).cells
              by_cases hE1 : E = 0
              · subst hE1
                have HR1 : Hid (R = (0, false, 0)) := Lib.hid (by
                  have e0 : slowN ok U Q = 0 := by rw [← HN.out]; rfl
                  rw [HR.out, e0]
                  rfl)
                have HB := Lib.hid bxr
                clear bxr
                go_wp2_with fail
                refine bodyPost_ret (v := .tuple #[.int .i64 0, .bool false, .int .i64 0]) (by simp [results, Try.results40, go_sem]) rfl ?_
                rw [HR1.out]
                exact ⟨rfl, HB.out⟩
              · obtain ⟨E, rfl⟩ : ∃ k, E = k + 1 := ⟨E - 1, by omega⟩
                have HP1 := HPQ.out (E + 1) ⟨by omega, by omega⟩ wr bxr
                simp only [Int.natCast_add, Int.natCast_one] at HP1
                have HP1' := Lib.hid HP1
                clear HP1
                go_wp2_with fail
                refine HP1'.out.mono ?_
                rintro e' w6 ⟨g6, cap6, g6', cap6', D6, k6, rfl, y6, x6, -, -, -, -, hb6⟩
                have hs6 := hb6.size
                obtain ⟨w7, hw7⟩ : ∃ w7, w6.alloc (.cells #[.slice (some ⟨g6, 0, none⟩) l.length cap6, .slice (some ⟨g6', 0, none⟩) l'.length cap6'] 52) = w7 := ⟨_, rfl⟩
                have b7 : Below w6.heap.size w6 w7 := by rw [← hw7]; exact box_below _ _
                have h7 : HeldB w7 w6.heap.size (.slice (some ⟨g6, 0, none⟩) l.length cap6) (.slice (some ⟨g6', 0, none⟩) l'.length cap6') := by rw [← hw7]; exact HeldB.new w6 _ _
                have z7 : w7.heap.size = w6.heap.size + 1 := by rw [← hw7]; simp
                have b17 : Below w1.heap.size w1 w7 := hK.trans ((hb6.trans (b7.mono hs6)).mono hK.size)
                obtain ⟨NL6, NW6, hNL6, hNW6, hNz6, HL6, HWR6⟩ := HLW.out (E + 1) w7 g6 cap6 g6' cap6' (y6.below b7 y6.lt) (x6.below b7 x6.lt)
                have HL6' := Lib.hid HL6
                have HWR6' := Lib.hid HWR6
                have HNZ6 := Lib.hid hNz6
                have HW7 := Lib.hid hw7
                clear hw7 HL6 HWR6 hNz6 HP1' r1 r2 p3 p4 y6 x6 hb6 hwr hwr2 hz1
                go_upto_region 17 with fail
                rw [HW7.out]
                clear HW7
                have HSS6 := Lib.hid (fun (w' : World) (hb : Below w7.heap.size w7 w') => (h7.below hb (by omega)).cells)
                obtain ⟨j1, j2⟩ := h7.cells
                have r06 : Below w7.heap.size w7 w7 := Below.refl _ _
                have z07 : w7.heap.size ≤ w7.heap.size := Nat.le_refl _
                have hwr : IntKind.i64.wrap ((NL6 : Int) + (NW6 : Int)) = (NL6 : Int) + (NW6 : Int) := IntWalk.i64_in _ (by omega)
                have hwr2 : wrap64 ((NL6 : Int) + (NW6 : Int)) = (NL6 : Int) + (NW6 : Int) := IntWalk.wrap64_in _ (by omega)
                have hz6 : (((NL6 : Int) + (NW6 : Int)) == 0) = ok (E + 1) := by rw [← HNZ6.out]; rfl
                have HS1 := Lib.hid (show srch ok (E + 1) = if ok (E + 1) = true then E + 1 else srch ok E from rfl)
                cases hk6 : ok (E + 1) with
                | true =>
                  rw [hk6] at HS1 hz6
                  rw [if_pos rfl] at HS1
                  clear hk6
                  go_region_held3 (fun w' => w'.cell? ⟨w6.heap.size, 0, none⟩ = some (.slice (some ⟨g6, 0, none⟩) l.length cap6) ∧ w'.cell? ⟨w6.heap.size, 1, none⟩ = some (.slice (some ⟨g6', 0, none⟩) l'.length cap6'))
                    (first | exact HSS6.out _ (by assumption) | exact HSS6.out _ (Below.drew (by assumption)) | go_keep)
                    (first
                     | (go_at_call 83
                        refine (carryR (B := w7.heap.size) (W0 := w7) (HL6'.out _ ?_) ?_ ?_).mono ?_
                        · first | assumption | exact r06.drew | exact Below.drew (by assumption)
                        · first | assumption | exact r06.drew | exact Below.drew (by assumption)
                        · first | assumption | (simp; done)
                        rintro e w3 ⟨⟨A3, c3, rfl⟩, hb3, hs3⟩)
                     | (go_at_call 84
                        refine (carryR (B := w7.heap.size) (W0 := w7) (HWR6'.out _ ?_) ?_ ?_).mono ?_
                        · first | assumption | exact r06.drew | exact Below.drew (by assumption)
                        · first | assumption | exact r06.drew | exact Below.drew (by assumption)
                        · first | assumption | (simp; done)
                        rintro e w4 ⟨⟨A4, c4, rfl⟩, hb4, hs4⟩))
                  all_goals
                    have hb9 : Below w7.heap.size w7 _ := hb4
                    have HB := Lib.hid (bx.trans ((b17.trans (hb9.mono b17.size)).mono bx.size))
                    have HR1 : Hid (R = (((E : Int) + 1), true, 0)) := Lib.hid (by
                      rw [HR.out, ← HN.out, HS1.out]
                      rfl)
                    clear hb9
                    go_wp2_with fail
                    refine bodyPost_ret (v := .tuple #[.int .i64 ((E : Int) + 1), .bool true, .int .i64 0]) (by simp [results, Try.results40, go_sem]) rfl ?_
                    rw [HR1.out]
                    exact ⟨rfl, HB.out⟩
                | false =>
                  rw [hk6] at HS1 hz6
                  rw [if_neg (by simp)] at HS1
                  clear hk6
                  go_region_held3 (fun w' => w'.cell? ⟨w6.heap.size, 0, none⟩ = some (.slice (some ⟨g6, 0, none⟩) l.length cap6) ∧ w'.cell? ⟨w6.heap.size, 1, none⟩ = some (.slice (some ⟨g6', 0, none⟩) l'.length cap6'))
                    (first | exact HSS6.out _ (by assumption) | exact HSS6.out _ (Below.drew (by assumption)) | go_keep)
                    (first
                     | (go_at_call 83
                        refine (carryR (B := w7.heap.size) (W0 := w7) (HL6'.out _ ?_) ?_ ?_).mono ?_
                        · first | assumption | exact r06.drew | exact Below.drew (by assumption)
                        · first | assumption | exact r06.drew | exact Below.drew (by assumption)
                        · first | assumption | (simp; done)
                        rintro e w3 ⟨⟨A3, c3, rfl⟩, hb3, hs3⟩)
                     | (go_at_call 84
                        refine (carryR (B := w7.heap.size) (W0 := w7) (HWR6'.out _ ?_) ?_ ?_).mono ?_
                        · first | assumption | exact r06.drew | exact Below.drew (by assumption)
                        · first | assumption | exact r06.drew | exact Below.drew (by assumption)
                        · first | assumption | (simp; done)
                        rintro e w4 ⟨⟨A4, c4, rfl⟩, hb4, hs4⟩))
                  all_goals
                    have hb9 : Below w7.heap.size w7 _ := hb4
                    have HB := Lib.hid (b17.trans (hb9.mono b17.size))
                    clear hb9
                    go_wp2_with fail
                    refine ⟨⟨E, by omega, ?_, ?_, HB.out⟩, ?_⟩
                    · rfl
                    · rw [← HN.out, HS1.out]
                    · first | (simp [intOf]; done) | (simp [intOf]; omega)
      · rw [if_neg h5] at HPP
        have d5 : decide (1 ≤ q ∧ q ≤ 1000000000000) = false := by simp; omega
        have HR2 : Hid (R = (0, false, 1)) := Lib.hid (by have e := HPP.out; rw [HR.out, e, if_neg (by omega)])
        clear hnm hKe h5
        go_enter Try.func40, Try.ntmps40
        go_upto_region 1 with fail
        rw [HW0.out]
        go_wp2_with fail
        refine HCC.out.mono ?_
        rintro e' w1 ⟨rfl, hb1⟩
        obtain ⟨bx, r1, r2⟩ := HGO.out w1 hb1
        go_wp2_with (first | (go_at_call 81; refine (rwithin_any _ _ _ _).mono ?_; rintro e w' ⟨rfl, rfl⟩) | fail)
        refine bodyPost_ret (v := .tuple #[.int .i64 0, .bool false, .int .i64 1]) (by simp [results, Try.results40, go_sem]) rfl ?_
        rw [HR2.out]
        exact ⟨rfl, bx⟩
end Go.Proofs.Yteelepjhlhifhaa
