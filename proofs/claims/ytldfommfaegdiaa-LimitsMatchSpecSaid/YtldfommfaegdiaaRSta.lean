/- the reference's StateOf. -/
import Derived.Test.YtldfommfaegdiaaRSam
namespace Go.Proofs.Ytldfommfaegdiaa
open Go.RowKit

attribute [local go_sem] setCell_draws alloc_draws
theorem lims_one (x : Lim) : limsF [x] = limF x := by
  unfold limsF
  rw [if_neg (by simp)]
  unfold chkG
  by_cases h : limF x = 0
  · rw [if_neg (by rw [h]; simp), h]; rfl
  · rw [if_pos h]
set_option maxRecDepth 100000 in
set_option maxHeartbeats 1000000 in
theorem r_StateOf_any (x : Lim) (v : Int) (hp : x.p.size ≤ 9223372036854775807) (w : World) :
    Calls Try.prog 10 #[limV x.p x.ll x.lo x.hi x.hh x.ct x.cl x.bk, .int .i64 v] w fun e w' => e = .returned (.tuple #[.int .i64 (sofR x v), .int .i64 (sofF x v)]) ∧ Below w.heap.size w w' := by
  have HV := Lib.hid (rvalue_any v)
  have HS := Lib.hid (rstateOf_any x v)
  have HF := Lib.hid (show sofF x v = if limF x ≠ 0 then limF x else if valD v = false then 1 else 0 from rfl)
  have HR := Lib.hid (show sofR x v = if sofF x v = 0 then stS x v else 0 from rfl)
  have hc0 : ∀ (w' : World), Calls Try.prog 12 #[.slice (some ⟨w'.heap.size, 0, none⟩) 1 1] (w'.alloc (.cells (limC x.p x.ll x.lo x.hi x.hh x.ct x.cl x.bk) 25)) fun e w'' => e = .returned (.int .i64 (limF x)) ∧ Below (w'.alloc (.cells (limC x.p x.ll x.lo x.hi x.hh x.ct x.cl x.bk) 25)).heap.size (w'.alloc (.cells (limC x.p x.ll x.lo x.hi x.hh x.ct x.cl x.bk) 25)) w'' := fun w' => by
    have := r_CheckLimits_any (some ⟨w'.heap.size, 0, none⟩) [x] 1 (w'.heap.size + 1) (w'.alloc (.cells (limC x.p x.ll x.lo x.hi x.hh x.ct x.cl x.bk) 25)) (by simp) (by simp) (by simpa using hp) (Cells.fresh w' (rcells Lim.cells [x]) 25 (0, 0) _ rfl)
    rw [lims_one] at this
    exact this
  unfold limC at hc0
  have HC := Lib.hid hc0
  generalize sofR x v = r at *
  generalize sofF x v = f at *
  generalize stS x v = s at *
  generalize limF x = F at *
  generalize valD v = b at *
  obtain ⟨p, ll, lo, hi, hh, ct, cl, bk⟩ := x
  obtain ⟨W, hW⟩ : ∃ W, W = w.alloc (.cells (limC p ll lo hi hh ct cl bk) 25) := ⟨_, rfl⟩
  have hbW : Below w.heap.size w W := by rw [hW]; exact (Below.refl _ _).alloc (Nat.le_refl _) _
  have hzW : W.heap.size = w.heap.size + 1 := by rw [hW]; simp
  have b0 : W.cell? ⟨w.heap.size, 0, none⟩ = some (.string p) := by rw [hW]; simp [limC]
  have b1 : W.cell? ⟨w.heap.size, 1, none⟩ = some (.int .i64 ll) := by rw [hW]; simp [limC]
  have b2 : W.cell? ⟨w.heap.size, 2, none⟩ = some (.int .i64 lo) := by rw [hW]; simp [limC]
  have b3 : W.cell? ⟨w.heap.size, 3, none⟩ = some (.int .i64 hi) := by rw [hW]; simp [limC]
  have b4 : W.cell? ⟨w.heap.size, 4, none⟩ = some (.int .i64 hh) := by rw [hW]; simp [limC]
  have b5 : W.cell? ⟨w.heap.size, 5, none⟩ = some (.int .i64 ct) := by rw [hW]; simp [limC]
  have b6 : W.cell? ⟨w.heap.size, 6, none⟩ = some (.int .i64 cl) := by rw [hW]; simp [limC]
  have b7 : W.cell? ⟨w.heap.size, 7, none⟩ = some (.int .i64 bk) := by rw [hW]; simp [limC]
  unfold limC at hW
  have HW := Lib.hid hW
  have HZW := Lib.hid hzW
  clear hW hp hc0 hzW
  unfold limV at HS ⊢
  simp only at HS ⊢
  simp only at HC
  go_enter Try.func10, Try.ntmps10
  go_upto_region 1 with fail
  rw [← HW.out]
  go_wp2_with fail
  refine (HC.out W).mono ?_
  rintro e w2 ⟨rfl, hb2⟩
  replace hb2 : Below W.heap.size W w2 := ((Below.refl _ _).alloc (Nat.le_refl _) _).trans (hb2.mono (by simp))
  have hzW := HZW.out
  have hlt : w.heap.size < W.heap.size := by omega
  have c0 := (Below.at_ hb2 w.heap.size hlt 0).trans b0
  have c1 := (Below.at_ hb2 w.heap.size hlt 1).trans b1
  have c2 := (Below.at_ hb2 w.heap.size hlt 2).trans b2
  have c3 := (Below.at_ hb2 w.heap.size hlt 3).trans b3
  have c4 := (Below.at_ hb2 w.heap.size hlt 4).trans b4
  have c5 := (Below.at_ hb2 w.heap.size hlt 5).trans b5
  have c6 := (Below.at_ hb2 w.heap.size hlt 6).trans b6
  have c7 := (Below.at_ hb2 w.heap.size hlt 7).trans b7
  have hbw2 := hbW.trans (hb2.mono (by omega))
  clear b0 b1 b2 b3 b4 b5 b6 b7 hbW hzW hlt hb2
  by_cases hF : F = 0
  · subst hF
    cases b
    · have HR2 : Hid (f = 1 ∧ r = 0) := Lib.hid (by have h1 : f = 1 := by rw [HF.out, if_neg (by simp), if_pos rfl]
                                                    exact ⟨h1, by rw [HR.out, if_neg (by omega)]⟩)
      go_wp2_with fail
      refine (HV.out _).mono ?_
      rintro e w3 ⟨rfl, rfl⟩
      go_wp2_with fail
      go_ret2
      exact ⟨ret_two HR2.out.2.symm HR2.out.1.symm, hbw2⟩
    · have HR2 : Hid (f = 0 ∧ r = s) := Lib.hid (by have h1 : f = 0 := by rw [HF.out, if_neg (by simp), if_neg (by simp)]
                                                    exact ⟨h1, by rw [HR.out, if_pos h1]⟩)
      go_wp2_with fail
      refine (HV.out _).mono ?_
      rintro e w3 ⟨rfl, rfl⟩
      go_wp2_with fail
      refine (HS.out _).mono ?_
      rintro e w3 ⟨rfl, hb3⟩
      go_wp2_with fail
      go_ret2
      exact ⟨ret_two HR2.out.2.symm HR2.out.1.symm, hbw2.trans (hb3.mono hbw2.size)⟩
  · have HR2 : Hid (f = F ∧ r = 0) := Lib.hid (by have h1 : f = F := by rw [HF.out, if_pos hF]
                                                  exact ⟨h1, by rw [HR.out, if_neg (by omega)]⟩)
    have dF : (F != 0) = true := by simpa using hF
    clear hF
    go_wp2_with fail
    go_ret2
    exact ⟨ret_two HR2.out.2.symm HR2.out.1.symm, hbw2⟩
end Go.Proofs.Ytldfommfaegdiaa
