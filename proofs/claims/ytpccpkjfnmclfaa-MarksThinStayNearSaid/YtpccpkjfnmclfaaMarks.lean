/- words for rows of marks; both CheckMarks. -/
import Derived.Test.YtpccpkjfnmclfaaStep
import Derived.Test.YtpccpkjfnmclfaaAppend
import Derived.Test.YtpccpkjfnmclfaaMarkMath
import Derived.Deep.Draws
namespace Go.Proofs.Ytpccpkjfnmclfaa
open Go.RowKit

def Mk.cells (x : Mk) : List Value := [.int .i64 x.t, .int .i64 x.z, .int .i64 x.o]
def mcells (l : List Mk) : List Value := l.flatMap Mk.cells
theorem mcells_len (l : List Mk) : (mcells l).length = l.length * 3 := by
  induction l with
  | nil => rfl
  | cons x l ih => simp only [mcells, List.flatMap_cons, List.length_append] at ih ⊢; rw [ih]; simp [Mk.cells]; omega
theorem mcells_get : ∀ (l : List Mk) (k j : Nat) (hk : k < l.length) (_ : j < 3), (mcells l)[k * 3 + j]? = (l[k].cells)[j]?
  | x :: l, 0, j, hk, hj => by
    simp only [mcells, List.flatMap_cons, List.getElem_cons_zero, Nat.zero_mul, Nat.zero_add]
    rw [List.getElem?_append_left (by simp [Mk.cells]; omega)]
  | x :: l, k + 1, j, hk, hj => by
    have := mcells_get l k j (by simpa using hk) hj
    simp only [mcells, List.flatMap_cons, List.getElem_cons_succ] at this ⊢
    rw [List.getElem?_append_right (by simp [Mk.cells]; omega), ← this]
    congr 1
    simp [Mk.cells]
    omega
/-- at A, below block B, lie the marks l -/
def MR (w : World) (B : Nat) (A : Option Addr) (l : List Mk) : Prop := Cells w B A (mcells l)
theorem MR.below {w w' : World} {B : Nat} {A : Option Addr} {l : List Mk} (h : MR w B A l) (hb : Below B w w') : MR w' B A l := Cells.below h hb
theorem MR.lift {w : World} {B B' : Nat} {A : Option Addr} {l : List Mk} (h : MR w B A l) (hb : B ≤ B') : MR w B' A l := Cells.lift h hb
theorem add_lit (a : Addr) (n j : Nat) (hj : 0 < j) : a.add (n + j) = ⟨(a.add n).block, (a.add n).off + j, none⟩ := by
  rw [← add_twice]
  simp [Addr.add, Nat.pos_iff_ne_zero.1 hj]
theorem MR.get {w : World} {B : Nat} {A : Option Addr} {l : List Mk} (h : MR w B A l) (k : Nat) (hk : k < l.length) :
    ∃ ad, A = some ad ∧ ad.block < B ∧ w.cell? (ad.add (k * 3)) = some (.int .i64 l[k].t) ∧ w.cell? ⟨(ad.add (k * 3)).block, (ad.add (k * 3)).off + 1, none⟩ = some (.int .i64 l[k].z) ∧ w.cell? ⟨(ad.add (k * 3)).block, (ad.add (k * 3)).off + 2, none⟩ = some (.int .i64 l[k].o) := by
  rcases h with e | ⟨ad, e, hb, hc⟩
  · have := mcells_len l
    rw [e] at this
    simp at this
    omega
  · refine ⟨ad, e, hb, hc _ _ (mcells_get l k 0 hk (by omega)), ?_, ?_⟩
    · rw [← add_lit ad (k * 3) 1 (by omega)]
      exact hc _ _ (mcells_get l k 1 hk (by omega))
    · rw [← add_lit ad (k * 3) 2 (by omega)]
      exact hc _ _ (mcells_get l k 2 hk (by omega))

/-- the head of the loops of CheckMarks -/
def CkAt (l : List Mk) (w : World) (i : Value) (wr : World) : Prop :=
  ∃ k : Nat, k ≤ l.length ∧ i = .int .i64 k ∧ Below w.heap.size w wr ∧ ckL (if k = 0 then none else l[k - 1]?) (l.drop k) = ckL none l
set_option maxRecDepth 100000 in
set_option maxHeartbeats 2000000 in
theorem checkMarks_any (A : Option Addr) (c : Nat) (l : List Mk) (w : World) (hl : l.length ≤ 9223372036854775807) (hA : MR w w.heap.size A l) :
    Calls Try.prog 19 #[.slice A l.length c] w fun e w' => e = .returned (.int .i64 (ckM l)) ∧ Below w.heap.size w w' := by
  by_cases h1 : l.length = 0
  · have hc : ckM l = 9 := by unfold ckM; rw [if_pos h1]
    rw [hc, h1]
    clear hc h1 hA hl
    go_enter Try.func19, Try.ntmps19
    go_wp2
    go_ret
    exact ⟨rfl, Below.refl _ _⟩
  by_cases h2 : 2000 < l.length
  · have hc : ckM l = 2 := by unfold ckM; rw [if_neg h1, if_pos h2]
    have hne : ((l.length : Int) == 0) = false := beq_eq_false_iff_ne.2 (by omega)
    rw [hc]
    clear hc h1
    go_enter Try.func19, Try.ntmps19
    go_wp2
    go_ret
    exact ⟨rfl, Below.refl _ _⟩
  have hc : ckM l = ckL none l := by unfold ckM; rw [if_neg h1, if_neg h2]
  have hne : ((l.length : Int) == 0) = false := beq_eq_false_iff_ne.2 (by omega)
  have h3 : l.length ≤ 2000 := by omega
  rw [hc]
  clear hc h1 h2
  go_enter Try.func19, Try.ntmps19
  go_wp2_with fail
  go_loopw [15] (fun i wr => CkAt l w i wr) (fun i _ => l.length - (intOf i).toNat)
  case atStart => exact ⟨0, Nat.zero_le _, rfl, Below.refl _ _, by simp⟩
  case round =>
    obtain ⟨k, hk, rfl, hb, hck⟩ := hrel
    have HCK := Lib.hid hck
    clear hck
    by_cases hlt : k < l.length
    · have hAr := hA.below hb
      obtain ⟨ad, rfl, had, c0, c1, c2⟩ := hAr.get k hlt
      have HD := Lib.hid (mdrop_one l k hlt)
      have hz := hb.size
      have HL := Lib.hid (List.getElem?_eq_getElem hlt)
      generalize l[k] = x at *
      obtain ⟨xt, xz, xo⟩ := x
      simp only at c0 c1 c2
      by_cases hx : (Mk.mk xt xz xo).ok
      · obtain ⟨⟨x1, x2⟩, ⟨x3, x4⟩, ⟨x5, x6⟩⟩ := hx
        simp only at x1 x2 x3 x4 x5 x6
        have d0 : decide (0 ≤ xt ∧ xt ≤ 1000000000000) = true := by simp; omega
        have d1 : decide (0 ≤ xz ∧ xz ≤ 1000000000000) = true := by simp; omega
        have d2 : decide (0 ≤ xo ∧ xo ≤ 1000000000) = true := by simp; omega
        have HX := Lib.hid (show (Mk.mk xt xz xo).ok from ⟨⟨x1, x2⟩, ⟨x3, x4⟩, ⟨x5, x6⟩⟩)
        rcases Nat.eq_zero_or_pos k with h0 | h0
        · have hk0 : ¬ (0 < (k : Int)) := by omega
          have hk00 : decide (0 < (k : Int)) = false := by simp; omega
          have hk01 : decide (0 < k) = false := by simp; omega
          have HK := Lib.hid h0
          clear h0
          go_wp2_with (first | (go_at_call 46; refine (upTo_any _ _ _).mono ?_; rintro e w' ⟨rfl, rfl⟩) | fail)
          go_quiet (fail)
          go_wp2_with fail
          go_roundw
          case rel =>
            refine ⟨k + 1, by omega, by go_num, below_draws (hb.alloc hz _) _, ?_⟩
            have := HCK.out
            rw [HD.out, if_pos HK.out, ckL_first _ _ HX.out] at this
            rw [if_neg (by omega), Nat.add_sub_cancel, HL.out, this]
          case measure => simp [intOf]; omega
        · obtain ⟨ad', e', -, b0, b1, -⟩ := hAr.get (k - 1) (by omega)
          obtain rfl : ad = ad' := by injection e'
          have HLP := Lib.hid (List.getElem?_eq_getElem (show k - 1 < l.length by omega))
          have HCK2 : Hid (ckL (some l[k - 1]) (l.drop k) = ckL none l) := by
            have := HCK.out
            rw [if_neg (by omega), List.getElem?_eq_getElem (show k - 1 < l.length by omega)] at this
            exact this
          generalize l[k - 1] = p at *
          obtain ⟨pt, pz, po⟩ := p
          simp only at b0 b1
          have hk0 : (0 < (k : Int)) := by omega
          have hk00 : decide (0 < (k : Int)) = true := by simp; omega
          have hk01 : decide (0 < k) = true := by simp; omega
          have hk1 : (0 : Int) ≤ (k : Int) - 1 := by omega
          have hk2 : (k : Int) - 1 < (l.length : Int) := by omega
          have hk3 : ((k : Int) - 1).toNat = k - 1 := by omega
          have hk4 : (k : Int) < (l.length : Int) := by omega
          have hfin : ∀ h : ¬ (Mk.mk pt pz po).lt (Mk.mk xt xz xo), ckL none l = 8 := fun h => by rw [← HCK2.out, HD.out, ckL_order _ _ _ HX.out h]
          have HF := Lib.hid hfin
          clear hfin e'
          by_cases q1 : xt ≤ pt
          · have t1 : decide (xt ≤ pt) = true := by simpa using q1
            go_wp2_with (first | (go_at_call 46; refine (upTo_any _ _ _).mono ?_; rintro e w' ⟨rfl, rfl⟩) | fail)
            generalize hwn : wr.alloc (.cells #[.int .i64 xt, .int .i64 xz, .int .i64 xo] 36) = wn
            have hbn : Below w.heap.size w wn := by rw [← hwn]; exact hb.alloc hz _
            have e0 : wn.cell? ⟨wr.heap.size, 0, none⟩ = some (.int .i64 xt) := by rw [← hwn]; simp
            have e1 : wn.cell? ⟨wr.heap.size, 1, none⟩ = some (.int .i64 xz) := by rw [← hwn]; simp
            have hAn : Below wr.heap.size wr wn := by rw [← hwn]; exact (Below.refl _ _).alloc (Nat.le_refl _) _
            rw [← hAn.cell (by rw [add_block]; omega)] at b0
            rw [← hAn.cell (by show (ad.add _).block < _; rw [add_block]; omega)] at b1
            clear hwn hAn c0 c1 c2
            go_quiet (fail)
            go_wp2_with fail
            go_ret
            exact ⟨ret_int (HF.out (fun h => by have := h.1; simp only at this; omega)).symm, below_draws hbn _⟩
          · have t1 : decide (xt ≤ pt) = false := by simpa using q1
            by_cases q2 : xz ≤ pz
            · have t2 : decide (xz ≤ pz) = true := by simpa using q2
              go_wp2_with (first | (go_at_call 46; refine (upTo_any _ _ _).mono ?_; rintro e w' ⟨rfl, rfl⟩) | fail)
              generalize hwn : wr.alloc (.cells #[.int .i64 xt, .int .i64 xz, .int .i64 xo] 36) = wn
              have hbn : Below w.heap.size w wn := by rw [← hwn]; exact hb.alloc hz _
              have e0 : wn.cell? ⟨wr.heap.size, 0, none⟩ = some (.int .i64 xt) := by rw [← hwn]; simp
              have e1 : wn.cell? ⟨wr.heap.size, 1, none⟩ = some (.int .i64 xz) := by rw [← hwn]; simp
              have hAn : Below wr.heap.size wr wn := by rw [← hwn]; exact (Below.refl _ _).alloc (Nat.le_refl _) _
              rw [← hAn.cell (by rw [add_block]; omega)] at b0
              rw [← hAn.cell (by show (ad.add _).block < _; rw [add_block]; omega)] at b1
              clear hwn hAn c0 c1 c2
              go_quiet (fail)
              go_wp2_with fail
              go_ret
              exact ⟨ret_int (HF.out (fun h => by have := h.2; simp only at this; omega)).symm, below_draws hbn _⟩
            · have t2 : decide (xz ≤ pz) = false := by simpa using q2
              have HQ := Lib.hid (show (Mk.mk pt pz po).lt (Mk.mk xt xz xo) from ⟨by simp only; omega, by simp only; omega⟩)
              clear HF
              go_wp2_with (first | (go_at_call 46; refine (upTo_any _ _ _).mono ?_; rintro e w' ⟨rfl, rfl⟩) | fail)
              generalize hwn : wr.alloc (.cells #[.int .i64 xt, .int .i64 xz, .int .i64 xo] 36) = wn
              have hbn : Below w.heap.size w wn := by rw [← hwn]; exact hb.alloc hz _
              have e0 : wn.cell? ⟨wr.heap.size, 0, none⟩ = some (.int .i64 xt) := by rw [← hwn]; simp
              have e1 : wn.cell? ⟨wr.heap.size, 1, none⟩ = some (.int .i64 xz) := by rw [← hwn]; simp
              have hAn : Below wr.heap.size wr wn := by rw [← hwn]; exact (Below.refl _ _).alloc (Nat.le_refl _) _
              rw [← hAn.cell (by rw [add_block]; omega)] at b0
              rw [← hAn.cell (by show (ad.add _).block < _; rw [add_block]; omega)] at b1
              clear hwn hAn c0 c1 c2
              go_quiet (fail)
              go_wp2_with fail
              go_roundw
              case rel =>
                refine ⟨k + 1, by omega, by go_num, below_draws hbn _, ?_⟩
                have := HCK2.out
                rw [HD.out, ckL_next _ _ _ HX.out HQ.out] at this
                rw [if_neg (by omega), Nat.add_sub_cancel, HL.out, this]
              case measure => simp [intOf]; omega
      · have HR := Lib.hid (ckL_bad (if k = 0 then none else l[k - 1]?) _ (l.drop (k + 1)) hx)
        by_cases g0 : 0 ≤ xt ∧ xt ≤ 1000000000000
        · have d0 : decide (0 ≤ xt ∧ xt ≤ 1000000000000) = true := by simpa using g0
          obtain ⟨x1, x2⟩ := g0
          by_cases g1 : 0 ≤ xz ∧ xz ≤ 1000000000000
          · have d1 : decide (0 ≤ xz ∧ xz ≤ 1000000000000) = true := by simpa using g1
            obtain ⟨x3, x4⟩ := g1
            have d2 : decide (0 ≤ xo ∧ xo ≤ 1000000000) = false := by
              by_cases g2 : 0 ≤ xo ∧ xo ≤ 1000000000
              · exact absurd ⟨⟨x1, x2⟩, ⟨x3, x4⟩, g2⟩ hx
              · simpa using g2
            clear hx
            go_wp2_with (first | (go_at_call 46; refine (upTo_any _ _ _).mono ?_; rintro e w' ⟨rfl, rfl⟩) | fail)
            go_ret
            exact ⟨ret_int (by rw [← HCK.out, HD.out, HR.out]), hb.alloc hz _⟩
          · have d1 : decide (0 ≤ xz ∧ xz ≤ 1000000000000) = false := by simpa using g1
            clear hx g1
            go_wp2_with (first | (go_at_call 46; refine (upTo_any _ _ _).mono ?_; rintro e w' ⟨rfl, rfl⟩) | fail)
            go_ret
            exact ⟨ret_int (by rw [← HCK.out, HD.out, HR.out]), hb.alloc hz _⟩
        · have d0 : decide (0 ≤ xt ∧ xt ≤ 1000000000000) = false := by simpa using g0
          clear hx g0
          go_wp2_with (first | (go_at_call 46; refine (upTo_any _ _ _).mono ?_; rintro e w' ⟨rfl, rfl⟩) | fail)
          go_ret
          exact ⟨ret_int (by rw [← HCK.out, HD.out, HR.out]), hb.alloc hz _⟩
    · obtain rfl : k = l.length := by omega
      go_wp2_with fail
      go_ret
      refine ⟨ret_int ?_, hb⟩
      have := HCK.out
      rw [List.drop_length] at this
      rw [← this]
      generalize (if l.length = 0 then none else l[l.length - 1]?) = q
      cases q <;> rfl

set_option maxRecDepth 100000 in
set_option maxHeartbeats 2000000 in
theorem rcheckMarks_any (A : Option Addr) (c : Nat) (l : List Mk) (w : World) (hl : l.length ≤ 9223372036854775807) (hA : MR w w.heap.size A l) :
    Calls Try.prog 45 #[.slice A l.length c] w fun e w' => e = .returned (.int .i64 (ckM l)) ∧ Below w.heap.size w w' := by
  by_cases h1 : l.length = 0
  · have hc : ckM l = 9 := by unfold ckM; rw [if_pos h1]
    rw [hc, h1]
    clear hc h1 hA hl
    go_enter Try.func45, Try.ntmps45
    go_wp2
    go_ret
    exact ⟨rfl, Below.refl _ _⟩
  by_cases h2 : 2000 < l.length
  · have hc : ckM l = 2 := by unfold ckM; rw [if_neg h1, if_pos h2]
    have hne : ((l.length : Int) == 0) = false := beq_eq_false_iff_ne.2 (by omega)
    rw [hc]
    clear hc h1
    go_enter Try.func45, Try.ntmps45
    go_wp2
    go_ret
    exact ⟨rfl, Below.refl _ _⟩
  have hc : ckM l = ckL none l := by unfold ckM; rw [if_neg h1, if_neg h2]
  have hne : ((l.length : Int) == 0) = false := beq_eq_false_iff_ne.2 (by omega)
  have h3 : l.length ≤ 2000 := by omega
  rw [hc]
  clear hc h1 h2
  go_enter Try.func45, Try.ntmps45
  go_wp2_with fail
  go_loopw [3] (fun i wr => CkAt l w i wr) (fun i _ => l.length - (intOf i).toNat)
  case atStart => exact ⟨0, Nat.zero_le _, rfl, Below.refl _ _, by simp⟩
  case round =>
    obtain ⟨k, hk, rfl, hb, hck⟩ := hrel
    have HCK := Lib.hid hck
    clear hck
    by_cases hlt : k < l.length
    · have hAr := hA.below hb
      obtain ⟨ad, rfl, had, c0, c1, c2⟩ := hAr.get k hlt
      have HD := Lib.hid (mdrop_one l k hlt)
      have hz := hb.size
      have HL := Lib.hid (List.getElem?_eq_getElem hlt)
      generalize l[k] = x at *
      obtain ⟨xt, xz, xo⟩ := x
      simp only at c0 c1 c2
      by_cases hx : (Mk.mk xt xz xo).ok
      · obtain ⟨⟨x1, x2⟩, ⟨x3, x4⟩, ⟨x5, x6⟩⟩ := hx
        simp only at x1 x2 x3 x4 x5 x6
        have d0 : decide (0 ≤ xt ∧ xt ≤ 1000000000000) = true := by simp; omega
        have d1 : decide (0 ≤ xz ∧ xz ≤ 1000000000000) = true := by simp; omega
        have d2 : decide (0 ≤ xo ∧ xo ≤ 1000000000) = true := by simp; omega
        have HX := Lib.hid (show (Mk.mk xt xz xo).ok from ⟨⟨x1, x2⟩, ⟨x3, x4⟩, ⟨x5, x6⟩⟩)
        rcases Nat.eq_zero_or_pos k with h0 | h0
        · have hk0 : ¬ (0 < (k : Int)) := by omega
          have hk00 : decide (0 < (k : Int)) = false := by simp; omega
          have hk01 : decide (0 < k) = false := by simp; omega
          have HK := Lib.hid h0
          clear h0
          go_wp2_with (first | (go_at_call 48; refine (within_any _ _ _ _).mono ?_; rintro e w' ⟨rfl, rfl⟩) | fail)
          go_quiet (fail)
          go_wp2_with fail
          go_roundw
          case rel =>
            refine ⟨k + 1, by omega, by go_num, below_draws (hb) _, ?_⟩
            have := HCK.out
            rw [HD.out, if_pos HK.out, ckL_first _ _ HX.out] at this
            rw [if_neg (by omega), Nat.add_sub_cancel, HL.out, this]
          case measure => simp [intOf]; omega
        · obtain ⟨ad', e', -, b0, b1, -⟩ := hAr.get (k - 1) (by omega)
          obtain rfl : ad = ad' := by injection e'
          have HLP := Lib.hid (List.getElem?_eq_getElem (show k - 1 < l.length by omega))
          have HCK2 : Hid (ckL (some l[k - 1]) (l.drop k) = ckL none l) := by
            have := HCK.out
            rw [if_neg (by omega), List.getElem?_eq_getElem (show k - 1 < l.length by omega)] at this
            exact this
          generalize l[k - 1] = p at *
          obtain ⟨pt, pz, po⟩ := p
          simp only at b0 b1
          have hk0 : (0 < (k : Int)) := by omega
          have hk00 : decide (0 < (k : Int)) = true := by simp; omega
          have hk01 : decide (0 < k) = true := by simp; omega
          have hk1 : (0 : Int) ≤ (k : Int) - 1 := by omega
          have hk2 : (k : Int) - 1 < (l.length : Int) := by omega
          have hk3 : ((k : Int) - 1).toNat = k - 1 := by omega
          have hk4 : (k : Int) < (l.length : Int) := by omega
          have hfin : ∀ h : ¬ (Mk.mk pt pz po).lt (Mk.mk xt xz xo), ckL none l = 8 := fun h => by rw [← HCK2.out, HD.out, ckL_order _ _ _ HX.out h]
          have HF := Lib.hid hfin
          clear hfin e'
          by_cases q1 : xt ≤ pt
          · have t1 : decide (xt ≤ pt) = true := by simpa using q1
            go_wp2_with (first | (go_at_call 48; refine (within_any _ _ _ _).mono ?_; rintro e w' ⟨rfl, rfl⟩) | fail)
            go_quiet (fail)
            go_wp2_with fail
            go_ret
            exact ⟨ret_int (HF.out (fun h => by have := h.1; simp only at this; omega)).symm, below_draws (hb) _⟩
          · have t1 : decide (xt ≤ pt) = false := by simpa using q1
            by_cases q2 : xz ≤ pz
            · have t2 : decide (xz ≤ pz) = true := by simpa using q2
              go_wp2_with (first | (go_at_call 48; refine (within_any _ _ _ _).mono ?_; rintro e w' ⟨rfl, rfl⟩) | fail)
              go_quiet (fail)
              go_wp2_with fail
              go_ret
              exact ⟨ret_int (HF.out (fun h => by have := h.2; simp only at this; omega)).symm, below_draws (hb) _⟩
            · have t2 : decide (xz ≤ pz) = false := by simpa using q2
              have HQ := Lib.hid (show (Mk.mk pt pz po).lt (Mk.mk xt xz xo) from ⟨by simp only; omega, by simp only; omega⟩)
              clear HF
              go_wp2_with (first | (go_at_call 48; refine (within_any _ _ _ _).mono ?_; rintro e w' ⟨rfl, rfl⟩) | fail)
              go_quiet (fail)
              go_wp2_with fail
              go_roundw
              case rel =>
                refine ⟨k + 1, by omega, by go_num, below_draws (hb) _, ?_⟩
                have := HCK2.out
                rw [HD.out, ckL_next _ _ _ HX.out HQ.out] at this
                rw [if_neg (by omega), Nat.add_sub_cancel, HL.out, this]
              case measure => simp [intOf]; omega
      · have HR := Lib.hid (ckL_bad (if k = 0 then none else l[k - 1]?) _ (l.drop (k + 1)) hx)
        by_cases g0 : 0 ≤ xt ∧ xt ≤ 1000000000000
        · have d0 : decide (0 ≤ xt ∧ xt ≤ 1000000000000) = true := by simpa using g0
          obtain ⟨x1, x2⟩ := g0
          by_cases g1 : 0 ≤ xz ∧ xz ≤ 1000000000000
          · have d1 : decide (0 ≤ xz ∧ xz ≤ 1000000000000) = true := by simpa using g1
            obtain ⟨x3, x4⟩ := g1
            have d2 : decide (0 ≤ xo ∧ xo ≤ 1000000000) = false := by
              by_cases g2 : 0 ≤ xo ∧ xo ≤ 1000000000
              · exact absurd ⟨⟨x1, x2⟩, ⟨x3, x4⟩, g2⟩ hx
              · simpa using g2
            clear hx
            go_wp2_with (first | (go_at_call 48; refine (within_any _ _ _ _).mono ?_; rintro e w' ⟨rfl, rfl⟩) | fail)
            go_ret
            exact ⟨ret_int (by rw [← HCK.out, HD.out, HR.out]), hb⟩
          · have d1 : decide (0 ≤ xz ∧ xz ≤ 1000000000000) = false := by simpa using g1
            clear hx g1
            go_wp2_with (first | (go_at_call 48; refine (within_any _ _ _ _).mono ?_; rintro e w' ⟨rfl, rfl⟩) | fail)
            go_ret
            exact ⟨ret_int (by rw [← HCK.out, HD.out, HR.out]), hb⟩
        · have d0 : decide (0 ≤ xt ∧ xt ≤ 1000000000000) = false := by simpa using g0
          clear hx g0
          go_wp2_with (first | (go_at_call 48; refine (within_any _ _ _ _).mono ?_; rintro e w' ⟨rfl, rfl⟩) | fail)
          go_ret
          exact ⟨ret_int (by rw [← HCK.out, HD.out, HR.out]), hb⟩
    · obtain rfl : k = l.length := by omega
      go_wp2_with fail
      go_ret
      refine ⟨ret_int ?_, hb⟩
      have := HCK.out
      rw [List.drop_length] at this
      rw [← this]
      generalize (if l.length = 0 then none else l[l.length - 1]?) = q
      cases q <;> rfl
end Go.Proofs.Ytpccpkjfnmclfaa
