/- words for rows of flips; both CheckFlips. -/
import Derived.Test.YteelepjhlhifhaaFlipMath
import Derived.Test.YteelepjhlhifhaaPlaces
import Derived.Test.YteelepjhlhifhaaScrubW
namespace Go.Proofs.Yteelepjhlhifhaa
open Go.RowKit

def Flp.cells (x : Flp) : List Value := [.int .i64 x.t, .int .i64 x.p, .int .i64 x.b]
def fcells (l : List Flp) : List Value := l.flatMap Flp.cells
theorem fcells_len (l : List Flp) : (fcells l).length = l.length * 3 := by
  induction l with
  | nil => rfl
  | cons x l ih => simp only [fcells, List.flatMap_cons, List.length_append] at ih ⊢; rw [ih]; simp [Flp.cells]; omega
theorem fcells_get : ∀ (l : List Flp) (k j : Nat) (hk : k < l.length) (_ : j < 3), (fcells l)[k * 3 + j]? = (l[k].cells)[j]?
  | x :: l, 0, j, hk, hj => by
    simp only [fcells, List.flatMap_cons, List.getElem_cons_zero, Nat.zero_mul, Nat.zero_add]
    rw [List.getElem?_append_left (by simp [Flp.cells]; omega)]
  | x :: l, k + 1, j, hk, hj => by
    have := fcells_get l k j (by simpa using hk) hj
    simp only [fcells, List.flatMap_cons, List.getElem_cons_succ] at this ⊢
    rw [List.getElem?_append_right (by simp [Flp.cells]; omega), ← this]
    congr 1
    simp [Flp.cells]
    omega
/-- at A, below block B, lie the flips l -/
def FR (w : World) (B : Nat) (A : Option Addr) (l : List Flp) : Prop := Cells w B A (fcells l)
theorem FR.below {w w' : World} {B : Nat} {A : Option Addr} {l : List Flp} (h : FR w B A l) (hb : Below B w w') : FR w' B A l := Cells.below h hb
theorem FR.lift {w : World} {B B' : Nat} {A : Option Addr} {l : List Flp} (h : FR w B A l) (hb : B ≤ B') : FR w B' A l := Cells.lift h hb
theorem add_lit3 (a : Addr) (n j : Nat) (hj : 0 < j) : a.add (n + j) = ⟨(a.add n).block, (a.add n).off + j, none⟩ := by
  rw [← add_twice]
  simp [Addr.add, Nat.pos_iff_ne_zero.1 hj]
theorem FR.get {w : World} {B : Nat} {A : Option Addr} {l : List Flp} (h : FR w B A l) (k : Nat) (hk : k < l.length) :
    ∃ ad, A = some ad ∧ ad.block < B ∧ w.cell? (ad.add (k * 3)) = some (.int .i64 l[k].t) ∧ w.cell? ⟨(ad.add (k * 3)).block, (ad.add (k * 3)).off + 1, none⟩ = some (.int .i64 l[k].p) ∧ w.cell? ⟨(ad.add (k * 3)).block, (ad.add (k * 3)).off + 2, none⟩ = some (.int .i64 l[k].b) := by
  rcases h with e | ⟨ad, e, hb, hc⟩
  · have := fcells_len l
    rw [e] at this
    simp at this
    omega
  · refine ⟨ad, e, hb, hc _ _ (fcells_get l k 0 hk (by omega)), ?_, ?_⟩
    · rw [← add_lit3 ad (k * 3) 1 (by omega)]
      exact hc _ _ (fcells_get l k 1 hk (by omega))
    · rw [← add_lit3 ad (k * 3) 2 (by omega)]
      exact hc _ _ (fcells_get l k 2 hk (by omega))
theorem flips_step (n : Nat) (u : Int) (f : List Flp) (k : Nat) (hk : k < f.length) : flipsF n u (f.drop k) = if 0 ≤ f[k].t ∧ f[k].t ≤ 1000000000000 then (if 0 ≤ f[k].p ∧ f[k].p ≤ (n : Int) - 1 then (if 1 ≤ f[k].b ∧ f[k].b ≤ 22 then (if f[k].t < u then 8 else flipsF n f[k].t (f.drop (k + 1))) else 1) else 9) else 1 := by
  rw [List.drop_eq_getElem_cons hk]
  rfl
set_option maxRecDepth 100000 in
set_option maxHeartbeats 2000000 in
theorem checkFlips_any (A A' Af : Option Addr) (c c' cf : Nat) (l l' : List Int) (f : List Flp) (B : Nat) (w : World) (hB : B ≤ w.heap.size) (hl : l.length ≤ 9223372036854775807) (hl' : l'.length ≤ 9223372036854775807) (hfl : f.length ≤ 9223372036854775807) (h : IR w B A l) (h' : IR w B A' l') (hf : FR w B Af f) :
    Calls Try.prog 103 #[bankV A A' l.length l'.length c c', .slice Af f.length cf] w fun e w' => e = .returned (.int .i64 (chkF l l' f)) ∧ Below w.heap.size w w' := by
  have HC := Lib.hid (fun (w1 : World) (hb : Below w.heap.size w w1) => checkBank_any A A' c c' l l' B w1 (Nat.le_trans hB hb.size) hl hl' (h.below (hb.mono hB)) (h'.below (hb.mono hB)))
  have HR := Lib.hid (show chkF l l' f = if chkB l l' = 0 then (if 2000 < f.length then 2 else flipsF l.length 0 f) else chkB l l' from rfl)
  have hpos := fun q => (chk_right (l := l) (l' := l') q).pos
  have hfew := fun q => (chk_right (l := l) (l' := l') q).few
  generalize chkF l l' f = R at *
  generalize chkB l l' = K at *
  have hb0 := box_below (.cells #[.slice A l.length c, .slice A' l'.length c'] 52) w
  have h0 := HeldB.new w (.slice A l.length c) (.slice A' l'.length c')
  have HCC := Lib.hid (HC.out _ hb0)
  unfold bankV at *
  obtain ⟨w0, hw0⟩ : ∃ w0, w.alloc (.cells #[.slice A l.length c, .slice A' l'.length c'] 52) = w0 := ⟨_, rfl⟩
  rw [hw0] at hb0 h0 HCC
  have z0 : w0.heap.size = w.heap.size + 1 := by rw [← hw0]; simp
  obtain ⟨p1, p2⟩ := h0.cells
  clear HC
  by_cases hK : K = 0
  · subst hK
    have hfe := hfew rfl
    have hpo := hpos rfl
    clear hfew hpos
    by_cases h2 : 2000 < f.length
    · have HR2 : Hid (R = 2) := Lib.hid (by have := HR.out; rw [if_pos rfl, if_pos h2] at this; exact this)
      go_enter Try.func103, Try.ntmps103
      go_wp2_with fail
      refine HCC.out.mono ?_
      rintro e w1 ⟨rfl, hb1⟩
      have bx := hb0.trans (hb1.mono (by omega))
      go_wp2_with fail
      go_ret
      exact ⟨ret_int HR2.out.symm, bx⟩
    · have HR2 : Hid (R = flipsF l.length 0 f) := Lib.hid (by have := HR.out; rw [if_pos rfl, if_neg h2] at this; exact this)
      clear HR
      have h2' : f.length ≤ 2000 := by omega
      go_enter Try.func103, Try.ntmps103
      go_wp2_with fail
      refine HCC.out.mono ?_
      rintro e w1 ⟨rfl, hb1⟩
      have bx := hb0.trans (hb1.mono (by omega))
      have h1 := h0.below hb1 (by omega)
      clear hw0 p1 p2 HCC
      go_wp2_with fail
      go_loopw [6, 8, 19] (fun u _ i wr => ∃ (k : Nat) (v : Int), k ≤ f.length ∧ i = .int .i64 (k : Int) ∧ u = .int .i64 v ∧ Below w1.heap.size w1 wr ∧ flipsF l.length v (f.drop k) = flipsF l.length 0 f) (fun _ _ i _ => f.length - (intOf i).toNat)
      case atStart => exact ⟨0, 0, Nat.zero_le _, rfl, rfl, Below.refl _ _, rfl⟩
      case round =>
        obtain ⟨k, v, hk, rfl, rfl, hb, hstep⟩ := hrel
        have hs1 := hb1.size
        have bxr := bx.trans (hb.mono (by omega))
        have hsr := hb.size
        by_cases hlt : k < f.length
        · obtain ⟨ad, hA, had, d0, d1, d2⟩ := (hf.below (bxr.mono hB)).get k hlt
          have HS := Lib.hid (flips_step l.length v f k hlt)
          have hk0 : (0 : Int) ≤ (k : Int) := Int.natCast_nonneg _
          have hk1 : (k : Int) < (f.length : Int) := by omega
          rw [hstep] at HS
          generalize f[k] = x at *
          obtain ⟨xt, xp, xb⟩ := x
          simp only at d0 d1 d2 HS
          subst hA
          obtain ⟨p1, p2⟩ := (h1.below hb (by omega)).cells
          have hbn := bxr.trans ((box_below (.cells #[.int .i64 xt, .int .i64 xp, .int .i64 xb] 66) wr).mono (by omega))
          have hbn2 := hb.trans ((box_below (.cells #[.int .i64 xt, .int .i64 xp, .int .i64 xb] 66) wr).mono (by omega))
          have hold : w.heap.size < wr.heap.size := by omega
          have hold2 : (ad.add (k * 3)).block < wr.heap.size := by rw [add_block]; omega
          clear hstep
          by_cases t1 : 0 ≤ xt ∧ xt ≤ 1000000000000
          · have g1 : decide (0 ≤ xt ∧ xt ≤ 1000000000000) = true := by simp only [t1, decide_true, and_self]
            by_cases t2 : 0 ≤ xp ∧ xp ≤ (l.length : Int) - 1
            · have g2 : decide (0 ≤ xp ∧ xp ≤ (l.length : Int) - 1) = true := by simp only [t2, decide_true, and_self]
              by_cases t3 : 1 ≤ xb ∧ xb ≤ 22
              · have g3 : decide (1 ≤ xb ∧ xb ≤ 22) = true := by simp only [t3, decide_true, and_self]
                by_cases t4 : xt < v
                · have HR3 : Hid (R = 8) := Lib.hid (by have := HS.out; rw [if_pos t1, if_pos t2, if_pos t3, if_pos t4] at this; rw [HR2.out, this])
                  clear t1 t2 t3
                  go_wp2_with (first | (go_at_call 67; refine (within_any _ _ _ _).mono ?_; rintro e w' ⟨rfl, rfl⟩) | (go_at_call 114; refine (isBit_any _ _).mono ?_; rintro e w' ⟨rfl, rfl⟩) | fail)
                  go_ret
                  exact ⟨ret_int HR3.out.symm, hbn⟩
                · have HR3 : Hid (flipsF l.length xt (f.drop (k + 1)) = flipsF l.length 0 f) := Lib.hid (by have := HS.out; rw [if_pos t1, if_pos t2, if_pos t3, if_neg t4] at this; exact this.symm)
                  clear t1 t2 t3
                  go_wp2_with (first | (go_at_call 67; refine (within_any _ _ _ _).mono ?_; rintro e w' ⟨rfl, rfl⟩) | (go_at_call 114; refine (isBit_any _ _).mono ?_; rintro e w' ⟨rfl, rfl⟩) | fail)
                  exact ⟨⟨k + 1, xt, by omega, by go_num, rfl, hbn2, HR3.out⟩, by simp [intOf]; omega⟩
              · have g3 : decide (1 ≤ xb ∧ xb ≤ 22) = false := by simp; omega
                have HR3 : Hid (R = 1) := Lib.hid (by have := HS.out; rw [if_pos t1, if_pos t2, if_neg t3] at this; rw [HR2.out, this])
                clear t1 t2 t3
                go_wp2_with (first | (go_at_call 67; refine (within_any _ _ _ _).mono ?_; rintro e w' ⟨rfl, rfl⟩) | (go_at_call 114; refine (isBit_any _ _).mono ?_; rintro e w' ⟨rfl, rfl⟩) | fail)
                go_ret
                exact ⟨ret_int HR3.out.symm, hbn⟩
            · have g2 : decide (0 ≤ xp ∧ xp ≤ (l.length : Int) - 1) = false := by simp; omega
              have HR3 : Hid (R = 9) := Lib.hid (by have := HS.out; rw [if_pos t1, if_neg t2] at this; rw [HR2.out, this])
              clear t1 t2
              go_wp2_with (first | (go_at_call 67; refine (within_any _ _ _ _).mono ?_; rintro e w' ⟨rfl, rfl⟩) | fail)
              go_ret
              exact ⟨ret_int HR3.out.symm, hbn⟩
          · have g1 : decide (0 ≤ xt ∧ xt ≤ 1000000000000) = false := by simp; omega
            have HR3 : Hid (R = 1) := Lib.hid (by have := HS.out; rw [if_neg t1] at this; rw [HR2.out, this])
            clear t1
            go_wp2_with (first | (go_at_call 67; refine (within_any _ _ _ _).mono ?_; rintro e w' ⟨rfl, rfl⟩) | fail)
            go_ret
            exact ⟨ret_int HR3.out.symm, hbn⟩
        · obtain rfl : k = f.length := by omega
          have HR3 : Hid (R = 0) := Lib.hid (by rw [HR2.out, ← hstep, List.drop_length]; rfl)
          clear hstep
          go_wp2_with fail
          go_ret
          exact ⟨ret_int HR3.out.symm, bxr⟩
  · have HR2 : Hid (R = K) := Lib.hid (by have := HR.out; rw [if_neg hK] at this; exact this)
    have hne : (K != 0) = true := by simpa using hK
    clear hpos hfew hK
    go_enter Try.func103, Try.ntmps103
    go_wp2_with fail
    refine HCC.out.mono ?_
    rintro e w1 ⟨rfl, hb1⟩
    have bx := hb0.trans (hb1.mono (by omega))
    go_wp2_with fail
    go_ret
    exact ⟨ret_int HR2.out.symm, bx⟩
end Go.Proofs.Yteelepjhlhifhaa
