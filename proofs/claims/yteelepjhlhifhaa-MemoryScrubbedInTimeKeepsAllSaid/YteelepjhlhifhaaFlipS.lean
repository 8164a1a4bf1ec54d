/- the walk of the scrubber's flip. -/
import Derived.Test.YteelepjhlhifhaaScrub
import Derived.Test.YteelepjhlhifhaaFlipW
namespace Go.Proofs.Yteelepjhlhifhaa
open Go.RowKit
attribute [local go_sem] setCell_draws alloc_draws

theorem heldF3 (w : World) (x y z : Value) : (w.alloc (.cells #[x, y, z] 66)).cell? ⟨w.heap.size, 0, none⟩ = some x ∧ (w.alloc (.cells #[x, y, z] 66)).cell? ⟨w.heap.size, 1, none⟩ = some y ∧ (w.alloc (.cells #[x, y, z] 66)).cell? ⟨w.heap.size, 2, none⟩ = some z := by simp
theorem FR.head {w : World} {B : Nat} {A : Option Addr} {x : Flp} {l : List Flp} (h : FR w B A (x :: l)) :
    ∃ ad, A = some ad ∧ ad.block < B ∧ w.cell? ad = some (.int .i64 x.t) ∧ w.cell? ⟨ad.block, ad.off + 1, none⟩ = some (.int .i64 x.p) ∧ w.cell? ⟨ad.block, ad.off + 2, none⟩ = some (.int .i64 x.b) ∧ FR w B (some (ad.add 3)) l := by
  obtain ⟨ad, e, hb, c0, c1, c2⟩ := h.get 0 (by simp)
  have e0 : ad.add (0 * 3) = ad := by simp [Addr.add]
  rw [e0] at c0 c1 c2
  refine ⟨ad, e, hb, c0, c1, c2, ?_⟩
  cases l with
  | nil => exact .inl (by simp [fcells])
  | cons y l =>
    have hh : Cells w B A (fcells (x :: y :: l)) := h
    obtain ⟨ad', e', hc⟩ := hh.tail 3 (by rw [fcells_len]; simp <;> omega)
    obtain rfl : ad = ad' := by rw [e] at e'; injection e'
    exact hc
set_option maxRecDepth 100000 in
set_option maxHeartbeats 2000000 in
theorem flipS_any (P g n cap X : Nat) (C : List Nat) (x0 : Nat) (D : List Scr) (w0 w : World) (Af : Option Addr) (cf : Nat) (f : List Flp) (u : Int) (B : Nat) (hXg : X ≠ g) (hXw : X < w0.heap.size) (hB : B ≤ g) (hgP : g < P) (hf2 : f.length ≤ 2000) (hcf : f.length ≤ cf) (hcf2 : cf ≤ maxLen)
    (hs : (⟨C, x0, D⟩ : St).ok n) (hok : ∀ x ∈ f, x.ok n) (hFR : FR w0 B Af f) (hat : ScrubAt P g n cap X ⟨C, x0, D⟩ w0 w) :
    Calls Try.prog 104 #[.pointer (some ⟨P, 0, none⟩), .slice Af f.length cf, .int .i64 u] w fun e w' =>
      ∃ A' c', e = .returned (.slice A' (flipU u C f).2.length c') ∧ FR w0 B A' (flipU u C f).2 ∧ (flipU u C f).2.length ≤ 2000 ∧ (flipU u C f).2.length ≤ c' ∧ c' ≤ maxLen ∧ ScrubAt P g n cap X ⟨(flipU u C f).1, x0, D⟩ w0 w' := by
  obtain ⟨U, hU⟩ : ∃ U, flipU u C f = U := ⟨_, rfl⟩
  rw [hU]
  go_enter Try.func104, Try.ntmps104
  go_wp2_with fail
  go_loopw [1, 7] (fun v _ wr => ∃ (C1 : List Nat) (f1 : List Flp) (A1 : Option Addr) (k1 : Nat), v = .slice A1 f1.length k1 ∧ f1.length ≤ 2000 ∧ f1.length ≤ k1 ∧ k1 ≤ maxLen ∧ (⟨C1, x0, D⟩ : St).ok n ∧ (∀ x ∈ f1, x.ok n) ∧ FR w0 B A1 f1 ∧ ScrubAt P g n cap X ⟨C1, x0, D⟩ w0 wr ∧ flipU u C1 f1 = U) (fun v _ _ => match v with | .slice _ m _ => m | _ => 0)
  case atStart => exact ⟨C, f, Af, cf, rfl, hf2, hcf, hcf2, hs, hok, hFR, hat, hU⟩
  case round =>
    obtain ⟨C1, f1, A1, k1, rfl, hl1, hk1, hkm, hs1, hok1, hF1, hat1, hU1⟩ := hrel
    cases f1 with
    | nil =>
      simp only [List.length_nil]
      simp only [flipU] at hU1
      go_wp2_with fail
      go_ret
      rw [← hU1]
      exact ⟨A1, k1, rfl, .inl (by simp [fcells]), by simp, by simp, hkm, hat1⟩
    | cons y f2 =>
      obtain ⟨ad, rfl, had, d0, d1, d2, hF2⟩ := hF1.head
      obtain ⟨dv, hS, hR, hO, hK, hN1, hH⟩ := hat1
      have hXl : X < wr.heap.size := Nat.lt_of_lt_of_le hXw hK.size
      have bK := (hK.to (by omega)).mono hB
      have c0 := (bK.cell (p := ad) had).trans d0
      have c1 := (bK.cell (p := ⟨ad.block, ad.off + 1, none⟩) had).trans d1
      have c2 := (bK.cell (p := ⟨ad.block, ad.off + 2, none⟩) had).trans d2
      have hyo := hok1 y (by simp)
      by_cases ht : y.t ≤ u
      · have hU2 : flipU u (flipC C1 y) f2 = U := by rw [← hU1]; simp [flipU, ht]
        have HU2 := Lib.hid hU2
        have HS2 := Lib.hid (flipC_ok hs1 hyo)
        have HOK2 := Lib.hid (fun x (hx : x ∈ f2) => hok1 x (by simp [hx]))
        obtain ⟨-, hyp, hyb⟩ := hyo
        obtain ⟨p, hp⟩ : ∃ p : Nat, y.p = (p : Int) := ⟨y.p.toNat, by omega⟩
        obtain ⟨b, hb⟩ : ∃ b : Nat, y.b = (b : Int) + 1 := ⟨(y.b - 1).toNat, by omega⟩
        have hlen := hs1.len
        simp only at hlen
        have hpl : p < C1.length := by omega
        have hcl := hs1.codes p hpl
        simp only at hcl
        have hcell := hR.cell p (by rw [ints_len]; exact hpl)
        rw [ints_get C1 p hpl] at hcell
        have hfree := hR.free p
        have hhS := hS
        obtain ⟨s0, s1, s2⟩ := hS.cells
        have hPl := hS.lt
        have hgl := hR.lt
        obtain ⟨m, hm⟩ : ∃ m, (y :: f2).length = m := ⟨_, rfl⟩
        have hm1 : m = f2.length + 1 := by rw [← hm]; simp
        rw [hm]
        have HM := Lib.hid hm1
        have hm0 : (0 : Int) < (m : Int) := by omega
        have hm2 : (1 : Int) ≤ (m : Int) := by omega
        have hm3 : 1 ≤ m := by omega
        have hmk : m ≤ k1 := by omega
        have hmm : m ≤ 2000 := by omega
        have hC2 : Hid (C1.set p (C1[p] ^^^ 2 ^ b) = flipC C1 y) := Lib.hid (by
          unfold flipC
          rw [hp, hb, Int.toNat_natCast, show ((b : Int) + 1).toNat - 1 = b by omega]
          simp [List.getD, hpl])
        have hb21 : b < 22 := by omega
        clear hm hm1 hU1 hU2 hok1 hl1 hk1
        rw [hp] at c1
        rw [hb] at c2
        have hp0 : (0 : Int) ≤ (p : Int) := Int.natCast_nonneg _
        have hp1 : (p : Int) < (n : Int) := by omega
        generalize C1[p] = q at *
        have HFL := Lib.hid (flipped_any q b hcl hb21 ((b : Int) + 1) (Lib.hid rfl))
        generalize y.t = yt at *
        clear hp hb hyp hyb d0 d1 d2
        go_wp2_with fail
        generalize hwx : wr.alloc (.cells #[.int .i64 yt, .int .i64 (p : Int), .int .i64 ((b : Int) + 1)] 66) = wx
        refine wp_region_still_tail 18 (by kernel_rfl) (by kernel_rfl) ?_
        simp only [List.take_succ_cons, List.take_zero, List.drop_succ_cons, List.drop_zero]
        generalize hwd : ({ wx with drawn := wx.drawn + 1 } : World) = wd
        have hbd : Below wr.heap.size wr wd := by rw [← hwd, ← hwx]; exact (box_below _ _).drew
        have n1 : wd.cell? ⟨wr.heap.size, 1, none⟩ = some (.int .i64 (p : Int)) := by rw [← hwd, ← hwx]; exact (heldF3 wr _ _ _).2.1
        have n2 : wd.cell? ⟨wr.heap.size, 2, none⟩ = some (.int .i64 ((b : Int) + 1)) := by rw [← hwd, ← hwx]; exact (heldF3 wr _ _ _).2.2
        have hSd := hS.below hbd hPl
        have hRd := hR.below hbd hgl
        have hOd : OwnS wd (P + 1) dv D := hO.same fun j _ hj => hbd.block j hj
        have hKd : Kept P g w0 wd := hK.trans (Kept.of (hbd.mono (by omega)))
        have hHd : wd.heap[X]? = w0.heap[X]? := (hbd.block X hXl).trans hH
        obtain ⟨s0, s1, s2⟩ := hSd.cells
        have m1 := (Below.at_ hbd g hgl p).trans hcell
        have m2 := hRd.free p
        clear hwd hwx hcell hfree hS hR hO hK hhS c0 c1 c2
        repeat still_step
        still_call ((HFL.out wd).mono fun e w' ⟨h1, h2⟩ => ⟨h1, h2.symm⟩)
        repeat still_step
        refine wpStill_nil ?_
        go_wp2_with fail
        have hRn := hRd.set p ((q ^^^ 2 ^ b : Nat) : Int)
        rw [ints_set, hC2.out] at hRn
        have hml := HM.out
        refine ⟨⟨flipC C1 y, f2, if k1 = 1 then some ad else some ⟨ad.block, ad.off + 3, none⟩, k1 - 1, by rw [show f2.length = m - 1 by omega], by omega, by omega, by omega, HS2.out, HOK2.out, ?_, ⟨dv, hSd.other (by omega), hRn, hOd.other (by omega), hKd.setG, hN1, (Below.heap_setCell _ ⟨g, p, none⟩ _ X hXg).trans hHd⟩, HU2.out⟩, ?_⟩
        · split
          · have e : f2 = [] := List.eq_nil_of_length_eq_zero (by omega)
            exact .inl (by rw [e]; rfl)
          · have e : ad.add 3 = ⟨ad.block, ad.off + 3, none⟩ := by simp [Addr.add]
            rw [← e]
            exact hF2
        · show m - 1 < m
          omega
      · have hU2 : U = (C1, y :: f2) := by rw [← hU1]; simp [flipU, ht]
        obtain ⟨m, hm⟩ : ∃ m, (y :: f2).length = m := ⟨_, rfl⟩
        have hm1 : m = f2.length + 1 := by rw [← hm]; simp
        have HF1 := Lib.hid hF1
        have HL1 := Lib.hid hl1
        have HK1 := Lib.hid hk1
        have HU2 := Lib.hid hU2
        rw [hm]
        rw [hm] at hl1 hk1
        have HM := Lib.hid hm
        have hm0 : (0 : Int) < (m : Int) := by omega
        have hm3 : 0 < m := by omega
        clear hm hm1 hU1 hU2 hok1 hF1 hyo d0 d1 d2 hF2
        generalize hyt : y.t = yt at *
        clear hyt
        go_wp2_with fail
        go_ret
        rw [HU2.out]
        exact ⟨some ad, k1, (by rw [HM.out]; rfl), HF1.out, HL1.out, HK1.out, hkm, dv, hS, hR, hO, hK, hN1, hH⟩
end Go.Proofs.Yteelepjhlhifhaa
