/- a page read, by the reference. -/
import Derived.Test.YthcijelebjgfkaaPgDec2
import Derived.Test.YthcijelebjgfkaaREncA
import Derived.Deep.RegionHeld3
import Derived.Deep.RegionLaw
import Derived.Deep.Cut
import Derived.Deep.DeepCutAuto
namespace Go.Proofs.Ythcijelebjgfkaa
open Go.RowKit

theorem Below.alloc' {B : Nat} {a w : World} (hB : B ≤ a.heap.size) (h : Below B a w) (o : Obj) : Below B a (w.alloc o) := h.alloc (Nat.le_trans hB h.size) o
theorem BoxP.set6 {w : World} {P : Nat} {v0 v1 v2 v3 v4 v5 : Value} (h : BoxP w P v0 v1 v2 v3 v4 v5) (u0 u1 u2 u3 u4 u5 : Value) :
    BoxP ((((((w.setCell ⟨P, 0, none⟩ u0).setCell ⟨P, 1, none⟩ u1).setCell ⟨P, 2, none⟩ u2).setCell ⟨P, 3, none⟩ u3).setCell ⟨P, 4, none⟩ u4).setCell ⟨P, 5, none⟩ u5) P u0 u1 u2 u3 u4 u5 := by
  have one : ∀ (W : World) (C : Array Value) (k : Nat) (u : Value), W.heap[P]? = some (.cells C 40 (0, 0)) → (W.setCell ⟨P, k, none⟩ u).heap[P]? = some (.cells (C.setIfInBounds k u) 40 (0, 0)) := by
    intro W C k u hW
    have hlt := (Array.getElem?_eq_some_iff.1 hW).1
    have h' : W.heap[P] = .cells C 40 (0, 0) := by simpa [Array.getElem?_eq_getElem hlt] using hW
    simp only [World.setCell]
    rw [Array.getElem?_modify, if_pos rfl, Array.getElem?_eq_getElem hlt, h']
    simp
  have := one _ _ 5 u5 (one _ _ 4 u4 (one _ _ 3 u3 (one _ _ 2 u2 (one _ _ 1 u1 (one _ _ 0 u0 h)))))
  exact this
theorem wholeB_parts {l : List UInt8} : wholeB l = true ↔ (12 + gName l + gMany l + 3 ≤ l.length ∧ encF l.length (guessP l) = 0 ∧ pgB l.length (guessP l) = l) := by
  unfold wholeB
  simp only [Bool.and_eq_true, decide_eq_true_eq]
/-- what reading a page answers, with bytes of its own -/
def RdPost (l : List UInt8) (w : World) (e : Ending) (w' : World) : Prop :=
  ∃ A c, e = .returned (.tuple #[.int .i64 (decS l).1, pgV (decS l).2 A c]) ∧ Own w' w.heap.size (.slice A (decS l).2.bytes.length c) (decS l).2.bytes ∧ Below w.heap.size w w'
theorem ownd {w : World} {base : Nat} {v : Value} {l : List UInt8} (h : Own w base v l) : Own w.drew base v l := h
theorem BoxP.set5 {w : World} {P : Nat} {v0 v1 v2 v3 v4 v5 : Value} (h : BoxP w P v0 v1 v2 v3 v4 v5) (u : Value) : BoxP (w.setCell ⟨P, 5, none⟩ u) P v0 v1 v2 v3 v4 u := by
  have hlt := h.lt
  unfold BoxP at h
  have h' : w.heap[P] = .cells #[v0, v1, v2, v3, v4, v5] 40 (0, 0) := by simpa [Array.getElem?_eq_getElem hlt] using h
  unfold BoxP
  simp only [World.setCell]
  rw [Array.getElem?_modify, if_pos rfl, Array.getElem?_eq_getElem hlt, h']
  rfl
theorem BoxP.other {w : World} {P g k : Nat} {v0 v1 v2 v3 v4 v5 u : Value} (h : BoxP w P v0 v1 v2 v3 v4 v5) (hne : P ≠ g) : BoxP (w.setCell ⟨g, k, none⟩ u) P v0 v1 v2 v3 v4 v5 := (Below.heap_setCell w ⟨g, k, none⟩ u P hne).trans h
theorem rd_bad {l : List UInt8} {S : Int} {w w' : World} (hD : Hid (decS l = (S, Pg.zero))) (hb : Below w.heap.size w w') :
    RdPost l w (.returned (.tuple #[.int .i64 S, .agg #[.int .i64 0, .bool false, .string ⟨#[]⟩, .int .i64 0, .bool false, .slice none 0 0]])) w' :=
  ⟨none, 0, by rw [hD.out]; rfl, by rw [hD.out]; exact Own.nil _ _, hb⟩
theorem rd_fin {l : List UInt8} {S gen ix : Int} {gone last : Bool} {nm : ByteArray} {b : List UInt8} {w w4 : World} {A4 : Option Addr} {c4 base n : Nat} (hD : decS l = (S, ⟨gen, gone, nm, ix, last, b⟩)) (hn : b.length = n) (ho : Own w4 base (.slice A4 n c4) b) (h1 : w.heap.size < base) (hb : Below w.heap.size w w4) :
    RdPost l w (.returned (.tuple #[.int .i64 S, .agg #[.int .i64 gen, .bool gone, .string nm, .int .i64 ix, .bool last, .slice A4 n c4]]))
      ((((((w4.setCell ⟨w.heap.size, 0, none⟩ (.int .i64 gen)).setCell ⟨w.heap.size, 1, none⟩ (.bool gone)).setCell ⟨w.heap.size, 2, none⟩ (.string nm)).setCell ⟨w.heap.size, 3, none⟩ (.int .i64 ix)).setCell ⟨w.heap.size, 4, none⟩ (.bool last)).setCell ⟨w.heap.size, 5, none⟩ (.slice A4 n c4)).drew := by
  subst hn
  have hz := six_set hb (Nat.le_refl _) (.int .i64 gen) (.bool gone) (.string nm) (.int .i64 ix) (.bool last) (.slice A4 b.length c4)
  have hw := six_own ho h1 (.int .i64 gen) (.bool gone) (.string nm) (.int .i64 ix) (.bool last) (.slice A4 b.length c4)
  generalize ((((((w4.setCell ⟨w.heap.size, 0, none⟩ (.int .i64 gen)).setCell ⟨w.heap.size, 1, none⟩ (.bool gone)).setCell ⟨w.heap.size, 2, none⟩ (.string nm)).setCell ⟨w.heap.size, 3, none⟩ (.int .i64 ix)).setCell ⟨w.heap.size, 4, none⟩ (.bool last)).setCell ⟨w.heap.size, 5, none⟩ (.slice A4 b.length c4)) = W at *
  refine ⟨A4, c4, by rw [hD]; rfl, ?_, hz.drew⟩
  rw [hD]
  exact ownd (hw.lower (Nat.le_of_lt h1))
theorem quiet_carry {f : FuncId} {args : Array Value} {wx W0 : World} {B : Nat} {v : Value} (hb : Below B W0 wx) (h : Calls Try.prog f args wx fun e w' => e = .returned v ∧ ∃ d, w' = wx.drewN d) :
    Calls Try.prog f args wx fun e w' => e = .returned v ∧ Below B W0 w' ∧ Below wx.heap.size wx w' := h.mono fun e w' ⟨h1, d, h2⟩ => ⟨h1, by rw [h2]; exact below_draws hb d, by rw [h2]; exact below_draws (Below.refl _ _) d⟩
theorem BoxP.behind {w1 w3 : World} {v0 v1 v2 v3 v4 v5 : Value} (h : Below ((w1.alloc (.cells #[v0, v1, v2, v3, v4, v5] 40)).drew).heap.size ((w1.alloc (.cells #[v0, v1, v2, v3, v4, v5] 40)).drew) w3) : BoxP w3 w1.heap.size v0 v1 v2 v3 v4 v5 :=
  BoxP.below (w := (w1.alloc (.cells #[v0, v1, v2, v3, v4, v5] 40)).drew) (BoxP.new w1 _ _ _ _ _ _) h (by simp)
theorem BoxP.behind0 {w1 w3 : World} {v0 v1 v2 v3 v4 v5 : Value} (h : Below (w1.alloc (.cells #[v0, v1, v2, v3, v4, v5] 40)).heap.size (w1.alloc (.cells #[v0, v1, v2, v3, v4, v5] 40)) w3) : BoxP w3 w1.heap.size v0 v1 v2 v3 v4 v5 :=
  BoxP.below (w := w1.alloc (.cells #[v0, v1, v2, v3, v4, v5] 40)) (BoxP.new w1 _ _ _ _ _ _) h (by simp)
theorem four_two (l : List UInt8) (h : 4 ≤ l.length) : (bigN (l.take 4) : Int) = (bigN ((l.drop 0).take 2) : Int) * 65536 + (bigN ((l.drop 2).take 2) : Int) := by
  match l, h with
  | a :: b :: c :: d :: r, _ =>
    simp [bigN]
    omega
theorem two_lt (l : List UInt8) (k : Nat) : bigN ((l.drop k).take 2) ≤ 65535 := by
  have h1 := bigN_lt ((l.drop k).take 2)
  have h2 : ((l.drop k).take 2).length ≤ 2 := List.length_take_le _ _
  have h3 : 256 ^ ((l.drop k).take 2).length ≤ 256 ^ 2 := Nat.pow_le_pow_right (by omega) h2
  omega
set_option maxRecDepth 100000 in
set_option maxHeartbeats 4000000 in
theorem rdecPage_any (ad : Addr) (c : Nat) (l : List UInt8) (w : World) (hl : 64 ≤ l.length) (hl2 : l.length ≤ 1024) (hc : l.length ≤ c) (hcm : c ≤ 9223372036854775807) (h : BR w w.heap.size (some ad) l) :
    Calls Try.prog 50 #[.slice (some ad) l.length c] w (RdPost l w) := by
  obtain ⟨w0, hw0⟩ : ∃ w0, w.alloc (.cells #[.int .i64 0, .bool false, .string ⟨#[]⟩, .int .i64 0, .bool false, .slice none 0 0] 40) = w0 := ⟨_, rfl⟩
  have b0 : Below w.heap.size w w0 := by rw [← hw0]; exact (Below.refl _ _).alloc (Nat.le_refl _) _
  have g0 : BoxP w0 w.heap.size (.int .i64 0) (.bool false) (.string ⟨#[]⟩) (.int .i64 0) (.bool false) (.slice none 0 0) := by rw [← hw0]; exact BoxP.new _ _ _ _ _ _ _
  have hz0 : w.heap.size < w0.heap.size := g0.lt
  have HF := Lib.hid (allSet_any (some ad) c l w.heap.size w0 (by omega) (h.below b0))
  have HD : Hid (decS l = if freeB l = true then (1, Pg.zero) else if markB l = false then (2, Pg.zero) else if wholeB l = true then (4, guessP l) else (3, Pg.zero)) := rfl
  have HW0 := Lib.hid hw0
  obtain ⟨q0, q1, q2, q3, q4, q5⟩ := g0.cells
  have f0 := g0.free 0
  have f1 := g0.free 1
  have f2 := g0.free 2
  have f3 := g0.free 3
  have f4 := g0.free 4
  have f5 := g0.free 5
  by_cases hfr : freeB l = true
  · have HD2 : Hid (decS l = (1, Pg.zero)) := Lib.hid (by rw [HD.out, if_pos hfr])
    rw [hfr] at HF
    clear hfr
    go_enter Try.func50, Try.ntmps50
    go_upto_region 1 with fail
    clear hw0
    go_wp2_with fail
    refine HF.out.mono ?_
    rintro e w1 ⟨rfl, rfl⟩
    go_wp2_with fail
    refine bodyPost_ret (v := .tuple #[.int .i64 1, .agg #[.int .i64 0, .bool false, .string ⟨#[]⟩, .int .i64 0, .bool false, .slice none 0 0]]) (by simp [results, Try.results50, go_sem, q0, q1, q2, q3, q4, q5]) rfl ?_
    exact rd_bad HD2 (six_set b0 (Nat.le_refl _) _ _ _ _ _ _)
  · have hfr2 : freeB l = false := by simpa using hfr
    rw [hfr2] at HF
    obtain ⟨ad', ea, _, cm⟩ := (h.below b0).get (l.length - 1) (by omega)
    obtain rfl : ad = ad' := by injection ea
    have hmm : l.getD (l.length - 1) 0 = l[l.length - 1]'(by omega) := by rw [List.getD_eq_getElem?_getD, List.getElem?_eq_getElem (by omega)]; rfl
    obtain ⟨u, hu⟩ : ∃ u : Nat, u = (l[l.length - 1]'(by omega)).toNat := ⟨_, rfl⟩
    have hbu := byte_is _ 165 (by omega) u hu
    rw [← hu] at cm
    rw [← hmm] at hbu
    have HBU : Hid (((u : Int) == 165) = markB l) := hbu
    clear hbu hu hmm ea
    by_cases hmk : markB l = false
    · have HD2 : Hid (decS l = (2, Pg.zero)) := Lib.hid (by rw [HD.out, if_neg hfr, if_pos hmk])
      have t1 : ((u : Int) != 165) = true := by
        rw [bne, HBU.out, hmk]; rfl
      clear hfr hfr2 hmk
      go_enter Try.func50, Try.ntmps50
      go_upto_region 1 with fail
      clear hw0
      go_wp2_with fail
      refine HF.out.mono ?_
      rintro e w1 ⟨rfl, rfl⟩
      go_wp2_with fail
      refine bodyPost_ret (v := .tuple #[.int .i64 2, .agg #[.int .i64 0, .bool false, .string ⟨#[]⟩, .int .i64 0, .bool false, .slice none 0 0]]) (by simp [results, Try.results50, go_sem, q0, q1, q2, q3, q4, q5]) rfl ?_
      exact rd_bad HD2 (six_set b0 (Nat.le_refl _) _ _ _ _ _ _)
    · have hmk2 : markB l = true := by simpa using hmk
      have HD2 : Hid (decS l = if wholeB l = true then (4, guessP l) else (3, Pg.zero)) := Lib.hid (by rw [HD.out, if_neg hfr, if_neg hmk])
      have t1 : ((u : Int) != 165) = false := by
        rw [bne, HBU.out, hmk2]; rfl
      have HWP := Lib.hid (@wholeB_parts l)
      have hnl := gName_lt l
      have hmn := gMany_lt l
      have hB0 := h.below b0
      have c5 : w0.cell? ⟨ad.block, ad.off + 5, none⟩ = some (.int .u8 (gName l : Int)) := hB0.at1 5 (by omega) (by omega)
      have T8 := Lib.hid (fun (n : Nat) => rtwo4_any (some ad) c l 8 w.heap.size (w0.drewN n) (by omega) (by omega) (show BR w0 w.heap.size (some ad) l from hB0))
      have HGM : Hid (bigN ((l.drop 8).take 2) = gMany l) := rfl
      rw [HGM.out] at T8
      clear hfr hfr2 hmk hmk2
      obtain ⟨NL, hNL⟩ : ∃ NL, gName l = NL := ⟨_, rfl⟩
      obtain ⟨MN, hMN⟩ : ∃ MN, gMany l = MN := ⟨_, rfl⟩
      have HGN := Lib.hid hNL
      have HGM2 := Lib.hid hMN
      rw [hNL] at hnl c5 HWP
      rw [hMN] at hmn T8 HGM HWP
      clear hNL hMN
      generalize hGP : guessP l = X at *
      have wN : IntKind.i64.wrap (NL : Int) = (NL : Int) := IntWalk.i64_in _ (by omega)
      go_enter Try.func50, Try.ntmps50
      go_upto_region 1 with fail
      clear hw0
      go_wp2_with fail
      refine HF.out.mono ?_
      rintro e w1 ⟨rfl, rfl⟩
      go_wp2_with fail
      go_quiet ((go_at_call 60; exact Calls.quiet_of (T8.out _)))
      by_cases hle : 12 + NL + MN + 3 ≤ l.length
      · have HLE3 := Lib.hid hle
        have hle2 : decide ((l.length : Int) - 3 < 12 + (NL : Int) + (MN : Int)) = false := decide_eq_false (by omega)
        go_upto_region 8 with fail
        obtain ⟨W0, hWW⟩ : ∃ W0, W0 = w0.drewN nq := ⟨_, rfl⟩
        rw [← hWW]
        have bW : Below w.heap.size w W0 := by rw [hWW]; exact below_draws b0 _
        have gW : BoxP W0 w.heap.size (.int .i64 0) (.bool false) (.string ⟨#[]⟩) (.int .i64 0) (.bool false) (.slice none 0 0) := by rw [hWW]; exact g0
        clear hWW T8 HF hle2 t1 cm c5 q0 q1 q2 q3 q4 q5 f0 f1 f2 f3 f4 f5
        have hzB := bW.size
        have hB := h.below bW
        obtain ⟨u4, hu4⟩ : ∃ u : Nat, u = (l.getD 4 0).toNat := ⟨_, rfl⟩
        obtain ⟨u10, hu10⟩ : ∃ u : Nat, u = (l.getD 10 0).toNat := ⟨_, rfl⟩
        have HU4 := Lib.hid (byte_is _ 2 (by omega) u4 hu4)
        have HU10 := Lib.hid (byte_is _ 1 (by omega) u10 hu10)
        have hlen12 : ((l.drop 12).take NL).length = NL := by simp; omega
        obtain ⟨NM, hNM⟩ : ∃ NM, NM = sb ((l.drop 12).take NL) := ⟨_, rfl⟩
        have HNM := Lib.hid hNM
        obtain ⟨K, hK⟩ : ∃ K, K = 12 + NL := ⟨_, rfl⟩
        have HSS := Lib.hid (fun (wx : World) (hb : Below W0.heap.size W0 wx) => (by
          have hBx := hB.below (hb.mono hzB)
          have a4 := hBx.at1 4 (by omega) (by omega)
          have a10 := hBx.at1 10 (by omega) (by omega)
          rw [← hu4] at a4
          rw [← hu10] at a10
          have cv := conv_bytes (some ⟨ad.block, ad.off + 12, none⟩) (c - 12) ((l.drop 12).take NL) w.heap.size wx (hBx.sub 12 NL (by omega) (by omega))
          rw [hlen12, ← hNM] at cv
          exact ⟨a4, a10, cv⟩ : wx.cell? ⟨ad.block, ad.off + 4, none⟩ = some (.int .u8 (u4 : Int)) ∧ wx.cell? ⟨ad.block, ad.off + 10, none⟩ = some (.int .u8 (u10 : Int)) ∧ (convert 22 9 (.slice (some ⟨ad.block, ad.off + 12, none⟩) NL (c - 12))).run Try.prog wx = .ok (.string NM) wx))
        obtain ⟨v0, hv0⟩ : ∃ v : Nat, v = bigN ((l.drop 0).take 2) := ⟨_, rfl⟩
        obtain ⟨v2, hv2⟩ : ∃ v : Nat, v = bigN ((l.drop 2).take 2) := ⟨_, rfl⟩
        obtain ⟨v6, hv6⟩ : ∃ v : Nat, v = bigN ((l.drop 6).take 2) := ⟨_, rfl⟩
        have l0 : v0 ≤ 65535 := by rw [hv0]; exact two_lt _ _
        have l2 : v2 ≤ 65535 := by rw [hv2]; exact two_lt _ _
        have T0 := Lib.hid (fun (wx : World) (hb : Below W0.heap.size W0 wx) => (by rw [hv0]; exact quiet_carry hb (rtwo4_any (some ad) c l 0 w.heap.size wx (by omega) (by omega) (hB.below (hb.mono hzB))) : Calls Try.prog 60 #[.slice (some ad) l.length c, .int .i64 0] wx fun e w' => e = .returned (.int .i64 (v0 : Int)) ∧ Below W0.heap.size W0 w' ∧ Below wx.heap.size wx w'))
        have T2 := Lib.hid (fun (wx : World) (hb : Below W0.heap.size W0 wx) => (by rw [hv2]; exact quiet_carry hb (rtwo4_any (some ad) c l 2 w.heap.size wx (by omega) (by omega) (hB.below (hb.mono hzB))) : Calls Try.prog 60 #[.slice (some ad) l.length c, .int .i64 2] wx fun e w' => e = .returned (.int .i64 (v2 : Int)) ∧ Below W0.heap.size W0 w' ∧ Below wx.heap.size wx w'))
        have T6 := Lib.hid (fun (wx : World) (hb : Below W0.heap.size W0 wx) => (by rw [hv6]; exact quiet_carry hb (rtwo4_any (some ad) c l 6 w.heap.size wx (by omega) (by omega) (hB.below (hb.mono hzB))) : Calls Try.prog 60 #[.slice (some ad) l.length c, .int .i64 6] wx fun e w' => e = .returned (.int .i64 (v6 : Int)) ∧ Below W0.heap.size W0 w' ∧ Below wx.heap.size wx w'))
        have x1 : IntKind.i64.wrap ((v0 : Int) * 65536) = (v0 : Int) * 65536 := IntWalk.i64_in _ (by omega)
        have x2 : IntKind.i64.wrap ((v0 : Int) * 65536 + (v2 : Int)) = (v0 : Int) * 65536 + (v2 : Int) := IntWalk.i64_in _ (by omega)
        have x3 : IntKind.i64.wrap ((12 : Int) + (NL : Int)) = (K : Int) := by rw [IntWalk.i64_in _ (by omega)]; omega
        have i1 : (12 : Int) ≤ (K : Int) := by omega
        have i2 : (K : Int) ≤ (c : Int) := by omega
        have i3 : K - 12 = NL := by omega
        have i4 : (4 : Int) < (l.length : Int) := by omega
        have i5 : (10 : Int) < (l.length : Int) := by omega
        have hc12 : c ≠ 12 := by omega
        have HV0 := Lib.hid hv0
        have HV2 := Lib.hid hv2
        have HV6 := Lib.hid hv6
        have HK := Lib.hid hK
        have hXg : guessP l = ⟨(v0 : Int) * 65536 + (v2 : Int), (u4 : Int) == 2, NM, (v6 : Int), (u10 : Int) == 1, (l.drop K).take MN⟩ := by
          have e4 : ((u4 : Int) == 2) = (l.getD 4 0 == 2) := HU4.out
          have e10 : ((u10 : Int) == 1) = (l.getD 10 0 == 1) := HU10.out
          have eb : (bigN (l.take 4) : Int) = (v0 : Int) * 65536 + (v2 : Int) := by rw [hv0, hv2]; exact four_two l (by omega)
          rw [e4, e10, hv6, hNM, hK, ← eb]
          unfold guessP
          rw [HGN.out, HGM2.out]
        rw [hGP] at hXg
        clear hu4 hu10 hNM hv0 hv2 hv6 hB hK hlen12
        have hns : X.name.size ≤ 9223372036854775807 := by
          rw [hXg]
          show NM.size ≤ 9223372036854775807
          rw [HNM.out]
          show ((l.drop 12).take NL).toArray.size ≤ 9223372036854775807
          simp; omega
        have HNS := Lib.hid hns
        clear hns
        obtain ⟨gen, gone, nm, ix, last, b⟩ := X
        injection hXg with y1 y2 y3 y4 y5 y6
        have HXB := Lib.hid (fun (wx : World) (L : Nat) (hq : BoxP wx L (.int .i64 ((v0 : Int) * 65536 + (v2 : Int))) (.bool ((u4 : Int) == 2)) (.string NM) (.int .i64 (v6 : Int)) (.bool ((u10 : Int) == 1)) (.slice none 0 0)) => (by rw [y1, y2, y3, y4, y5]; exact hq : BoxP wx L (.int .i64 gen) (.bool gone) (.string nm) (.int .i64 ix) (.bool last) (.slice none 0 0)))
        have HY6 := Lib.hid y6
        clear y1 y2 y3 y4 y5 y6 hGP
        go_cut [6] (fun s6 wx => ∃ L : Nat, s6 = .pointer (some ⟨L, 0, none⟩) ∧ W0.heap.size ≤ L ∧ BoxP wx L (.int .i64 gen) (.bool gone) (.string nm) (.int .i64 ix) (.bool last) (.slice none 0 0) ∧ Below W0.heap.size W0 wx)
        case first =>
          go_region_held3 (fun wx => wx.cell? ⟨ad.block, ad.off + 4, none⟩ = some (.int .u8 (u4 : Int)) ∧ wx.cell? ⟨ad.block, ad.off + 10, none⟩ = some (.int .u8 (u10 : Int)) ∧ (convert 22 9 (.slice (some ⟨ad.block, ad.off + 12, none⟩) NL (c - 12))).run Try.prog wx = .ok (.string NM) wx)
            (exact HSS.out _ (by repeat (first | with_reducible assumption | with_reducible exact Below.refl _ _ | with_reducible refine Below.drew ?_ | with_reducible refine below_draws ?_ _ | with_reducible refine Below.alloc' (Nat.le_refl _) ?_ _ | with_reducible refine Below.setCell ?_ (by first | with_reducible exact Nat.le_refl _ | (with_reducible exact Below.size (by assumption))) _)))
            (first
             | (go_at_call 60
                first
                | (with_reducible refine (T0.out _ (by repeat (first | with_reducible assumption | with_reducible exact Below.refl _ _ | with_reducible refine Below.drew ?_ | with_reducible refine below_draws ?_ _ | with_reducible refine Below.alloc' (Nat.le_refl _) ?_ _ | with_reducible refine Below.setCell ?_ (by first | with_reducible exact Nat.le_refl _ | (with_reducible exact Below.size (by assumption))) _))).mono ?_)
                | (with_reducible refine (T2.out _ (by repeat (first | with_reducible assumption | with_reducible exact Below.refl _ _ | with_reducible refine Below.drew ?_ | with_reducible refine below_draws ?_ _ | with_reducible refine Below.alloc' (Nat.le_refl _) ?_ _ | with_reducible refine Below.setCell ?_ (by first | with_reducible exact Nat.le_refl _ | (with_reducible exact Below.size (by assumption))) _))).mono ?_)
                | (with_reducible refine (T6.out _ (by repeat (first | with_reducible assumption | with_reducible exact Below.refl _ _ | with_reducible refine Below.drew ?_ | with_reducible refine below_draws ?_ _ | with_reducible refine Below.alloc' (Nat.le_refl _) ?_ _ | with_reducible refine Below.setCell ?_ (by first | with_reducible exact Nat.le_refl _ | (with_reducible exact Below.size (by assumption))) _))).mono ?_)
                rintro e w3 ⟨rfl, hb3, hb4⟩
                first
                | (have hq := BoxP.behind hb4; obtain ⟨m0, m1, m2, m3, m4, m5⟩ := hq.cells; have n0 := hq.free 0; have n1 := hq.free 1; have n2 := hq.free 2; have n3 := hq.free 3; have n4 := hq.free 4; have n5 := hq.free 5)
                | (have hq := BoxP.behind0 hb4; obtain ⟨m0, m1, m2, m3, m4, m5⟩ := hq.cells; have n0 := hq.free 0; have n1 := hq.free 1; have n2 := hq.free 2; have n3 := hq.free 3; have n4 := hq.free 4; have n5 := hq.free 5)
                | (have hq := BoxP.below hq hb4 hq.lt; obtain ⟨m0, m1, m2, m3, m4, m5⟩ := hq.cells; have n0 := hq.free 0; have n1 := hq.free 1; have n2 := hq.free 2; have n3 := hq.free 3; have n4 := hq.free 4; have n5 := hq.free 5)
                | skip))
          all_goals
            go_wp2_with fail
            go_meet
            refine ⟨_, rfl, ?_, HXB.out _ _ ?_, ?_⟩
            · first | with_reducible exact Nat.le_refl _ | with_reducible exact hb3.size | with_reducible exact Below.size (B := W0.heap.size) (w := W0) (by assumption)
            · first | with_reducible exact BoxP.new _ _ _ _ _ _ _ | with_reducible exact BoxP.set6 hq _ _ _ _ _ _
            · first | with_reducible exact hb3.alloc hb3.size _ | with_reducible exact six_set hb3 (Nat.le_refl _) _ _ _ _ _ _ | with_reducible exact six_set hb3 (Below.size (B := W0.heap.size) (w := W0) (by assumption)) _ _ _ _ _ _
        case rest =>
          obtain ⟨L, rfl, hL, gx, hbx⟩ := hcut
          have hbW := bW.trans (hbx.mono hzB)
          have hLw : w.heap.size ≤ L := Nat.le_trans hzB hL
          have hoW : BoxP wc w.heap.size (.int .i64 0) (.bool false) (.string ⟨#[]⟩) (.int .i64 0) (.bool false) (.slice none 0 0) := gW.below hbx gW.lt
          have hLne : L ≠ w.heap.size := fun e => by have := gW.lt; omega
          have HcB := Lib.hid (h.below hbW)
          have LN := Lib.hid (show ((l.drop K).take MN).length = MN by have := HK.out; simp; omega)
          have HKM := Lib.hid (show K + MN ≤ l.length by have := HK.out; omega)
          clear T0 T2 T6 HSS HXB gW hbx
          go_upto_region 9 with fail
          refine wp_region_still_tail 10 (by kernel_rfl) (by kernel_rfl) ?_
          simp only [List.take_succ_cons, List.take_zero, List.drop_succ_cons, List.drop_zero]
          generalize hwd : ({ wc with drawn := wc.drawn + 1 } : World) = wd
          have gd : BoxP wd L (.int .i64 gen) (.bool gone) (.string nm) (.int .i64 ix) (.bool last) (.slice none 0 0) := by rw [← hwd]; exact gx
          have od : BoxP wd w.heap.size (.int .i64 0) (.bool false) (.string ⟨#[]⟩) (.int .i64 0) (.bool false) (.slice none 0 0) := by rw [← hwd]; exact hoW
          have bd : Below w.heap.size w wd := by rw [← hwd]; exact hbW.drew
          have hcut := (h.below bd).cut K MN c hc HKM.out
          have HCUT := Lib.hid hcut
          have hkm := HKM.out
          have y1 : IntKind.i64.wrap ((K : Int) + (MN : Int)) = (K : Int) + (MN : Int) := IntWalk.i64_in _ (by omega)
          have i6 : (K : Int) + (MN : Int) ≤ (c : Int) := by omega
          have i7 : (K : Int) ≤ (K : Int) + (MN : Int) := by omega
          have i8 : ((K : Int) + (MN : Int)).toNat - K = MN := by omega
          clear hwd hoW gx hcut hkm x1 x2
          obtain ⟨q0, q1, q2, q3, q4, q5⟩ := gd.cells
          have e5 := gd.free 5
          repeat still_step
          refine wpStill_nil ?_
          have HNO : Hid ((if c = K then some ad else some (ad.add K)) = none → c - K = 0) := Lib.hid (fun e => by split at e <;> cases e)
          generalize (if c = K then some ad else some (ad.add K)) = A5 at HCUT HNO ⊢
          go_wp2_with (first | (at_builtin; refine wpList_app _ rfl (.tmp 58) (.tmp 66) 22 5 1 1 rfl elem8 wd.heap.size (.slice none 0 0) 0 [] rfl (Own.nil wd wd.heap.size) w.heap.size A5 MN (c - K) (((l.drop K).take MN).map bv) rfl (by rw [List.length_map, LN.out, Nat.mul_one]) HCUT.out (bv_one _) (by unfold maxLen; omega) (by omega) (Nat.le_refl _) ?_; intro v9 w9 hown9 hgrow9 hat9; have hb9 := (Below.refl wd.heap.size wd).grown hgrow9 (Nat.le_refl _) (fun k hk => by cases hk); have g9 := gd.below hb9 gd.lt; have o9 := od.below hb9 od.lt; obtain ⟨m0, m1, m2, m3, m4, m5⟩ := g9.cells; have n5 := g9.free 5; have ho9 : Own w9 wd.heap.size v9 ((l.drop K).take MN) := (by have hq9 := Own.of (a := []) hown9 LN.out.symm; rw [List.nil_append] at hq9; exact hq9); obtain ⟨A9, c9, hv9, -⟩ := ho9.form; rw [LN.out] at hv9; subst hv9) | fail)
          rw [← HY6.out] at ho9
          have hbl : b.length = MN := by rw [HY6.out]; exact LN.out
          have hoA := ho9.put5 (k := 5) (u := .slice A9 MN c9) gd.lt
          have gA := g9.set5 (.slice A9 MN c9)
          have oA := o9.other (g := L) (k := 5) (u := .slice A9 MN c9) (Ne.symm hLne)
          have bA : Below w.heap.size w (w9.setCell ⟨L, 5, none⟩ (.slice A9 MN c9)) := (bd.trans (hb9.mono bd.size)).setCell (show w.heap.size ≤ L from hLw) _
          have hod := od.lt
          clear hown9 hgrow9 hat9 m0 m1 m2 m3 m4 m5 n5 g9 o9 hb9 ho9
          generalize w9.setCell ⟨L, 5, none⟩ (.slice A9 MN c9) = wA at *
          obtain ⟨-, hBA⟩ := hoA.read
          have hEN := rencode_any l.length ⟨gen, gone, nm, ix, last, b⟩ A9 c9 wA.heap.size wA (Nat.le_refl _) (HNS.out) (by show b.length ≤ 9223372036854775807; omega) hBA
          unfold pgV at hEN
          dsimp only at hEN
          rw [hbl] at hEN
          refine hEN.mono ?_
          rintro e w4 ⟨v4, rfl, hb4, hbad, hgood⟩
          rw [Int.toNat_natCast] at hgood
          have g4 := gA.below hb4 gA.lt
          have o4 := oA.below hb4 oA.lt
          have hb04 := bA.trans (hb4.mono bA.size)
          have ho4 := hoA.after hb4 (Nat.le_refl _)
          obtain ⟨q0, q1, q2, q3, q4, q5⟩ := g4.cells
          obtain ⟨p0, p1, p2, p3, p4, p5⟩ := o4.cells
          have f0 := o4.free 0
          have f1 := o4.free 1
          have f2 := o4.free 2
          have f3 := o4.free 3
          have f4 := o4.free 4
          have f5 := o4.free 5
          have hne1 : w.heap.size ≠ L := fun e => hLne e.symm
          by_cases hen : encF l.length ⟨gen, gone, nm, ix, last, b⟩ = 0
          · have hok := enc_ok hen
            have hov := hgood hen
            have hpl := pgB_len hok
            obtain ⟨A4, c4, rfl, hB4⟩ := hov.form
            have HQ := Lib.hid (bytesEqual_any A4 (some ad) c4 c (pgB l.length ⟨gen, gone, nm, ix, last, b⟩) l w4.heap.size w4 hB4 ((h.below hb04).lift hb04.size))
            by_cases heq : pgB l.length ⟨gen, gone, nm, ix, last, b⟩ = l
            · have HWT : Hid (wholeB l = true) := Lib.hid (HWP.out.2 ⟨HLE3.out, hen, heq⟩)
              have HD3 : Hid (decS l = (4, ⟨gen, gone, nm, ix, last, b⟩)) := Lib.hid (by rw [HD2.out, if_pos HWT.out])
              rw [decide_eq_true heq] at HQ
              rw [hen]
              rw [hpl] at HQ ⊢
              clear heq hok hov hB4 hgood hbad hen hpl hEN hBA
              go_wp2_with (first | (go_at_call 21; refine HQ.out.mono ?_; rintro e w' ⟨rfl, rfl⟩) | fail)
              go_region
              go_wp2_with fail
              refine bodyPost_ret (v := .tuple #[.int .i64 4, .agg #[.int .i64 gen, .bool gone, .string nm, .int .i64 ix, .bool last, .slice A9 MN c9]]) (by simp [results, Try.results50, go_sem, p0, p1, p2, p3, p4, p5]) rfl ?_
              exact rd_fin HD3.out hbl ho4 hod hb04
            · have HWT : Hid (wholeB l = false) := Lib.hid (by
                rw [Bool.eq_false_iff]
                intro hh
                exact heq (HWP.out.1 hh).2.2)
              have HD3 : Hid (decS l = (3, Pg.zero)) := Lib.hid (by rw [HD2.out, if_neg (by rw [HWT.out]; simp)])
              rw [decide_eq_false heq] at HQ
              rw [hen]
              rw [hpl] at HQ ⊢
              clear heq hok hov hB4 hgood hbad hen hpl hEN hBA
              go_wp2_with (first | (go_at_call 21; refine HQ.out.mono ?_; rintro e w' ⟨rfl, rfl⟩) | fail)
              refine bodyPost_ret (v := .tuple #[.int .i64 3, .agg #[.int .i64 0, .bool false, .string ⟨#[]⟩, .int .i64 0, .bool false, .slice none 0 0]]) (by simp [results, Try.results50, go_sem, p0, p1, p2, p3, p4, p5]) rfl ?_
              exact rd_bad HD3 (six_set hb04 (Nat.le_refl _) _ _ _ _ _ _)
          · have HWT : Hid (wholeB l = false) := Lib.hid (by
              rw [Bool.eq_false_iff]
              intro hh
              exact hen (HWP.out.1 hh).2.1)
            have HD3 : Hid (decS l = (3, Pg.zero)) := Lib.hid (by rw [HD2.out, if_neg (by rw [HWT.out]; simp)])
            have hvn := hbad hen
            subst hvn
            have t2 : (encF l.length ⟨gen, gone, nm, ix, last, b⟩ != 0) = true := by simpa using hen
            clear hgood hbad hen hEN hBA
            generalize encF l.length ⟨gen, gone, nm, ix, last, b⟩ = F at *
            go_wp2_with fail
            refine bodyPost_ret (v := .tuple #[.int .i64 3, .agg #[.int .i64 0, .bool false, .string ⟨#[]⟩, .int .i64 0, .bool false, .slice none 0 0]]) (by simp [results, Try.results50, go_sem, p0, p1, p2, p3, p4, p5]) rfl ?_
            exact rd_bad HD3 (six_set hb04 (Nat.le_refl _) _ _ _ _ _ _)
      · have HWT : Hid (wholeB l = false) := Lib.hid (by
          rw [Bool.eq_false_iff]
          intro hh
          exact hle (HWP.out.1 hh).1)
        have HD3 : Hid (decS l = (3, Pg.zero)) := Lib.hid (by rw [HD2.out, if_neg (by rw [HWT.out]; simp)])
        have hgt : decide ((l.length : Int) - 3 < 12 + (NL : Int) + (MN : Int)) = true := decide_eq_true (by omega)
        clear hle wN
        go_wp2_with fail
        refine bodyPost_ret (v := .tuple #[.int .i64 3, .agg #[.int .i64 0, .bool false, .string ⟨#[]⟩, .int .i64 0, .bool false, .slice none 0 0]]) (by simp [results, Try.results50, go_sem, q0, q1, q2, q3, q4, q5]) rfl ?_
        exact rd_bad HD3 (six_set (below_draws b0 _) (Nat.le_refl _) _ _ _ _ _ _)
end Go.Proofs.Ythcijelebjgfkaa
