/- a page read, by the program. -/
import Derived.Test.YthcijelebjgfkaaPgGuess
import Derived.Test.YthcijelebjgfkaaPgW2
namespace Go.Proofs.Ythcijelebjgfkaa
open Go.RowKit

def zeroP (w : World) : World := w.alloc (.cells #[.int .i64 0, .bool false, .string ⟨#[]⟩, .int .i64 0, .bool false, .slice none 0 0] 40)
theorem whole_is (l : List UInt8) (hl : 64 ≤ l.length) (hl2 : l.length ≤ 1024) : wholeB l = (decide (encF l.length (gxP l) = 0) && decide (pgB l.length (gxP l) = l)) := by
  unfold wholeB gxP
  by_cases h1 : 12 + gName l + gMany l ≤ l.length
  · rw [if_pos h1]
    by_cases h2 : 12 + gName l + gMany l + 3 ≤ l.length
    · rw [decide_eq_true h2, Bool.true_and]
    · rw [decide_eq_false h2, Bool.false_and]
      have hne : encF l.length (guessP l) ≠ 0 := by
        intro h
        have hk := (enc_ok h).hl
        have e1 : (guessP l).name.size = gName l := by
          show ((l.drop 12).take (gName l)).toArray.size = gName l
          simp; omega
        have e2 : (guessP l).bytes.length = gMany l := by
          show ((l.drop (12 + gName l)).take (gMany l)).length = gMany l
          simp; omega
        rw [e1, e2] at hk
        omega
      rw [decide_eq_false hne, Bool.false_and]
  · rw [if_neg h1, decide_eq_false (by omega : ¬ 12 + gName l + gMany l + 3 ≤ l.length), Bool.false_and]
    have hne : encF l.length Pg.zero ≠ 0 := by
      intro h
      have := (enc_ok h).hg.1
      simp [Pg.zero] at this
    rw [decide_eq_false hne, Bool.false_and]
def ReadPost (l : List UInt8) (w : World) (e : Ending) (w' : World) : Prop :=
  ∃ A c, e = .returned (.tuple #[.int .i64 (decS l).1, pgV (decS l).2 A c]) ∧ BR w' w.heap.size A (decS l).2.bytes ∧ (A = none → c = 0) ∧ Below w.heap.size w w'
theorem gx_name (l : List UInt8) : (gxP l).name.size ≤ 255 := by
  unfold gxP
  split
  · show ((l.drop 12).take (gName l)).toArray.size ≤ 255
    have := gName_lt l
    simp; omega
  · show (0 : Nat) ≤ 255
    omega
theorem gx_bytes (l : List UInt8) : (gxP l).bytes.length ≤ 65535 := by
  unfold gxP
  split
  · show ((l.drop (12 + gName l)).take (gMany l)).length ≤ 65535
    have := gMany_lt l
    simp; omega
  · show (0 : Nat) ≤ 65535
    omega
set_option maxRecDepth 100000 in
set_option maxHeartbeats 4000000 in
theorem readPage_any (ad : Addr) (c : Nat) (l : List UInt8) (w : World) (hl : 64 ≤ l.length) (hl2 : l.length ≤ 1024) (hc : l.length ≤ c) (hcm : c ≤ 9223372036854775807) (h : BR w w.heap.size (some ad) l) :
    Calls Try.prog 49 #[.slice (some ad) l.length c] w (ReadPost l w) := by
  obtain ⟨w0, hw0⟩ : ∃ w0, w.alloc (.cells #[.int .i64 0, .bool false, .string ⟨#[]⟩, .int .i64 0, .bool false, .slice none 0 0] 40) = w0 := ⟨_, rfl⟩
  have b0 : Below w.heap.size w w0 := by rw [← hw0]; exact (Below.refl _ _).alloc (Nat.le_refl _) _
  have g0 : BoxP w0 w.heap.size (.int .i64 0) (.bool false) (.string ⟨#[]⟩) (.int .i64 0) (.bool false) (.slice none 0 0) := by rw [← hw0]; exact BoxP.new _ _ _ _ _ _ _
  have hz0 : w.heap.size < w0.heap.size := g0.lt
  have HF := Lib.hid (isFree_any (some ad) c l w.heap.size w0 b0.size (h.below b0))
  have HD : Hid (decS l = if freeB l = true then (1, Pg.zero) else if markB l = false then (2, Pg.zero) else if wholeB l = true then (4, guessP l) else (3, Pg.zero)) := rfl
  have HW0 := Lib.hid hw0
  by_cases hfr : freeB l = true
  · have HD2 : Hid (decS l = (1, Pg.zero)) := Lib.hid (by rw [HD.out, if_pos hfr])
    rw [hfr] at HF
    clear hfr
    go_enter Try.func49, Try.ntmps49
    go_upto_region 1 with fail
    clear hw0
    go_wp2_with fail
    refine HF.out.mono ?_
    rintro e w1 ⟨rfl, hb1⟩
    have g1 := g0.below hb1 hz0
    have hb01 := b0.trans (hb1.mono b0.size)
    obtain ⟨q0, q1, q2, q3, q4, q5⟩ := g1.cells
    have f0 := g1.free 0
    have f1 := g1.free 1
    have f2 := g1.free 2
    have f3 := g1.free 3
    have f4 := g1.free 4
    have f5 := g1.free 5
    go_wp2_with fail
    refine bodyPost_ret (v := .tuple #[.int .i64 1, .agg #[.int .i64 0, .bool false, .string ⟨#[]⟩, .int .i64 0, .bool false, .slice none 0 0]]) (by simp [results, Try.results49, go_sem, q0, q1, q2, q3, q4, q5]) rfl ?_
    exact ⟨none, 0, by rw [HD2.out]; rfl, .inl (by rw [HD2.out]; rfl), fun _ => rfl, six_set hb01 (Nat.le_refl _) _ _ _ _ _ _⟩
  · have hfr2 : freeB l = false := by simpa using hfr
    rw [hfr2] at HF
    by_cases hmk : markB l = false
    · have HD2 : Hid (decS l = (2, Pg.zero)) := Lib.hid (by rw [HD.out, if_neg hfr, if_pos hmk])
      clear hfr hfr2
      go_enter Try.func49, Try.ntmps49
      go_upto_region 1 with fail
      clear hw0
      go_wp2_with fail
      refine HF.out.mono ?_
      rintro e w1 ⟨rfl, hb1⟩
      have g1 := g0.below hb1 hz0
      have hb01 := b0.trans (hb1.mono b0.size)
      obtain ⟨ad', ea, _, cm⟩ := (h.below hb01).get (l.length - 1) (by omega)
      obtain rfl : ad = ad' := by injection ea
      have hmm : l.getD (l.length - 1) 0 = l[l.length - 1]'(by omega) := by rw [List.getD_eq_getElem?_getD, List.getElem?_eq_getElem (by omega)]; rfl
      unfold markB at hmk
      rw [hmm] at hmk
      obtain ⟨u, hu⟩ : ∃ u : Nat, u = (l[l.length - 1]'(by omega)).toNat := ⟨_, rfl⟩
      have hbu := byte_is _ 165 (by omega) u hu
      rw [← hu] at cm
      have t1 : ((u : Int) != 165) = true := by
        rw [bne, show ((u : Int) == 165) = false from hbu.trans hmk]; rfl
      clear hbu hu hmk hmm ea
      obtain ⟨q0, q1, q2, q3, q4, q5⟩ := g1.cells
      have f0 := g1.free 0
      have f1 := g1.free 1
      have f2 := g1.free 2
      have f3 := g1.free 3
      have f4 := g1.free 4
      have f5 := g1.free 5
      go_wp2_with fail
      refine bodyPost_ret (v := .tuple #[.int .i64 2, .agg #[.int .i64 0, .bool false, .string ⟨#[]⟩, .int .i64 0, .bool false, .slice none 0 0]]) (by simp [results, Try.results49, go_sem, q0, q1, q2, q3, q4, q5]) rfl ?_
      exact ⟨none, 0, by rw [HD2.out]; rfl, .inl (by rw [HD2.out]; rfl), fun _ => rfl, six_set hb01 (Nat.le_refl _) _ _ _ _ _ _⟩
    · have hmk2 : markB l = true := by simpa using hmk
      have HD2 : Hid (decS l = if wholeB l = true then (4, guessP l) else (3, Pg.zero)) := Lib.hid (by rw [HD.out, if_neg hfr, if_neg hmk])
      have HWH := Lib.hid (whole_is l hl hl2)
      have hxn := gx_name l
      have hxb := gx_bytes l
      have HGX : Hid (wholeB l = true → gxP l = guessP l) := Lib.hid (fun hw => by
        unfold wholeB at hw
        simp only [Bool.and_eq_true, decide_eq_true_eq] at hw
        unfold gxP
        rw [if_pos (by omega)])
      have HGS := Lib.hid (fun w1 (hb : Below w.heap.size w w1) => guess_any ad c l w1 hl hl2 hc hcm w.heap.size hb.size (h.below hb))
      have HEN := Lib.hid (fun (A : Option Addr) (c' : Nat) (w1 w2 : World) (hz : w.heap.size ≤ w1.heap.size) (hb : Below w1.heap.size w1 w2) (hB : BR w1 w.heap.size A (gxP l).bytes) => encode_any l.length (gxP l) A c' w.heap.size w2 (Nat.le_trans hz hb.size) (by omega) (by omega) (hB.below (hb.mono hz)))
      clear hfr hfr2
      go_enter Try.func49, Try.ntmps49
      go_upto_region 1 with fail
      clear hw0
      go_wp2_with fail
      refine HF.out.mono ?_
      rintro e w1 ⟨rfl, hb1⟩
      have g1 := g0.below hb1 hz0
      have hb01 := b0.trans (hb1.mono b0.size)
      obtain ⟨ad', ea, _, cm⟩ := (h.below hb01).get (l.length - 1) (by omega)
      obtain rfl : ad = ad' := by injection ea
      have hmm : l.getD (l.length - 1) 0 = l[l.length - 1]'(by omega) := by rw [List.getD_eq_getElem?_getD, List.getElem?_eq_getElem (by omega)]; rfl
      unfold markB at hmk2
      rw [hmm] at hmk2
      obtain ⟨u, hu⟩ : ∃ u : Nat, u = (l[l.length - 1]'(by omega)).toNat := ⟨_, rfl⟩
      have hbu := byte_is _ 165 (by omega) u hu
      rw [← hu] at cm
      have t1 : ((u : Int) != 165) = false := by
        rw [bne, show ((u : Int) == 165) = true from hbu.trans hmk2]; rfl
      clear hbu hu hmk hmk2 hmm ea
      go_wp2_with fail
      refine (HGS.out _ hb01).mono ?_
      rintro e w2 ⟨A2, c2, rfl, hB2, hn2, hb2⟩
      have hb02 := hb01.trans (hb2.mono hb01.size)
      obtain ⟨w3, hw3⟩ : ∃ w3, w2.alloc (.cells #[.int .i64 (gxP l).gen, .bool (gxP l).gone, .string (gxP l).name, .int .i64 (gxP l).ix, .bool (gxP l).last, .slice A2 (gxP l).bytes.length c2] 40) = w3 := ⟨_, rfl⟩
      have b3 : Below w2.heap.size w2 w3 := by rw [← hw3]; exact (Below.refl _ _).alloc (Nat.le_refl _) _
      have g3 : BoxP w3 w2.heap.size (.int .i64 (gxP l).gen) (.bool (gxP l).gone) (.string (gxP l).name) (.int .i64 (gxP l).ix) (.bool (gxP l).last) (.slice A2 (gxP l).bytes.length c2) := by rw [← hw3]; exact BoxP.new _ _ _ _ _ _ _
      have HEN3 := Lib.hid (HEN.out A2 c2 w2 w3 hb02.size b3 hB2)
      have HW3 := Lib.hid hw3
      clear hw3
      have hgo : BoxP w3 w.heap.size (.int .i64 0) (.bool false) (.string ⟨#[]⟩) (.int .i64 0) (.bool false) (.slice none 0 0) := (g1.below hb2 g1.lt).below b3 (Nat.lt_of_lt_of_le g1.lt hb2.size)
      have hlt3 : w.heap.size < w3.heap.size := hgo.lt
      have hb03 := hb02.trans (b3.mono hb02.size)
      have BGET := Lib.hid (fun (w' : World) (hb : Below w.heap.size w3 w') => hB2.below ((b3.mono hb02.size).trans hb))
      have hlt2 : w.heap.size < w2.heap.size := Nat.lt_of_lt_of_le g1.lt hb2.size
      generalize gxP l = X at *
      obtain ⟨gen, gone, nm, ix, last, b⟩ := X
      unfold pgV at *
      dsimp only at *
      go_upto_region 6 with fail
      rw [HW3.out]
      obtain ⟨q0, q1, q2, q3, q4, q5⟩ := g3.cells
      go_wp2_with fail
      refine HEN3.out.mono ?_
      rintro e w4 ⟨v4, rfl, hb4, hbad, hgood⟩
      rw [Int.toNat_natCast] at hgood
      have g4 := g3.below hb4 g3.lt
      have o4 := hgo.below hb4 hlt3
      have hb04 := hb03.trans (hb4.mono hb03.size)
      clear q0 q1 q2 q3 q4 q5
      obtain ⟨q0, q1, q2, q3, q4, q5⟩ := g4.cells
      obtain ⟨p0, p1, p2, p3, p4, p5⟩ := o4.cells
      have f0 := o4.free 0
      have f1 := o4.free 1
      have f2 := o4.free 2
      have f3 := o4.free 3
      have f4 := o4.free 4
      have f5 := o4.free 5
      have hne1 : w.heap.size ≠ w2.heap.size := Nat.ne_of_lt hlt2
      have hne2 : w2.heap.size ≠ w.heap.size := fun e => hne1 e.symm
      by_cases hen : encF l.length ⟨gen, gone, nm, ix, last, b⟩ = 0
      · have hok := enc_ok hen
        have ho4 := hgood hen
        have hpl := pgB_len hok
        obtain ⟨A4, c4, rfl, hB4⟩ := ho4.form
        have HQ := Lib.hid (bytesEqual_any A4 (some ad) c4 c (pgB l.length ⟨gen, gone, nm, ix, last, b⟩) l w4.heap.size w4 hB4 ((h.below hb04).lift hb04.size))
        by_cases heq : pgB l.length ⟨gen, gone, nm, ix, last, b⟩ = l
        · have HWT : Hid (wholeB l = true) := Lib.hid (by rw [HWH.out, decide_eq_true hen, decide_eq_true heq]; rfl)
          have HGX2 := Lib.hid (HGX.out HWT.out)
          rw [decide_eq_true heq] at HQ
          rw [hen]
          rw [hpl] at HQ ⊢
          clear heq hok ho4 hB4 hgood hbad hen hpl
          go_wp2_with (first | (go_at_call 21; refine HQ.out.mono ?_; rintro e w' ⟨rfl, rfl⟩) | fail)
          go_region
          go_wp2_with fail
          refine bodyPost_ret (v := .tuple #[.int .i64 4, .agg #[.int .i64 gen, .bool gone, .string nm, .int .i64 ix, .bool last, .slice A2 b.length c2]]) (by simp [results, Try.results49, go_sem, p0, p1, p2, p3, p4, p5]) rfl ?_
          have hd : decS l = (4, ⟨gen, gone, nm, ix, last, b⟩) := by rw [HD2.out, if_pos HWT.out, ← HGX2.out]
          refine ⟨A2, c2, by rw [hd]; rfl, ?_, hn2, (six_set hb04 (Nat.le_refl _) _ _ _ _ _ _).drew⟩
          rw [hd]
          exact BGET.out _ (six_set (hb4.mono hb03.size) (Nat.le_refl _) _ _ _ _ _ _).drew
        · have HWT : Hid (wholeB l = false) := Lib.hid (by rw [HWH.out, decide_eq_false heq]; simp)
          have HD3 : Hid (decS l = (3, Pg.zero)) := Lib.hid (by rw [HD2.out, if_neg (by rw [HWT.out]; simp)])
          rw [decide_eq_false heq] at HQ
          rw [hen]
          rw [hpl] at HQ ⊢
          clear heq hok ho4 hB4 hgood hbad hen hpl
          go_wp2_with (first | (go_at_call 21; refine HQ.out.mono ?_; rintro e w' ⟨rfl, rfl⟩) | fail)
          refine bodyPost_ret (v := .tuple #[.int .i64 3, .agg #[.int .i64 0, .bool false, .string ⟨#[]⟩, .int .i64 0, .bool false, .slice none 0 0]]) (by simp [results, Try.results49, go_sem, p0, p1, p2, p3, p4, p5]) rfl ?_
          exact ⟨none, 0, by rw [HD3.out]; rfl, .inl (by rw [HD3.out]; rfl), fun _ => rfl, six_set hb04 (Nat.le_refl _) _ _ _ _ _ _⟩
      · have HWT : Hid (wholeB l = false) := Lib.hid (by rw [HWH.out, decide_eq_false hen]; simp)
        have HD3 : Hid (decS l = (3, Pg.zero)) := Lib.hid (by rw [HD2.out, if_neg (by rw [HWT.out]; simp)])
        have hvn := hbad hen
        subst hvn
        have t2 : (encF l.length ⟨gen, gone, nm, ix, last, b⟩ != 0) = true := by simpa using hen
        clear hgood hbad hen
        generalize encF l.length ⟨gen, gone, nm, ix, last, b⟩ = F at *
        go_wp2_with fail
        refine bodyPost_ret (v := .tuple #[.int .i64 3, .agg #[.int .i64 0, .bool false, .string ⟨#[]⟩, .int .i64 0, .bool false, .slice none 0 0]]) (by simp [results, Try.results49, go_sem, p0, p1, p2, p3, p4, p5]) rfl ?_
        exact ⟨none, 0, by rw [HD3.out]; rfl, .inl (by rw [HD3.out]; rfl), fun _ => rfl, six_set hb04 (Nat.le_refl _) _ _ _ _ _ _⟩
end Go.Proofs.Ythcijelebjgfkaa
