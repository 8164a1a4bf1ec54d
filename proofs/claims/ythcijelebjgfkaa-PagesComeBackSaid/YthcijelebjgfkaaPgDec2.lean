/- Decode of the program, whole. -/
import Derived.Test.YthcijelebjgfkaaPgDec
namespace Go.Proofs.Ythcijelebjgfkaa
open Go.RowKit

def decD (l : List UInt8) : Int × Pg × Int := if 64 ≤ l.length ∧ l.length ≤ 1024 then ((decS l).1, (decS l).2, 0) else (0, Pg.zero, 3)
/-- what a decoding answers -/
def DecPost (l : List UInt8) (w : World) (e : Ending) (w' : World) : Prop :=
  ∃ A c, e = .returned (.tuple #[.int .i64 (decD l).1, pgV (decD l).2.1 A c, .int .i64 (decD l).2.2]) ∧ BR w' w'.heap.size A (decD l).2.1.bytes ∧ Below w.heap.size w w'
theorem dec_short (l : List UInt8) (_h : l.length ≤ 1024) : (decS l).2.bytes.length ≤ 65535 := by
  unfold decS
  split
  · show (0 : Nat) ≤ 65535
    omega
  · split
    · show (0 : Nat) ≤ 65535
      omega
    · split
      · show ((l.drop (12 + gName l)).take (gMany l)).length ≤ 65535
        have := gMany_lt l
        simp; omega
      · show (0 : Nat) ≤ 65535
        omega
set_option maxRecDepth 100000 in
set_option maxHeartbeats 400000 in
/-- slices.Clone of any bytes -/
theorem cloneB_any (A : Option Addr) (c : Nat) (l : List UInt8) (B : Nat) (w : World) (hA : A = none → c = 0) (hl : l.length ≤ 300000) (hB : B ≤ w.heap.size) (h : BR w B A l) :
    Calls Try.prog 25 #[.slice A l.length c] w fun e w' => ∃ v, e = .returned v ∧ Own w' w.heap.size v l ∧ Below w.heap.size w w' := by
  rcases A with _ | ad
  · have hl0 : l = [] := by
      rcases h with e | ⟨ad, e, _⟩
      · exact List.map_eq_nil_iff.1 e
      · cases e
    subst hl0
    have hq := fun (n c : Nat) (w : World) => run_isnilY none n c w
    go_enter Try.func25, Try.ntmps25
    go_wp2
    go_ret
    exact ⟨_, rfl, Own.nil _ _, Below.refl _ _⟩
  · have hq := fun (n c : Nat) (w : World) => run_isnilY (some ad) n c w
    have h2 : BR (w.alloc (.cells #[] 5)) w.heap.size (some ad) l := (h.lift hB).below ((Below.refl _ _).alloc (Nat.le_refl _) _)
    go_enter Try.func25, Try.ntmps25
    go_wp2_with (first | (at_builtin; refine wpList_app _ rfl (.tmp 5) (.tmp 6) 22 5 1 1 rfl elem8 w.heap.size _ 0 [] rfl (World.ownsRow_lit (e := 5) (size := 1) w #[] 0 (Nat.le_refl _) (by simp [maxLen]) rfl) w.heap.size (some ad) l.length c (l.map bv) rfl (by simp) h2 (bv_one _) (by unfold maxLen; omega) (by omega) (by simp) ?_; intro v2 w2 hown2 hgrow2 hat2) | fail)
    go_ret
    have ho : Own w2 w.heap.size v2 l := by
      have := Own.of (a := []) hown2 rfl
      simpa using this
    exact ⟨_, rfl, ho, ((Below.refl _ _).alloc (Nat.le_refl _) _).grown hgrow2 (by simp) (fun k hk => Nat.le_of_eq (by injection hk))⟩
theorem brd {w : World} {A : Option Addr} {l : List UInt8} (h : BR w w.heap.size A l) : BR w.drew w.drew.heap.size A l := h
theorem Own.put5 {w : World} {base g k : Nat} {v u : Value} {l : List UInt8} (h : Own w base v l) (hlt : g < base) : Own (w.setCell ⟨g, k, none⟩ u) base v l :=
  World.ownsRow.kept (row := some g) h ⟨rfl, rfl, rfl, by simp [World.setCell], fun i _ hne => Below.heap_setCell w ⟨g, k, none⟩ u i (fun e => hne (by rw [e]))⟩ (.inr (fun e => by have := (h.lt g e).1; omega))
theorem six_own {w : World} {base P : Nat} {v : Value} {l : List UInt8} (h : Own w base v l) (hlt : P < base) (u0 u1 u2 u3 u4 u5 : Value) :
    Own ((((((w.setCell ⟨P, 0, none⟩ u0).setCell ⟨P, 1, none⟩ u1).setCell ⟨P, 2, none⟩ u2).setCell ⟨P, 3, none⟩ u3).setCell ⟨P, 4, none⟩ u4).setCell ⟨P, 5, none⟩ u5) base v l :=
  (((((h.put5 hlt).put5 hlt).put5 hlt).put5 hlt).put5 hlt).put5 hlt
theorem dec_fin {l : List UInt8} {S gen ix : Int} {gone last : Bool} {nm : ByteArray} {b : List UInt8} {w w4 : World} {A4 : Option Addr} {c4 base Q : Nat} (hD : decD l = (S, ⟨gen, gone, nm, ix, last, b⟩, 0)) (ho : Own w4 base (.slice A4 b.length c4) b) (h1 : w.heap.size < base) (h2 : Q < base) (hb : Below w.heap.size w w4) (hQ : w.heap.size ≤ Q) :
    DecPost l w (.returned (.tuple #[.int .i64 S, .agg #[.int .i64 gen, .bool gone, .string nm, .int .i64 ix, .bool last, .slice A4 b.length c4], .int .i64 0]))
      (((((((w4.setCell ⟨Q, 5, none⟩ (.slice A4 b.length c4)).setCell ⟨w.heap.size, 0, none⟩ (.int .i64 gen)).setCell ⟨w.heap.size, 1, none⟩ (.bool gone)).setCell ⟨w.heap.size, 2, none⟩ (.string nm)).setCell ⟨w.heap.size, 3, none⟩ (.int .i64 ix)).setCell ⟨w.heap.size, 4, none⟩ (.bool last)).setCell ⟨w.heap.size, 5, none⟩ (.slice A4 b.length c4)).drew := by
  have hz := six_set (show Below w.heap.size w (w4.setCell ⟨Q, 5, none⟩ (.slice A4 b.length c4)) from hb.setCell hQ _) (Nat.le_refl _) (.int .i64 gen) (.bool gone) (.string nm) (.int .i64 ix) (.bool last) (.slice A4 b.length c4)
  have hw := six_own (ho.put5 (k := 5) (u := .slice A4 b.length c4) h2) h1 (.int .i64 gen) (.bool gone) (.string nm) (.int .i64 ix) (.bool last) (.slice A4 b.length c4)
  generalize (((((((w4.setCell ⟨Q, 5, none⟩ (.slice A4 b.length c4)).setCell ⟨w.heap.size, 0, none⟩ (.int .i64 gen)).setCell ⟨w.heap.size, 1, none⟩ (.bool gone)).setCell ⟨w.heap.size, 2, none⟩ (.string nm)).setCell ⟨w.heap.size, 3, none⟩ (.int .i64 ix)).setCell ⟨w.heap.size, 4, none⟩ (.bool last)).setCell ⟨w.heap.size, 5, none⟩ (.slice A4 b.length c4)) = W at *
  obtain ⟨-, hB5⟩ := hw.read
  refine ⟨A4, c4, by rw [hD]; rfl, ?_, hz.drew⟩
  rw [hD]
  exact brd hB5
set_option maxRecDepth 100000 in
set_option maxHeartbeats 4000000 in
theorem decode_any (A : Option Addr) (c : Nat) (l : List UInt8) (w : World) (hc : l.length ≤ c) (hcm : c ≤ 9223372036854775807) (h : BR w w.heap.size A l) :
    Calls Try.prog 19 #[.slice A l.length c] w (DecPost l w) := by
  obtain ⟨w0, hw0⟩ : ∃ w0, w.alloc (.cells #[.int .i64 0, .bool false, .string ⟨#[]⟩, .int .i64 0, .bool false, .slice none 0 0] 40) = w0 := ⟨_, rfl⟩
  have b0 : Below w.heap.size w w0 := by rw [← hw0]; exact (Below.refl _ _).alloc (Nat.le_refl _) _
  have g0 : BoxP w0 w.heap.size (.int .i64 0) (.bool false) (.string ⟨#[]⟩) (.int .i64 0) (.bool false) (.slice none 0 0) := by rw [← hw0]; exact BoxP.new _ _ _ _ _ _ _
  have hz0 : w.heap.size < w0.heap.size := g0.lt
  have HD : Hid (decD l = if 64 ≤ l.length ∧ l.length ≤ 1024 then ((decS l).1, (decS l).2, 0) else (0, Pg.zero, 3)) := rfl
  have HW0 := Lib.hid hw0
  by_cases hlen : 64 ≤ l.length ∧ l.length ≤ 1024
  · obtain ⟨hl1, hl2⟩ := hlen
    have d1 : decide ((64 : Int) ≤ (l.length : Int) ∧ (l.length : Int) ≤ 1024) = true := decide_eq_true (by omega)
    have HD2 : Hid (decD l = ((decS l).1, (decS l).2, 0)) := Lib.hid (by rw [HD.out, if_pos ⟨hl1, hl2⟩])
    obtain ⟨ad, rfl, _, _⟩ := h.get 0 (by omega)
    have HR := Lib.hid (readPage_any ad c l w0 hl1 hl2 hc hcm ((h.below b0).lift b0.size))
    have hsh := dec_short l hl2
    unfold ReadPost at HR
    generalize (decS l).1 = S at *
    generalize (decS l).2 = X at *
    obtain ⟨gen, gone, nm, ix, last, b⟩ := X
    unfold pgV at *
    dsimp only at *
    go_enter Try.func19, Try.ntmps19
    go_upto_region 1 with fail
    clear hw0
    go_wp2_with (first | (go_at_call 41; refine (isPageSize_any _ _).mono ?_; rintro e w' ⟨rfl, rfl⟩) | fail)
    refine HR.out.mono ?_
    rintro e w2 ⟨A2, c2, rfl, hB2, hn2, hb2⟩
    have hb02 := b0.trans (hb2.mono b0.size)
    obtain ⟨w3, hw3⟩ : ∃ w3, w2.alloc (.cells #[.int .i64 gen, .bool gone, .string nm, .int .i64 ix, .bool last, .slice A2 b.length c2] 40) = w3 := ⟨_, rfl⟩
    have b3 : Below w2.heap.size w2 w3 := by rw [← hw3]; exact (Below.refl _ _).alloc (Nat.le_refl _) _
    have g3 : BoxP w3 w2.heap.size (.int .i64 gen) (.bool gone) (.string nm) (.int .i64 ix) (.bool last) (.slice A2 b.length c2) := by rw [← hw3]; exact BoxP.new _ _ _ _ _ _ _
    have hgo : BoxP w3 w.heap.size (.int .i64 0) (.bool false) (.string ⟨#[]⟩) (.int .i64 0) (.bool false) (.slice none 0 0) := (g0.below hb2 hz0).below b3 (Nat.lt_of_lt_of_le hz0 hb2.size)
    have hlt3 : w.heap.size < w3.heap.size := hgo.lt
    have hlt2 : w.heap.size < w2.heap.size := Nat.lt_of_lt_of_le hz0 hb2.size
    have hb03 := hb02.trans (b3.mono hb02.size)
    have HCL := Lib.hid (cloneB_any A2 c2 b w0.heap.size w3 hn2 (by omega) (Nat.le_trans hb2.size b3.size) (hB2.below (b3.mono hb2.size)))
    have HW3 := Lib.hid hw3
    clear hw3
    go_upto_region 4 with fail
    rw [HW3.out]
    obtain ⟨q0, q1, q2, q3, q4, q5⟩ := g3.cells
    go_wp2_with fail
    refine HCL.out.mono ?_
    rintro e w4 ⟨v4, rfl, ho4, hb4⟩
    obtain ⟨A4, c4, rfl, hB4⟩ := ho4.form
    have g4 := g3.below hb4 g3.lt
    have o4 := hgo.below hb4 hlt3
    have hb04 := hb03.trans (hb4.mono hb03.size)
    clear q0 q1 q2 q3 q4 q5
    obtain ⟨q0, q1, q2, q3, q4, q5⟩ := g4.cells
    obtain ⟨p0, p1, p2, p3, p4, p5⟩ := o4.cells
    have e5 := g4.free 5
    have f0 := o4.free 0
    have f1 := o4.free 1
    have f2 := o4.free 2
    have f3 := o4.free 3
    have f4 := o4.free 4
    have f5 := o4.free 5
    have hne1 : w.heap.size ≠ w2.heap.size := Nat.ne_of_lt hlt2
    have hne2 : w2.heap.size ≠ w.heap.size := fun e => hne1 e.symm
    go_wp2_with fail
    go_region
    go_wp2_with fail
    refine bodyPost_ret (v := .tuple #[.int .i64 S, .agg #[.int .i64 gen, .bool gone, .string nm, .int .i64 ix, .bool last, .slice A4 b.length c4], .int .i64 0]) (by simp [results, Try.results19, go_sem, p0, p1, p2, p3, p4, p5]) rfl ?_
    exact dec_fin HD2.out ho4 hlt3 g3.lt hb04 hb02.size
  · have d1 : decide ((64 : Int) ≤ (l.length : Int) ∧ (l.length : Int) ≤ 1024) = false := decide_eq_false (by omega)
    have HD2 : Hid (decD l = (0, Pg.zero, 3)) := Lib.hid (by rw [HD.out, if_neg hlen])
    clear hlen
    go_enter Try.func19, Try.ntmps19
    go_upto_region 1 with fail
    clear hw0
    obtain ⟨q0, q1, q2, q3, q4, q5⟩ := g0.cells
    have f0 := g0.free 0
    have f1 := g0.free 1
    have f2 := g0.free 2
    have f3 := g0.free 3
    have f4 := g0.free 4
    have f5 := g0.free 5
    go_wp2_with (first | (go_at_call 41; refine (isPageSize_any _ _).mono ?_; rintro e w' ⟨rfl, rfl⟩) | fail)
    refine bodyPost_ret (v := .tuple #[.int .i64 0, .agg #[.int .i64 0, .bool false, .string ⟨#[]⟩, .int .i64 0, .bool false, .slice none 0 0], .int .i64 3]) (by simp [results, Try.results19, go_sem, q0, q1, q2, q3, q4, q5]) rfl ?_
    exact ⟨none, 0, by rw [HD2.out]; rfl, .inl (by rw [HD2.out]; rfl), six_set b0 (Nat.le_refl _) _ _ _ _ _ _⟩
end Go.Proofs.Ythcijelebjgfkaa
