/- a page comes back, and with one flipped bit it is never another whole page: the law PagesComeBack answers true for every input. No condition. -/
import Derived.Test.YthcijelebjgfkaaPgBack
import Derived.Test.YthcijelebjgfkaaCloneY2
import Derived.Test.YthcijelebjgfkaaSameP
import Derived.Test.YthcijelebjgfkaaFlAwake
import Derived.Test.YthcijelebjgfkaaPageOpen
import Derived.Test.YthcijelebjgfkaaClosed
namespace Go.Proofs.Ythcijelebjgfkaa
open Go.ChangeShapes Go.WideShapes Go.ChangeAt Go.RowKit

set_option maxRecDepth 100000 in
set_option maxHeartbeats 4000000 in
theorem back_bad (ps : Int) (x : Pg) (A : Option Addr) (c : Nat) (t : Int) (w : World) (hs : x.name.size ≤ 9223372036854775807) (hx : x.bytes.length ≤ 9223372036854775807) (h : BR w w.heap.size A x.bytes) (h0 : encF ps x ≠ 0) :
    Calls Try.prog 6 #[.int .i64 ps, pgV x A c, .int .i64 t] w fun e w' => e = .returned (.bool true) ∧ Below w.heap.size w w' := by
  obtain ⟨w0, hw0⟩ : ∃ w0, w.alloc (.cells #[.int .i64 x.gen, .bool x.gone, .string x.name, .int .i64 x.ix, .bool x.last, .slice A x.bytes.length c] 40) = w0 := ⟨_, rfl⟩
  have b0 : Below w.heap.size w w0 := by rw [← hw0]; exact (Below.refl _ _).alloc (Nat.le_refl _) _
  have g0 : BoxP w0 w.heap.size (.int .i64 x.gen) (.bool x.gone) (.string x.name) (.int .i64 x.ix) (.bool x.last) (.slice A x.bytes.length c) := by rw [← hw0]; exact BoxP.new _ _ _ _ _ _ _
  have H1 := Lib.hid ((encode_any ps x A c w.heap.size w0 b0.size hs hx (h.below b0)).mono fun e w' (hp : EncPost ps x w0 e w') => (by
    obtain ⟨v, rfl, hb, hbad, -⟩ := hp
    rw [hbad h0]
    exact ⟨rfl, hb⟩ : e = .returned (.tuple #[.slice none 0 0, .int .i64 (encF ps x)]) ∧ Below w0.heap.size w0 w'))
  have t1 : (encF ps x != 0) = true := by simpa using h0
  clear h0
  generalize encF ps x = F at *
  obtain ⟨gen, gone, nm, ix, last, xb⟩ := x
  unfold pgV at *
  dsimp only at *
  go_enter Try.func6, Try.ntmps6
  go_upto_region 1 with fail
  clear hw0
  obtain ⟨q0, q1, q2, q3, q4, q5⟩ := g0.cells
  go_wp2_with fail
  refine H1.out.mono ?_
  rintro e w1 ⟨rfl, hb1⟩
  go_wp2_with fail
  refine (flAwake_any _).mono ?_
  rintro e w7 ⟨rfl, hb7⟩
  go_wp2
  go_ret
  have hb06 := b0.trans (hb1.mono b0.size)
  exact ⟨rfl, hb06.trans (hb7.mono hb06.size)⟩
/-- decoding known bytes -/
def DecForm (S F : Int) (X : Pg) (w : World) (e : Ending) (w' : World) : Prop :=
  ∃ A c, e = .returned (.tuple #[.int .i64 S, pgV X A c, .int .i64 F]) ∧ BR w' w'.heap.size A X.bytes ∧ Below w.heap.size w w'
theorem DecPost.form {l : List UInt8} {S F : Int} {X : Pg} {w w' : World} {e : Ending} (h : DecPost l w e w') (hd : decD l = (S, X, F)) : DecForm S F X w e w' := by
  obtain ⟨A, c, he, hB, hb⟩ := h
  rw [hd] at he hB
  exact ⟨A, c, he, hB, hb⟩
set_option maxRecDepth 100000 in
set_option maxHeartbeats 8000000 in
theorem back_good (ps : Int) (x : Pg) (A : Option Addr) (c : Nat) (t : Int) (w : World) (hs : x.name.size ≤ 9223372036854775807) (hx : x.bytes.length ≤ 9223372036854775807) (h : BR w w.heap.size A x.bytes) (h0 : encF ps x = 0) :
    Calls Try.prog 6 #[.int .i64 ps, pgV x A c, .int .i64 t] w fun e w' => e = .returned (.bool true) ∧ Below w.heap.size w w' := by
  have hok := enc_ok h0
  have hp := hok.hp
  obtain ⟨P, rfl⟩ : ∃ P : Nat, ps = (P : Int) := ⟨ps.toNat, by omega⟩
  have hLn := pgB_len hok
  have hback := pg_back hok
  have hturn := fun T (hT : T < 8 * P) => pg_turned hok T hT
  obtain ⟨w0, hw0⟩ : ∃ w0, w.alloc (.cells #[.int .i64 x.gen, .bool x.gone, .string x.name, .int .i64 x.ix, .bool x.last, .slice A x.bytes.length c] 40) = w0 := ⟨_, rfl⟩
  have b0 : Below w.heap.size w w0 := by rw [← hw0]; exact (Below.refl _ _).alloc (Nat.le_refl _) _
  have g0 : BoxP w0 w.heap.size (.int .i64 x.gen) (.bool x.gone) (.string x.name) (.int .i64 x.ix) (.bool x.last) (.slice A x.bytes.length c) := by rw [← hw0]; exact BoxP.new _ _ _ _ _ _ _
  have H1 := Lib.hid ((encode_any P x A c w.heap.size w0 b0.size hs hx (h.below b0)).mono fun e w' (hq : EncPost P x w0 e w') => (by
    obtain ⟨v, rfl, hb, -, hgood⟩ := hq
    have ho := hgood h0
    rw [Int.toNat_natCast] at ho
    rw [h0]
    exact ⟨v, rfl, ho, hb⟩ : ∃ v, e = .returned (.tuple #[v, .int .i64 0]) ∧ Own w' w0.heap.size v (pgB P x) ∧ Below w0.heap.size w0 w'))
  generalize pgB P x = L at *
  have hL1 : 64 ≤ L.length := by omega
  have hL2 : L.length ≤ 1024 := by omega
  have H3 := Lib.hid (fun (A1 : Option Addr) (c1 : Nat) (w1 : World) (hc : L.length ≤ c1) (hcm : c1 ≤ 9223372036854775807) (hB : BR w1 w1.heap.size A1 L) => (decode_any A1 c1 L w1 hc hcm hB).mono fun e w' hq => hq.form hback)
  have H4 := Lib.hid (fun (T : Nat) (hT : T < 8 * L.length) (A1 : Option Addr) (c1 : Nat) (w1 : World) (hc : L.length ≤ c1) (hcm : c1 ≤ 9223372036854775807) (hB : BR w1 w1.heap.size A1 (turned L T)) => (by
    have hd := decode_any A1 c1 (turned L T) w1 (by rw [turned_len]; exact hc) hcm hB
    rw [turned_len] at hd
    have hn := hturn T (by omega)
    refine hd.mono fun e w' hq => ⟨(decS (turned L T)).1, (decS (turned L T)).2, hn.1, hn.2, hq.form ?_⟩
    unfold decD
    rw [turned_len, if_pos ⟨hL1, hL2⟩] : Calls Try.prog 19 #[.slice A1 L.length c1] w1 fun e w' => ∃ S X, S ≠ 4 ∧ S ≠ 1 ∧ DecForm S 0 X w1 e w'))
  have HS := Lib.hid (fun (X : Pg) (A1 A2 : Option Addr) (c1 c2 : Nat) (w1 : World) (i1 : BR w1 w1.heap.size A1 X.bytes) (i2 : BR w1 w1.heap.size A2 X.bytes) => samePage_yes X A1 A2 c1 c2 w1.heap.size w1 (Nat.le_refl _) i1 i2)
  have HS2 := Lib.hid (HS.out x)
  unfold DecForm at H3 H4
  clear HS hLn hback hturn hok hp h0
  obtain ⟨gen, gone, nm, ix, last, xb⟩ := x
  unfold pgV at *
  dsimp only at *
  go_enter Try.func6, Try.ntmps6
  go_upto_region 1 with fail
  clear hw0
  obtain ⟨q0, q1, q2, q3, q4, q5⟩ := g0.cells
  go_wp2_with fail
  refine H1.out.mono ?_
  rintro e w1 ⟨v1, rfl, ho1, hb1⟩
  obtain ⟨g, c1, rfl, hlc1, hcm1, hgb, hr1⟩ := ho1.form2 (by omega)
  unfold maxLen at hcm1
  have hB1 := hr1.br
  go_wp2_with fail
  refine (H3.out _ c1 w1 hlc1 (by omega) hB1).mono ?_
  rintro e w3 ⟨A3, c3, rfl, i3, hb3⟩
  obtain ⟨wa, hwa⟩ : ∃ wa, w3.alloc (.cells #[.int .i64 gen, .bool gone, .string nm, .int .i64 ix, .bool last, .slice A3 xb.length c3] 40) = wa := ⟨_, rfl⟩
  have ba : Below w3.heap.size w3 wa := by rw [← hwa]; exact (Below.refl _ _).alloc (Nat.le_refl _) _
  have ga : BoxP wa w3.heap.size (.int .i64 gen) (.bool gone) (.string nm) (.int .i64 ix) (.bool last) (.slice A3 xb.length c3) := by rw [← hwa]; exact BoxP.new _ _ _ _ _ _ _
  have HWA := Lib.hid hwa
  have hb1a : Below w1.heap.size w1 wa := hb3.trans (ba.mono hb3.size)
  have gx : BoxP wa w.heap.size (.int .i64 gen) (.bool gone) (.string nm) (.int .i64 ix) (.bool last) (.slice A xb.length c) := (g0.below hb1 g0.lt).below hb1a (Nat.lt_of_lt_of_le g0.lt hb1.size)
  have hb01 := b0.trans (hb1.mono b0.size)
  have hb0a := hb01.trans (hb1a.mono hb01.size)
  have HS3 := Lib.hid (HS2.out A A3 c c3 wa ((h.below hb0a).lift hb0a.size) ((i3.below ba).lift ba.size))
  have hra := hr1.below hb1a hr1.lt
  clear hwa q0 q1 q2 q3 q4 q5 HS2 H3 H1
  obtain ⟨q0, q1, q2, q3, q4, q5⟩ := gx.cells
  obtain ⟨p0, p1, p2, p3, p4, p5⟩ := ga.cells
  go_upto_region 5 with fail
  rw [HWA.out]
  go_wp2_with fail
  refine HS3.out.mono ?_
  rintro e w5 ⟨rfl, hb5⟩
  have hb05 := hb0a.trans (hb5.mono hb0a.size)
  have hr5 := hra.below hb5 hra.lt
  have hB5 := hr5.br
  have HCL := Lib.hid (bclone_any (some ⟨g, 0, none⟩) c1 L w5.heap.size w5 (by omega) (by omega) (Nat.le_refl _) hB5)
  clear q0 q1 q2 q3 q4 q5 p0 p1 p2 p3 p4 p5
  go_upto_region 7 with fail
  by_cases ht0 : t < 0
  · go_wp2_with fail
    refine (flAwake_any _).mono ?_
    rintro e w7 ⟨rfl, hb7⟩
    go_wp2
    go_ret
    exact ⟨rfl, hb05.trans (hb7.mono hb05.size)⟩
  · have d1 : decide (t < 0) = false := decide_eq_false ht0
    by_cases ht1 : 8 * (L.length : Int) ≤ t
    · clear ht0
      go_wp2_with fail
      refine (flAwake_any _).mono ?_
      rintro e w7 ⟨rfl, hb7⟩
      go_wp2
      go_ret
      exact ⟨rfl, hb05.trans (hb7.mono hb05.size)⟩
    · obtain ⟨T, rfl⟩ : ∃ T : Nat, t = (T : Int) := ⟨t.toNat, by omega⟩
      have d2 : decide (8 * (L.length : Int) ≤ (T : Int)) = false := decide_eq_false ht1
      have hT8 : T < 8 * L.length := by omega
      have H5 := Lib.hid (H4.out T hT8)
      have hT : T / 8 < L.length := by omega
      have hS := turned_is L T hT
      have hxx := turn_byte L[T / 8] (T % 8) (by omega)
      have HSl := Lib.hid hS
      have HXX := Lib.hid hxx
      clear ht0 ht1 H4 hS hxx
      go_wp2_with fail
      refine HCL.out.mono ?_
      rintro e w6 ⟨v6, rfl, ho6, hb6⟩
      obtain ⟨g6, c6, rfl, hlc6, hcm6, hg6, hr6⟩ := ho6.form2 (by omega)
      unfold maxLen at hcm6
      have y0 := hr6.cell (T / 8) hT
      have y1 := hr6.free (T / 8)
      have hb06 := hb05.trans (hb6.mono hb05.size)
      go_wp2_with fail
      rw [HXX.out]
      have hr7 := hr6.set (T / 8) (L[T / 8] ^^^ UInt8.ofNat (128 / 2 ^ (T % 8)))
      rw [← HSl.out] at hr7
      have hb07 : Below w.heap.size w (w6.setCell ⟨g6, T / 8, none⟩ (.int .u8 ((L[T / 8] ^^^ UInt8.ofNat (128 / 2 ^ (T % 8))).toNat : Int))) := hb06.setCell (show w.heap.size ≤ g6 from Nat.le_trans hb05.size hg6) _
      generalize w6.setCell ⟨g6, T / 8, none⟩ (.int .u8 ((L[T / 8] ^^^ UInt8.ofNat (128 / 2 ^ (T % 8))).toNat : Int)) = w7 at *
      refine (H5.out (some ⟨g6, 0, none⟩) c6 w7 hlc6 (by omega) hr7.br).mono ?_
      rintro e w8 ⟨S, X, hS4, hS1, A8, c8, rfl, i8, hb8⟩
      obtain ⟨gen2, gone2, nm2, ix2, last2, yb⟩ := X
      dsimp only
      have e1 : (S != 4) = true := by simpa using hS4
      have e2 : (S != 1) = true := by simpa using hS1
      clear hS4 hS1
      have hb08 := hb07.trans (hb8.mono hb07.size)
      go_wp2_with fail
      refine (flAwake_any _).mono ?_
      rintro e w9 ⟨rfl, hb9⟩
      go_wp2
      go_ret
      exact ⟨rfl, hb08.trans (hb9.mono hb08.size)⟩
theorem back_any (ps : Int) (x : Pg) (A : Option Addr) (c : Nat) (t : Int) (w : World) (hs : x.name.size ≤ 9223372036854775807) (hx : x.bytes.length ≤ 9223372036854775807) (h : BR w w.heap.size A x.bytes) :
    Calls Try.prog 6 #[.int .i64 ps, pgV x A c, .int .i64 t] w fun e w' => e = .returned (.bool true) ∧ Below w.heap.size w w' := by
  by_cases h0 : encF ps x = 0
  · exact back_good ps x A c t w hs hx h h0
  · exact back_bad ps x A c t w hs hx h h0

set_option maxHeartbeats 1600000 in
set_option maxRecDepth 100000 in
theorem back_lifted (os : Os) (started : os.Started) (H : Type) (enc : TypeId × Value → H) :
    ReturnsInHanded {} Try.checked os 6 .any (Rows.pagesComeBackSpec.pre6 enc Try.prog Try.f6 Rows.pagesComeBackRow.domain false) (Rows.pagesComeBackSpec.post enc Try.prog Try.f6 false true false false) := by
  refine returnsInHanded_of_change (C := Try.checked) own started (by kernel_rfl) Try.func6
    (ChangeSpec.witness6 (enc := enc) (C := Try.checked) false ⟨#[], #[.int .i64 0, pgV ⟨0, false, ⟨#[]⟩, 0, false, []⟩ none 0, .int .i64 0], []⟩ 8 (by kernel_rfl) (by kernel_rfl) (by kernel_rfl) (by kernel_rfl)) ?_
  intro W base args ds gs before hval0 hW _ _
  have hval : ∀ (j : Nat) t v, Try.f6.params[j]? = some t → args[j]? = some v → Value.okWide Try.prog W .any base t v := hval0
  have hW' := hW
  have hlt := fun x hx => hW'.lt x hx
  obtain ⟨p, q, hA0, hV, rfl, _, _⟩ := hW
  have hA : DataW.TrodAll enc Try.prog W 0 (fun _ => true) true Try.f6.params.toList args.toList ds p := hA0
  rw [Try.params6] at hA hval
  obtain ⟨v0, v1, v2, d0, d1, d2, p0, p1, p2, rfl, rfl, rfl, h0, h1, h2⟩ := trodAll_three hA
  obtain ⟨rfl, rfl⟩ := trodVars_none hV
  obtain ⟨ps, rfl, rfl, rfl, wfps⟩ := open_int Try.underlying3 (hval 0 3 v0 rfl rfl) h0
  have hbps := bounds_i64 wfps
  obtain ⟨x, Ax, cx, rfl, hNx, hLx, hCx, hBx⟩ := open_page (fun x hx => hlt x (by simp [hx])) (hval 1 40 v1 rfl rfl) h1
  obtain ⟨t, rfl, rfl, rfl, wft⟩ := open_int Try.underlying3 (hval 2 3 v2 rfl rfl) h2
  have hbt := bounds_i64 wft
  refine (back_any ps x Ax cx t W hNx (by unfold maxLen at hCx; omega) hBx).mono fun e W' ⟨he, hb⟩ => ?_
  subst he
  exact ⟨_, rfl, law_post (by decide +kernel) rfl rfl hW' rfl hb⟩

set_option maxRecDepth 100000 in
theorem back_closed : joinedFacts Try.prog 6 Try.f6 Rows.pagesComeBackSpec Rows.pagesComeBackRow = true :=
  closed_all (by as_aux_lemma => kernel_rfl) (by as_aux_lemma => kernel_rfl) (by as_aux_lemma => kernel_rfl) (by as_aux_lemma => kernel_rfl) (by as_aux_lemma => kernel_rfl) (by as_aux_lemma => kernel_rfl) (by as_aux_lemma => kernel_rfl) (by as_aux_lemma => kernel_rfl) (by as_aux_lemma => kernel_rfl) (by as_aux_lemma => kernel_rfl) (by as_aux_lemma => kernel_rfl) (by as_aux_lemma => kernel_rfl) (by as_aux_lemma => kernel_rfl) (by as_aux_lemma => kernel_rfl) (by as_aux_lemma => kernel_rfl) (by as_aux_lemma => kernel_rfl) (by as_aux_lemma => kernel_rfl) (by as_aux_lemma => kernel_rfl) pKeys (by as_aux_lemma => kernel_rfl) pLifts pMake (by as_aux_lemma => kernel_rfl) (by as_aux_lemma => kernel_rfl) (by as_aux_lemma => kernel_rfl) (by as_aux_lemma => kernel_rfl)

theorem back_holds : Rows.PagesComeBackSaid :=
  OpenClaim.holds_of_wide 6 Try.f6 rfl rfl rfl rfl rfl rfl rfl ⟨rfl, rfl, rfl, rfl, rfl⟩ rfl rfl rfl rfl rfl (by kernel_rfl) Try.func6 back_closed
    (of_decide_eq_true (by kernel_rfl)) (by unfold Func.isWrapper; first | (rw [if_pos (by decide +kernel)]; kernel_rfl) | (rw [if_neg (by decide +kernel)]; exact ⟨rfl, rfl⟩))
    (fun os started H enc _ => back_lifted os started H enc)
#print axioms back_holds
end Go.Proofs.Ythcijelebjgfkaa
