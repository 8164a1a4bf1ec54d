/- CheckBank, Written, ReadAt and Flipped answer as the reference does: the law MemoryBanksMatchSpec answers true for every input. No condition. -/
import Derived.Test.YtidddoldkedicaaAwake
import Derived.Test.YtidddoldkedicaaRWritten
import Derived.Test.YtidddoldkedicaaRFlippedB
import Derived.Test.YtidddoldkedicaaSame
import Derived.Test.YtidddoldkedicaaCloseB
import Derived.Test.YtidddoldkedicaaClosed
namespace Go.Proofs.Ytidddoldkedicaa
open Go.ChangeShapes Go.WideShapes Go.ChangeAt Go.RowKit

theorem written_lens (l l' : List Int) (a z b : Int) (hl : l.length ≤ 9223372036854775807) (hl' : l'.length ≤ 9223372036854775807) :
    (writtenS l l' a z).1.1.length ≤ 9223372036854775807 ∧ (writtenS l l' a z).1.2.length ≤ 9223372036854775807 ∧ (flippedS l l' a b).1.1.length ≤ 9223372036854775807 ∧ (flippedS l l' a b).1.2.length ≤ 9223372036854775807 := by
  unfold writtenS flippedS
  refine ⟨?_, ?_, ?_, ?_⟩ <;> split <;> first | (split <;> first | (simp; omega) | simp) | simp
set_option maxRecDepth 100000 in
set_option maxHeartbeats 2000000 in
theorem lawBanks_any (A A' : Option Addr) (c c' : Nat) (l l' : List Int) (a z b : Int) (w : World) (hl : l.length ≤ 9223372036854775807) (hl' : l'.length ≤ 9223372036854775807) (h : IR w w.heap.size A l) (h' : IR w w.heap.size A' l') :
    Calls Try.prog 5 #[bankV A A' l.length l'.length c c', .int .i64 a, .int .i64 z, .int .i64 b] w fun e w' => e = .returned (.bool true) ∧ Below w.heap.size w w' := by
  have C1 := Lib.hid (fun (w1 : World) (hb : Below w.heap.size w w1) => written_any A A' c c' l l' a z w.heap.size w1 hb.size hl hl' (h.below hb) (h'.below hb))
  have C2 := Lib.hid (fun (w1 : World) (hb : Below w.heap.size w w1) => rwritten_any A A' c c' l l' a z w.heap.size w1 hb.size hl hl' (h.below hb) (h'.below hb))
  have C3 := Lib.hid (fun (w1 : World) (hb : Below w.heap.size w w1) => checkBank_any A A' c c' l l' w.heap.size w1 hb.size hl hl' (h.below hb) (h'.below hb))
  have C4 := Lib.hid (fun (w1 : World) (hb : Below w.heap.size w w1) => rcheckBank_any A A' c c' l l' w.heap.size w1 hb.size hl hl' (h.below hb) (h'.below hb))
  have C5 := Lib.hid (fun (w1 : World) (hb : Below w.heap.size w w1) => flippedB_any A A' c c' l l' a b w.heap.size w1 hb.size hl hl' (h.below hb) (h'.below hb))
  have C6 := Lib.hid (fun (w1 : World) (hb : Below w.heap.size w w1) => rflippedB_any A A' c c' l l' a b w.heap.size w1 hb.size hl hl' (h.below hb) (h'.below hb))
  have C7 := Lib.hid (fun (w1 : World) (hb : Below w.heap.size w w1) => readAt_any A A' c c' l l' a w.heap.size w1 hb.size hl hl' (h.below hb) (h'.below hb))
  have C8 := Lib.hid (fun (w1 : World) (hb : Below w.heap.size w w1) => rreadAt_any A A' c c' l l' a w.heap.size w1 hb.size hl hl' (h.below hb) (h'.below hb))
  have hlens := written_lens l l' a z b hl hl'
  generalize readS l l' a = Q at *
  obtain ⟨Q1, Q2, Q3⟩ := Q
  generalize chkB l l' = K at *
  generalize writtenS l l' a z = U at *
  generalize flippedS l l' a b = V at *
  obtain ⟨⟨X, X'⟩, F⟩ := U
  obtain ⟨⟨Y, Y'⟩, G⟩ := V
  unfold BankPost at C1 C2 C5 C6
  unfold bankV at C1 C2 C3 C4 C5 C6 C7 C8 ⊢
  simp only [three'] at C1 C2 C5 C6 C7 C8
  generalize hw0 : w.alloc (.cells #[.slice A l.length c, .slice A' l'.length c'] 33) = w0
  have b0 : Below w.heap.size w w0 := by rw [← hw0]; exact box_below _ _
  have z0 : w0.heap.size = w.heap.size + 1 := by rw [← hw0]; simp
  have h0 : HeldB w0 w.heap.size (.slice A l.length c) (.slice A' l'.length c') := by rw [← hw0]; exact HeldB.new _ _ _
  clear h h'
  obtain ⟨p1, p2⟩ := h0.cells
  have C1' := Lib.hid (C1.out w0 b0)
  go_enter Try.func5, Try.ntmps5
  go_wp2_with fail
  refine C1'.out.mono ?_
  rintro e w1 ⟨D, D', k, k', rfl, i1, i1', hb1, -, -⟩
  clear hw0 p1 p2 C1 C1'
  have bx1 := b0.trans (hb1.mono (by omega))
  have s1 := hb1.size
  generalize hwa : w1.alloc (.cells #[.slice D X.length k, .slice D' X'.length k'] 33) = wa
  have ba : Below w1.heap.size w1 wa := by rw [← hwa]; exact box_below _ _
  have za : wa.heap.size = w1.heap.size + 1 := by rw [← hwa]; simp
  have g0 := (h0.below hb1 (by omega)).below ba (by omega)
  have g9 : HeldB wa w1.heap.size (.slice D X.length k) (.slice D' X'.length k') := by rw [← hwa]; exact HeldB.new _ _ _
  have bxa := bx1.trans (ba.mono (by omega))
  have C2' := Lib.hid (C2.out wa bxa)
  obtain ⟨p1, p2⟩ := g0.cells
  go_wp2_with fail
  refine C2'.out.mono ?_
  rintro e w2 ⟨E, E', m, m', rfl, i2, i2', hb2, -, -⟩
  clear hwa p1 p2 C2 C2'
  have s2 := hb2.size
  generalize hwb : w2.alloc (.cells #[.slice E X.length m, .slice E' X'.length m'] 33) = wb
  have bb : Below w2.heap.size w2 wb := by rw [← hwb]; exact box_below _ _
  have zb : wb.heap.size = w2.heap.size + 1 := by rw [← hwb]; simp
  have j0 := (g0.below hb2 (by omega)).below bb (by omega)
  have j9 := (g9.below hb2 (by omega)).below bb (by omega)
  have j11 : HeldB wb w2.heap.size (.slice E X.length m) (.slice E' X'.length m') := by rw [← hwb]; exact HeldB.new _ _ _
  have bxb := (bxa.trans (hb2.mono (by omega))).trans (bb.mono (by omega))
  have f1 : IR wb wb.heap.size D X := (((i1.below ba).below (hb2.mono (by omega))).below (bb.mono (by omega))).lift (by omega)
  have f1' : IR wb wb.heap.size D' X' := (((i1'.below ba).below (hb2.mono (by omega))).below (bb.mono (by omega))).lift (by omega)
  have f2 : IR wb wb.heap.size E X := (i2.below bb).lift (by omega)
  have f2' : IR wb wb.heap.size E' X' := (i2'.below bb).lift (by omega)
  have hX : X.length ≤ 9223372036854775807 ∧ X'.length ≤ 9223372036854775807 ∧ Y.length ≤ 9223372036854775807 ∧ Y'.length ≤ 9223372036854775807 := hlens
  have HSM := Lib.hid (fun (w1 : World) (hb : Below wb.heap.size wb w1) => (same_yes D D' E E' k k' m m' X X' wb.heap.size w1 hb.size hX.1 hX.2.1 (f1.below hb) (f1'.below hb) (f2.below hb) (f2'.below hb)).mono fun e w' ⟨he, h2⟩ => (⟨he, hb.trans (h2.mono hb.size)⟩ : e = Ending.returned (.bool true) ∧ Below wb.heap.size wb w'))
  have HCB := Lib.hid (fun (w1 : World) (hb : Below wb.heap.size wb w1) => (C3.out w1 (bxb.trans (hb.mono (by omega)))).mono fun e w' ⟨he, h2⟩ => (⟨he, hb.trans (h2.mono hb.size)⟩ : e = Ending.returned (.int .i64 K) ∧ Below wb.heap.size wb w'))
  have HCR := Lib.hid (fun (w1 : World) (hb : Below wb.heap.size wb w1) => (C4.out w1 (bxb.trans (hb.mono (by omega)))).mono fun e w' ⟨he, h2⟩ => (⟨he, hb.trans (h2.mono hb.size)⟩ : e = Ending.returned (.int .i64 K) ∧ Below wb.heap.size wb w'))
  unfold bankV at HSM
  have hS : ∀ w', Below wb.heap.size wb w' → (w'.cell? ⟨w.heap.size, 0, none⟩ = some (.slice A l.length c) ∧ w'.cell? ⟨w.heap.size, 1, none⟩ = some (.slice A' l'.length c') ∧ w'.cell? ⟨w1.heap.size, 0, none⟩ = some (.slice D X.length k) ∧ w'.cell? ⟨w1.heap.size, 1, none⟩ = some (.slice D' X'.length k') ∧ w'.cell? ⟨w2.heap.size, 0, none⟩ = some (.slice E X.length m) ∧ w'.cell? ⟨w2.heap.size, 1, none⟩ = some (.slice E' X'.length m')) := fun w' hb =>
    have q0 := j0.below hb (by omega)
    have q9 := j9.below hb (by omega)
    have q11 := j11.below hb (by omega)
    ⟨q0.cells.1, q0.cells.2, q9.cells.1, q9.cells.2, q11.cells.1, q11.cells.2⟩
  have HSS := Lib.hid hS
  clear hS C3 C4
  have hbb : Below wb.heap.size wb wb := Below.refl _ _
  have hkk : (K != K) = false := by simp
  have hff : (F != F) = false := by simp
  go_wp2_with fail
  clear hwb
  go_region_held3 (fun w' => w'.cell? ⟨w.heap.size, 0, none⟩ = some (.slice A l.length c) ∧ w'.cell? ⟨w.heap.size, 1, none⟩ = some (.slice A' l'.length c') ∧ w'.cell? ⟨w1.heap.size, 0, none⟩ = some (.slice D X.length k) ∧ w'.cell? ⟨w1.heap.size, 1, none⟩ = some (.slice D' X'.length k') ∧ w'.cell? ⟨w2.heap.size, 0, none⟩ = some (.slice E X.length m) ∧ w'.cell? ⟨w2.heap.size, 1, none⟩ = some (.slice E' X'.length m'))
    (first | with_reducible exact HSS.out _ hbb | with_reducible exact HSS.out _ hbb.drew | with_reducible exact HSS.out _ (by assumption) | with_reducible exact HSS.out _ (Below.drew (by assumption)))
    (first
     | (go_at_call 26
        with_reducible refine (HCB.out _ ?_).mono ?_
        · first | with_reducible exact hbb.drew | with_reducible exact hbb
        rintro e w3 ⟨rfl, hb3⟩)
     | (go_at_call 27
        with_reducible refine (HCR.out _ ?_).mono ?_
        · first | with_reducible exact hb3.drew | with_reducible exact hb3
        rintro e w4 ⟨rfl, hb4⟩)
     | (go_at_call 28
        with_reducible refine (HSM.out _ ?_).mono ?_
        · first | with_reducible exact hb4.drew | with_reducible exact hb4
        rintro e w5 ⟨rfl, hb5⟩))
  have q0 := j0.below hb5 (by omega)
  have q9 := j9.below hb5 (by omega)
  have q11 := j11.below hb5 (by omega)
  have bx5 := bxb.trans (hb5.mono (by omega))
  have s5 := hb5.size
  have C5' := Lib.hid (C5.out w5 bx5)
  obtain ⟨p1, p2⟩ := q0.cells
  clear hb3 hb4 HSS HSM HCB HCR f1 f1' f2 f2' hbb
  go_wp2_with fail
  refine C5'.out.mono ?_
  rintro e w6 ⟨M, M', n, n', rfl, i3, i3', hb6, hM, hM'⟩
  clear C5 C5' p1 p2
  have s6 := hb6.size
  have u0 := (q0.below hb6 (by omega)).other (k := 0) (u := .slice M Y.length n) (g := w1.heap.size) (by omega) |>.other (k := 1) (u := .slice M' Y'.length n') (g := w1.heap.size) (by omega)
  have u9' := q9.below hb6 (by omega)
  have v1 := u9'.free 0
  have v2 := u9'.free 1
  obtain ⟨v3, v4⟩ := u9'.cells
  have u9 := u9'.set (.slice M Y.length n) (.slice M' Y'.length n')
  have u11 := (q11.below hb6 (by omega)).other (k := 0) (u := .slice M Y.length n) (g := w1.heap.size) (by omega) |>.other (k := 1) (u := .slice M' Y'.length n') (g := w1.heap.size) (by omega)
  have bx6 := ((bx5.trans (hb6.mono (by omega))).setCell (p := ⟨w1.heap.size, 0, none⟩) (by show _ ≤ w1.heap.size; omega) (.slice M Y.length n)).setCell (p := ⟨w1.heap.size, 1, none⟩) (by show _ ≤ w1.heap.size; omega) (.slice M' Y'.length n')
  generalize hwc : (w6.setCell ⟨w1.heap.size, 0, none⟩ (.slice M Y.length n)).setCell ⟨w1.heap.size, 1, none⟩ (.slice M' Y'.length n') = wc at *
  have zc : wc.heap.size = w6.heap.size := by rw [← hwc]; simp [World.setCell]
  have bc : Below w1.heap.size w6 wc := by rw [← hwc]; exact ((Below.refl _ _).setCell (p := ⟨w1.heap.size, 0, none⟩) (Nat.le_refl _) _).setCell (p := ⟨w1.heap.size, 1, none⟩) (Nat.le_refl _) _
  have k3 : IR wc wc.heap.size M Y := by
    rw [zc, ← hwc]
    exact (i3.other fun ad q => by have := hM ad q; omega).other fun ad q => by have := hM ad q; omega
  have k3' : IR wc wc.heap.size M' Y' := by
    rw [zc, ← hwc]
    exact (i3'.other fun ad q => by have := hM' ad q; omega).other fun ad q => by have := hM' ad q; omega
  have C6' := Lib.hid (C6.out wc bx6)
  obtain ⟨p1, p2⟩ := u0.cells
  go_wp2_with fail
  refine C6'.out.mono ?_
  rintro e w7 ⟨N, N', o, o', rfl, i4, i4', hb7, hN, hN'⟩
  clear C6 C6' p1 p2 hwc v1 v2 v3 v4
  have s7 := hb7.size
  have x0 := (u0.below hb7 (by omega)).other (k := 0) (u := .slice N Y.length o) (g := w2.heap.size) (by omega) |>.other (k := 1) (u := .slice N' Y'.length o') (g := w2.heap.size) (by omega)
  have x11' := u11.below hb7 (by omega)
  have v1 := x11'.free 0
  have v2 := x11'.free 1
  obtain ⟨v3, v4⟩ := x11'.cells
  have x11 := x11'.set (.slice N Y.length o) (.slice N' Y'.length o')
  have x9 := (u9.below hb7 (by omega)).other (k := 0) (u := .slice N Y.length o) (g := w2.heap.size) (by omega) |>.other (k := 1) (u := .slice N' Y'.length o') (g := w2.heap.size) (by omega)
  have bx7 := ((bx6.trans (hb7.mono (by have := bx6.size; omega))).setCell (p := ⟨w2.heap.size, 0, none⟩) (by show _ ≤ w2.heap.size; omega) (.slice N Y.length o)).setCell (p := ⟨w2.heap.size, 1, none⟩) (by show _ ≤ w2.heap.size; omega) (.slice N' Y'.length o')
  generalize hwd : (w7.setCell ⟨w2.heap.size, 0, none⟩ (.slice N Y.length o)).setCell ⟨w2.heap.size, 1, none⟩ (.slice N' Y'.length o') = wd at *
  have zd : wd.heap.size = w7.heap.size := by rw [← hwd]; simp [World.setCell]
  have k4 : IR wd wd.heap.size N Y := by
    rw [zd, ← hwd]
    exact (i4.other fun ad q => by have := hN ad q; omega).other fun ad q => by have := hN ad q; omega
  have k4' : IR wd wd.heap.size N' Y' := by
    rw [zd, ← hwd]
    exact (i4'.other fun ad q => by have := hN' ad q; omega).other fun ad q => by have := hN' ad q; omega
  have k5 : IR wd wd.heap.size M Y := by
    rw [zd, ← hwd]
    exact (((k3.below hb7).lift (by omega)).other fun ad q => by have := hM ad q; omega).other fun ad q => by have := hM ad q; omega
  have k5' : IR wd wd.heap.size M' Y' := by
    rw [zd, ← hwd]
    exact (((k3'.below hb7).lift (by omega)).other fun ad q => by have := hM' ad q; omega).other fun ad q => by have := hM' ad q; omega
  have HSM := Lib.hid (same_yes M M' N N' n n' o o' Y Y' wd.heap.size wd (Nat.le_refl _) hlens.2.2.1 hlens.2.2.2 k5 k5' k4 k4')
  unfold bankV at HSM
  obtain ⟨p1, p2⟩ := x9.cells
  obtain ⟨p3, p4⟩ := x11.cells
  obtain ⟨p5, p6⟩ := x0.cells
  have hgg : (G != G) = false := by simp
  go_wp2_with fail
  refine HSM.out.mono ?_
  rintro e w8 ⟨rfl, hb8⟩
  clear hwd p1 p2 p3 p4 p5 p6 HSM v1 v2 v3 v4
  obtain ⟨p1, p2⟩ := (x0.below hb8 (by omega)).cells
  have bx8 := bx7.trans (hb8.mono (by omega))
  have C7' := Lib.hid (C7.out w8 bx8)
  go_wp2_with fail
  refine C7'.out.mono ?_
  rintro e w9 ⟨rfl, hb9⟩
  have s8 := hb8.size
  obtain ⟨p3, p4⟩ := ((x0.below hb8 (by omega)).below hb9 (by omega)).cells
  have bx9 := bx8.trans (hb9.mono (by omega))
  have C8' := Lib.hid (C8.out w9 bx9)
  clear p1 p2
  go_wp2_with fail
  refine C8'.out.mono ?_
  rintro e w10 ⟨rfl, hb10⟩
  have bx10 := bx9.trans (hb10.mono (by have := hb9.size; omega))
  go_wp2_with (first | (go_at_call 22; refine (awake_any _).mono ?_; rintro e w' ⟨rfl, rfl⟩) | fail)
  go_ret
  exact ⟨rfl, bx10⟩

set_option maxHeartbeats 1600000 in
set_option maxRecDepth 100000 in
theorem banks_lifted (os : Os) (started : os.Started) (H : Type) (enc : TypeId × Value → H) :
    ReturnsInHanded {} Try.checked os 5 .any (Rows.memoryBanksMatchSpecSpec.pre6 enc Try.prog Try.f5 Rows.memoryBanksMatchSpecRow.domain false) (Rows.memoryBanksMatchSpecSpec.post enc Try.prog Try.f5 false true false false) := by
  refine returnsInHanded_of_change (C := Try.checked) own started (by kernel_rfl) Try.func5
    (ChangeSpec.witness6 (enc := enc) (C := Try.checked) false ⟨#[], #[.agg #[.slice none 0 0, .slice none 0 0], .int .i64 0, .int .i64 0, .int .i64 0], []⟩ 8 (by kernel_rfl) (by kernel_rfl) (by kernel_rfl) (by kernel_rfl)) ?_
  intro W base args ds gs before hval0 hW _ _
  have hval : ∀ (j : Nat) t v, Try.f5.params[j]? = some t → args[j]? = some v → Value.okWide Try.prog W .any base t v := hval0
  have hW' := hW
  have hlt := fun x hx => hW'.lt x hx
  obtain ⟨p, q, hA0, hV, rfl, _, _⟩ := hW
  have hA : DataW.TrodAll enc Try.prog W 0 (fun _ => true) true Try.f5.params.toList args.toList ds p := hA0
  rw [Try.params5] at hA hval
  obtain ⟨v0, v1, v2, v3, d0, d1, d2, d3, p0, p1, p2, p3, rfl, rfl, rfl, h0, h1, h2, h3⟩ := trodAll_four hA
  obtain ⟨rfl, rfl⟩ := trodVars_none hV
  obtain ⟨Ab, Ab', cb, cb', b, b', rfl, hlb, hlb', hBb, hBb'⟩ := open_bank (fun x hx => hlt x (by simp [hx])) (hval 0 33 v0 rfl rfl) h0
  obtain ⟨n, rfl, rfl, rfl, wfn⟩ := open_int Try.underlying3 (hval 1 3 v1 rfl rfl) h1
  have hbn := bounds_i64 wfn
  obtain ⟨m, rfl, rfl, rfl, wfm⟩ := open_int Try.underlying3 (hval 2 3 v2 rfl rfl) h2
  have hbm := bounds_i64 wfm
  obtain ⟨k, rfl, rfl, rfl, wfk⟩ := open_int Try.underlying3 (hval 3 3 v3 rfl rfl) h3
  have hbk := bounds_i64 wfk
  refine (lawBanks_any Ab Ab' cb cb' b b' n m k W hlb hlb' hBb hBb').mono fun e W' ⟨he, hb⟩ => ?_
  subst he
  exact ⟨_, rfl, law_post (by decide +kernel) rfl rfl hW' rfl hb⟩

set_option maxRecDepth 100000 in
theorem banks_closed : joinedFacts Try.prog 5 Try.f5 Rows.memoryBanksMatchSpecSpec Rows.memoryBanksMatchSpecRow = true :=
  closed_all (by as_aux_lemma => kernel_rfl) (by as_aux_lemma => kernel_rfl) (by as_aux_lemma => kernel_rfl) (by as_aux_lemma => kernel_rfl) (by as_aux_lemma => kernel_rfl) (by as_aux_lemma => kernel_rfl) (by as_aux_lemma => kernel_rfl) (by as_aux_lemma => kernel_rfl) (by as_aux_lemma => kernel_rfl) (by as_aux_lemma => kernel_rfl) (by as_aux_lemma => kernel_rfl) (by as_aux_lemma => kernel_rfl) (by as_aux_lemma => kernel_rfl) (by as_aux_lemma => kernel_rfl) (by as_aux_lemma => kernel_rfl) (by as_aux_lemma => kernel_rfl) (by as_aux_lemma => kernel_rfl) (by as_aux_lemma => kernel_rfl) pKeys (by as_aux_lemma => kernel_rfl) pLifts pMake (by as_aux_lemma => kernel_rfl) (by as_aux_lemma => kernel_rfl) (by as_aux_lemma => kernel_rfl) (by as_aux_lemma => kernel_rfl)

theorem banks_holds : Rows.MemoryBanksMatchSpecSaid :=
  OpenClaim.holds_of_wide 5 Try.f5 rfl rfl rfl rfl rfl rfl rfl ⟨rfl, rfl, rfl, rfl, rfl⟩ rfl rfl rfl rfl rfl (by kernel_rfl) Try.func5 banks_closed
    (of_decide_eq_true (by kernel_rfl)) (by unfold Func.isWrapper; first | (rw [if_pos (by decide +kernel)]; kernel_rfl) | (rw [if_neg (by decide +kernel)]; exact ⟨rfl, rfl⟩))
    (fun os started H enc _ => banks_lifted os started H enc)
#print axioms banks_holds
end Go.Proofs.Ytidddoldkedicaa
