/- the walk of the program's Slowest. -/
import Derived.Test.YteelepjhlhifhaaReadAs
import Derived.Test.YteelepjhlhifhaaRounds
namespace Go.Proofs.Yteelepjhlhifhaa
open Go.RowKit
attribute [local go_sem] setCell_draws alloc_draws

theorem slow_yes {ok : Nat → Bool} {u e : Nat} (hok : ∀ e, u < e → ok e = ok (u + 1)) (h : ok (e + 1) = true) : slowN ok u (e + 1) = e + 1 := by
  unfold slowN
  by_cases h1 : u < e + 1
  · rw [if_pos h1, if_pos (by rw [← hok _ h1]; exact h)]
  · rw [if_neg h1]
    unfold srch
    rw [if_pos h]
theorem slow_no {ok : Nat → Bool} {u e : Nat} (hok : ∀ e, u < e → ok e = ok (u + 1)) (h : ok (e + 1) = false) : slowN ok u (e + 1) = slowN ok u (min e u) := by
  unfold slowN
  by_cases h1 : u < e + 1
  · rw [if_pos h1, if_neg (by rw [← hok _ h1, h]; simp), if_neg (by omega), Nat.min_eq_right (by omega)]
  · rw [if_neg h1, if_neg (by omega), Nat.min_eq_left (by omega)]
    conv => lhs; unfold srch
    rw [if_neg (by rw [h]; simp)]
/-- the right codes of words -/
def rightC (l' : List Int) : List Nat := l'.map fun z => codeN z.toNat
theorem rightC_len (l' : List Int) : (rightC l').length = l'.length := by simp [rightC]
theorem rightC_take (l' : List Int) (j : Nat) (h : j < l'.length) : rightC (l'.take (j + 1)) = rightC (l'.take j) ++ [codeN (l'[j]).toNat] := by
  rw [List.take_succ_eq_append_getElem h]
  unfold rightC
  rw [List.map_append]
  rfl
theorem reads_near {l' : List Int} {C : List Nat} (hC : ∀ j (h : j < C.length), C[j] < 4194304) (hw : ∀ k (h : k < l'.length), 0 ≤ l'[k] ∧ l'[k] ≤ 65535) (hl : l'.length = C.length) : ∀ k, k ≤ C.length → readsT (ints C) l' k = nearT C (rightC l') k
  | 0, _ => rfl
  | k + 1, hk => by
    have ih := reads_near hC hw hl k (by omega)
    unfold readsT nearT
    rw [ih]
    congr 1
    have h1 : (ints C).getD k 0 = ((C[k]'(by omega) : Nat) : Int) := by
      have := ints_get C k (by omega)
      simp [List.getD, ints_len, show k < C.length by omega, this]
    have h2 : C.getD k 0 = C[k]'(by omega) := by simp [List.getD, show k < C.length by omega]
    have h3 : (rightC l').getD k 0 = codeN (l'[k]'(by omega)).toNat := by simp [List.getD, rightC, show k < l'.length by omega]
    have h4 : l'.getD k 0 = l'[k]'(by omega) := by simp [List.getD, show k < l'.length by omega]
    have := hw k (by omega)
    rw [h1, h2, h3, h4]
    obtain ⟨n, hn⟩ : ∃ n : Nat, l'[k]'(by omega) = (n : Int) := ⟨(l'[k]'(by omega)).toNat, by omega⟩
    rw [hn, Int.toNat_natCast]
    exact readP_near _ n (hC k (by omega)) (by omega)
theorem OwnS.cut {w : World} {base : Nat} {D : Option Addr} {n c : Nat} {l : List Scr} (h : OwnS w base (.slice D n c) l) : OwnS w base (.slice D 0 c) [] := by
  refine ⟨by simp [scells], ?_⟩
  rcases h.2 with ⟨e, _⟩ | ⟨g, cap, cur, e, h1, h2, h3, h4, h5, h6⟩
  · injection e with e1 e2 e3
    subst e1 e3
    exact .inl ⟨rfl, rfl⟩
  · injection e with e1 e2 e3
    subst e1 e3
    exact .inr ⟨g, c, cur, rfl, h1, h2, Nat.zero_le _, h4, h5, by simp [scells]⟩
theorem OwnS.kept {w w' : World} {base n : Nat} {v : Value} {l : List Scr} (h : OwnS w base v l) (hk : ∀ B, Kept B n w w') (hn : n < base) : OwnS w' base v l :=
  h.same fun k hk1 _ => (hk (k + 1)).block k (by omega) (by omega)

set_option maxRecDepth 100000 in
set_option maxHeartbeats 4000000 in
theorem slowest_any (A A' Af : Option Addr) (c c' cf : Nat) (l l' : List Int) (e m : Int) (f : List Flp) (u q : Int) (B : Nat) (w : World) (hB : B ≤ w.heap.size) (hl : l.length ≤ 9223372036854775807) (hl' : l'.length ≤ 9223372036854775807) (hfl : f.length ≤ cf) (hcf : cf ≤ maxLen) (h : IR w B A l) (h' : IR w B A' l') (hf : FR w B Af f) :
    Calls Try.prog 39 #[bankV A A' l.length l'.length c c', .agg #[.int .i64 e, .int .i64 m], .slice Af f.length cf, .int .i64 u, .int .i64 q] w fun e' w' => e' = .returned (.tuple #[.int .i64 (slowS l l' m f u q).1, .bool (slowS l l' m f u q).2.1, .int .i64 (slowS l l' m f u q).2.2]) ∧ Below w.heap.size w w' := by
  have hfl2 : f.length ≤ 9223372036854775807 := by unfold maxLen at hcf; omega
  have HC := Lib.hid (fun (w1 : World) (hb : Below w.heap.size w w1) => checkSlowest_any A A' Af c c' cf l l' m f u q B w1 (Nat.le_trans hB hb.size) hl hl' hfl2 (h.below (hb.mono hB)) (h'.below (hb.mono hB)) (hf.below (hb.mono hB)))
  obtain ⟨R, hRe⟩ : ∃ R, R = slowS l l' m f u q := ⟨_, rfl⟩
  rw [← hRe]
  have HR := Lib.hid (show R = if chkS l l' m f u q = 0 then (((slowN (okE l l' m.toNat f u.toNat) u.toNat q.toNat : Nat) : Int), (slowN (okE l l' m.toNat f u.toNat) u.toNat q.toNat != 0), 0) else (0, false, chkS l l' m f u q) from hRe)
  clear hRe
  have hnm := fun p => chkS_nums (l := l) (l' := l') (m := m) (u := u) (q := q) (f := f) p
  unfold bankV at HC ⊢
  obtain ⟨w0, hw0⟩ : ∃ w0, (w.alloc (.cells #[.slice A l.length c, .slice A' l'.length c'] 52)).alloc (.cells #[.int .i64 e, .int .i64 m] 68) = w0 := ⟨_, rfl⟩
  obtain ⟨b0, z0, h0, hx0⟩ := boxes2_held _ _ _ _ w w0 hw0
  have HCC := Lib.hid (HC.out w0 b0)
  have HW0 := Lib.hid hw0
  clear HC hw0
  obtain ⟨p1, p2⟩ := h0.cells
  obtain ⟨p3, p4⟩ := rcells (w := w0) rfl hx0
  generalize chkS l l' m f u q = P at *
  by_cases hP : P = 0
  · subst hP
    obtain ⟨M, U, Q, rfl, rfl, rfl, -, hM, hU, hQ, hUM, hr, hf2, hok⟩ := hnm rfl
    rw [if_pos rfl] at HR
    simp only [Int.toNat_natCast] at HR
    have hfew := hr.few
    have hpos := hr.pos
    have HSAME := Lib.hid hr.same
    have HWORDS := Lib.hid hr.words
    have HOK := Lib.hid (right_ok hr 0 hr.pos [])
    have HIN := Lib.hid (right_ints hr)
    have HOKF := Lib.hid hok
    have HFAR := Lib.hid (okE_far l l' M f U)
    have HEQ : Hid (∀ E, okE l l' M f U E = nearT (runEnd E M U ⟨nats l, 0, []⟩ f).C (rightC l') l.length) := Lib.hid fun E => by
      have h3 := (flipU_ok (U : Int) _ _ (run_ok (every := E) (many := M) HOK.out HOKF.out (U / E)).1 (run_ok (every := E) (many := M) HOK.out HOKF.out (U / E)).2).1
      have hlen : (runEnd E M U ⟨nats l, 0, []⟩ f).C.length = l.length := h3.len
      have := reads_near (C := (runEnd E M U ⟨nats l, 0, []⟩ f).C) h3.codes HWORDS.out (by rw [hlen]; exact HSAME.out) l.length (by omega)
      exact this
    have HEND : Hid (∀ E, (runEnd E M U ⟨nats l, 0, []⟩ f).ok l.length) := Lib.hid fun E => by
      have h3 := (flipU_ok (U : Int) _ _ (run_ok (every := E) (many := M) HOK.out HOKF.out (U / E)).1 (run_ok (every := E) (many := M) HOK.out HOKF.out (U / E)).2).1
      exact ⟨h3.len, (run_ok (every := E) (many := M) HOK.out HOKF.out (U / E)).1.next, h3.codes⟩
    generalize okE l l' M f U = ok at *
    clear hnm hr hok
    go_enter Try.func39, Try.ntmps39
    go_upto_region 1 with fail
    rw [HW0.out]
    go_wp2_with fail
    refine HCC.out.mono ?_
    rintro e' w1 ⟨rfl, hb1⟩
    clear p1 p2 p3 p4 HCC HW0
    have hs1 := hb1.size
    have hb2 := b0.trans (hb1.mono (by omega))
    have hs2 := hb2.size
    have h1 := h0.below hb1 (by omega)
    obtain ⟨p1, p2⟩ := h1.cells
    have h'1 : IR w1 w1.heap.size A' l' := (h'.below (hb2.mono hB)).lift (by omega)
    have hl2 : l'.length ≤ 2000 := by have := HSAME.out; omega
    have hat1 : OwnI w1 w1.heap.size (.slice none 0 0) (ints (rightC (l'.take 0))) ∧ Below w1.heap.size w1 w1 := ⟨OwnI.nil _ _, Below.refl _ _⟩
    go_upto_region 6 with fail
    go_loopw [14, 16, 32] (fun v _ i wr => ∃ j : Nat, j ≤ l'.length ∧ i = .int .i64 (j : Int) ∧ OwnI wr w1.heap.size v (ints (rightC (l'.take j))) ∧ Below w1.heap.size w1 wr) (fun _ _ i _ => l'.length - (intOf i).toNat)
    case atStart => exact ⟨0, Nat.zero_le _, rfl, hat1⟩
    case round =>
      obtain ⟨j, hj, rfl, hO, hK⟩ := hrel
      by_cases hlt : j < l'.length
      · obtain ⟨ad, hA, hd, x1⟩ := (h'1.below hK).get j hlt
        have hwd := HWORDS.out j hlt
        have HT := Lib.hid (rightC_take l' j hlt)
        have hln : (rightC (l'.take j)).length ≤ 2000 := by rw [rightC_len]; simp; omega
        generalize rightC (l'.take j) = T at *
        obtain ⟨n, hn⟩ : ∃ n : Nat, l'[j] = (n : Int) := ⟨(l'[j]).toNat, by omega⟩
        rw [hn] at x1 hwd HT
        rw [Int.toNat_natCast] at HT
        clear hn
        have hj0 : (0 : Int) ≤ (j : Int) := Int.natCast_nonneg _
        have hj1 : (j : Int) < (l'.length : Int) := by omega
        subst hA
        have HCO := Lib.hid (fun w => coded_any n (by omega) w)
        generalize codeN n = X at *
        have hTl : (ints T).length ≤ 2000 := by rw [ints_len]; exact hln
        have hsz6 := hK.size
        have HO1 := Lib.hid (fun q (hq : Value.ownBlock u14 = some q) => (World.ownsRow.lt hO q hq).1)
        have HBW := Lib.hid (fun o => hK.alloc (by omega) o)
        go_wp2_with (first | (go_at_call 68; refine (HCO.out _).mono ?_; rintro e w' ⟨rfl, rfl⟩) | (at_builtin; refine wpList_app _ rfl (.tmp 36) (.tmp 39) 22 3 1 8 rfl elemI w1.heap.size u14 (ints T).length ((ints T).map iv) rfl (World.ownsRow.alloc hO _) (wr.heap.size + 1) _ 1 1 ([(X : Int)].map iv) rfl rfl (Cells.fresh wr _ 3 _ _ rfl) (iv_one _) (by unfold maxLen; omega) (by omega) (by simp; omega) ?_; intro v3 w7 hown3 hgrow3 hat3; have hb7 := (HBW.out _).grown hgrow3 (by simp; omega) HO1.out) | fail)
        have ho3 := OwnI.of (a := ints T) (b := [(X : Int)]) hown3 rfl
        refine ⟨⟨j + 1, by omega, by go_num, ?_, hb7⟩, by simp [intOf]; omega⟩
        rw [HT.out]
        simpa [ints] using ho3
      · obtain rfl : j = l'.length := by omega
        rw [List.take_length] at hO
        obtain ⟨Dr, ck, rfl, hID⟩ := hO.form
        rw [ints_len, rightC_len]
        have sr := hK.size
        have h2 := h1.below hK (by omega)
        obtain ⟨p3, p4⟩ := h2.cells
        have hx2 : wr.heap[w.heap.size + 1]? = some (.cells #[.int .i64 e, .int .i64 (M : Int)] 68 (0, 0)) := ((hb1.trans (hK.mono hs1)).block (w.heap.size + 1) (by omega)).trans hx0
        have bxr : Below w.heap.size w wr := hb2.trans (hK.mono (by omega))
        have HCL := Lib.hid (cloneI_any A c l w.heap.size wr hpos hfew bxr.size ((h.lift hB).below bxr))
        clear p1 p2 hat1
        go_wp2_with fail
        refine HCL.out.mono ?_
        rintro e' w2 ⟨g, cap, rfl, hg, hrow, hb3⟩
        have hgl := hrow.lt
        have hs3 := hb3.size
        obtain ⟨w9, hw9⟩ : ∃ w9, w2.alloc (.cells #[.slice (some ⟨g, 0, none⟩) l.length cap, .int .i64 0, .slice none 0 0] 100) = w9 := ⟨_, rfl⟩
        have b9 : Below w2.heap.size w2 w9 := by rw [← hw9]; exact (Below.refl _ _).alloc (Nat.le_refl _) _
        have z9 : w9.heap.size = w2.heap.size + 1 := by rw [← hw9]; simp
        have p9 : HeldS w9 w2.heap.size (.slice (some ⟨g, 0, none⟩) l.length cap) (.int .i64 0) (.slice none 0 0) := by rw [← hw9]; exact HeldS.new _ _ _ _
        have r9 := hrow.below b9 hgl
        have b39 : Below wr.heap.size wr w9 := hb3.trans (b9.mono hs3)
        have bx9 : Below w.heap.size w w9 := bxr.trans (b39.mono bxr.size)
        have h9 := h2.below b39 (by omega)
        have hx9 := (b39.block (w.heap.size + 1) (by omega)).trans hx2
        have hID9 : IR w9 wr.heap.size Dr (ints (rightC l')) := hID.below b39
        have hA9 : IR w9 B A l := h.below (bx9.mono hB)
        have hF9 : FR w9 B Af f := hf.below (bx9.mono hB)
        have hat : RunAt w2.heap.size g l.length cap ⟨nats l, 0, []⟩ w9 w9 := ⟨_, p9, by rw [HIN.out]; exact r9, OwnS.nil _ _, Kept.refl _ _ _⟩
        have HAT : Hid (∃ s : St, s.ok l.length ∧ RunAt w2.heap.size g l.length cap s w9 w9) := Lib.hid ⟨_, HOK.out, hat⟩
        have HW9 := Lib.hid hw9
        clear hw9 p3 p4 hx2 h2 hat
        go_upto_region 12 with fail
        rw [HW9.out]
        clear HW9
        go_loopw [18] (fun i wl => ∃ E : Nat, E ≤ 1000000000000 ∧ i = .int .i64 (E : Int) ∧ slowN ok U E = slowN ok U Q ∧ ∃ s : St, s.ok l.length ∧ RunAt w2.heap.size g l.length cap s w9 wl) (fun i _ => (intOf i).toNat)
        case atStart => exact ⟨Q, hQ.2, rfl, rfl, HAT.out⟩
        case round =>
          obtain ⟨E, hE, rfl, hN, s, hs, dv, y1, y2, y3, y4⟩ := hrel
          have HN := Lib.hid hN
          clear hN HAT
          by_cases hE1 : E = 0
          · subst hE1
            have HR1 : Hid (R = (0, false, 0)) := Lib.hid (by
              have e0 : slowN ok U 0 = 0 := by unfold slowN; rw [if_neg (by omega)]; rfl
              rw [HR.out, ← HN.out, e0]
              rfl)
            have bwl := bx9.trans ((y4.to (by omega)).mono (show w.heap.size ≤ g by have := bxr.size; omega))
            go_wp2_with fail
            refine bodyPost_ret (v := .tuple #[.int .i64 0, .bool false, .int .i64 0]) (by simp [results, Try.results39, go_sem]) rfl ?_
            rw [HR1.out]
            exact ⟨rfl, bwl⟩
          · obtain ⟨E, rfl⟩ : ∃ k, E = k + 1 := ⟨E - 1, by omega⟩
            obtain ⟨D0, k0, rfl, -, -⟩ := y3.form
            have sbx := bxr.size
            have HOD := Lib.hid (OwnS.cut y3)
            have k9 := y4.heldB h9 (by omega) (by omega)
            have x9 := (y4.block (w.heap.size + 1) (by omega) (by omega)).trans hx9
            obtain ⟨i1, i2⟩ := k9.cells
            obtain ⟨i3, i4⟩ := rcells (w := wr) rfl x9
            obtain ⟨s1, s2, s3⟩ := y1.cells
            have bgl := y4.to (show g ≤ w2.heap.size by omega)
            have hAl : IR wr B A l := hA9.below (bgl.mono (by omega))
            have HKL := Lib.hid y4
            have hsl : (ints s.C).length = l.length := by rw [ints_len, hs.len]
            have HY := Lib.hid y2
            have HSL := Lib.hid hsl
            have HY1 := Lib.hid y1
            clear y2 y3 hsl
            go_wp2_with ((with_reducible refine wpList_copy_row wr rfl (.tmp 54) (.tmp 56) rfl g l.length cap c B A _ l rfl rfl HY.out HSL.out rfl hpos hAl ?_); intro wc hrc hkc)
            have HKC := Lib.hid hkc
            clear hkc
            have kk9 := (HKC.out w2.heap.size).heldB k9 (by omega) (by omega)
            have xx9 := ((HKC.out w2.heap.size).block (w.heap.size + 1) (by omega) (by omega)).trans x9
            have yy1 := (HKC.out (w2.heap.size + 1)).heldS HY1.out (by omega) (by omega)
            clear i1 i2 i3 i4 s1 s2 s3
            obtain ⟨s1, s2, s3⟩ := yy1.cells
            have f1 := yy1.free 1
            have f2 := yy1.free 2
            obtain ⟨i1, i2⟩ := kk9.cells
            obtain ⟨i3, i4⟩ := rcells (w := wc) rfl xx9
            go_wp2_with fail
            go_region
            go_upto_region 16 with fail
            have nP : w2.heap.size ≠ g := by omega
            have q1 : HeldS (((wc.setCell ⟨w2.heap.size, 1, none⟩ (.int .i64 0)).setCell ⟨w2.heap.size, 2, none⟩ (.slice D0 0 k0)).drew) w2.heap.size (.slice (some ⟨g, 0, none⟩) l.length cap) (.int .i64 0) (.slice D0 0 k0) := ((yy1.set1 _).set2 _).drew
            have q2 : RowAt (((wc.setCell ⟨w2.heap.size, 1, none⟩ (.int .i64 0)).setCell ⟨w2.heap.size, 2, none⟩ (.slice D0 0 k0)).drew) g cap l := ((hrc.other (by omega)).other (by omega)).drew
            have q3 : OwnS (((wc.setCell ⟨w2.heap.size, 1, none⟩ (.int .i64 0)).setCell ⟨w2.heap.size, 2, none⟩ (.slice D0 0 k0)).drew) (w2.heap.size + 1) (.slice D0 0 k0) [] := (((OwnS.kept HOD.out HKC.out (by omega)).other (by omega)).other (by omega)).drew
            have q4 : Kept w2.heap.size g w9 (((wc.setCell ⟨w2.heap.size, 1, none⟩ (.int .i64 0)).setCell ⟨w2.heap.size, 2, none⟩ (.slice D0 0 k0)).drew) := (((HKL.out.trans (HKC.out _)).setHigh (Nat.le_refl _)).setHigh (Nat.le_refl _)).drew
            clear i1 i2 i3 i4 s1 s2 s3 f1 f2 kk9 xx9 yy1 hrc
            generalize (((wc.setCell ⟨w2.heap.size, 1, none⟩ (.int .i64 0)).setCell ⟨w2.heap.size, 2, none⟩ (.slice D0 0 k0)).drew) = wd at *
            have kd9 := q4.heldB h9 (by omega) (by omega)
            have xd9 := (q4.block (w.heap.size + 1) (by omega) (by omega)).trans hx9
            have bgd := q4.to (show g ≤ w2.heap.size by omega)
            have hFd : FR wd B Af f := hF9.below (bgd.mono (by omega))
            have hDd : IR wd g Dr (ints (rightC l')) := (hID9.below (bgd.mono hg)).lift hg
            have hatd : RunAt w2.heap.size g l.length cap ⟨nats l, 0, []⟩ wd wd := ⟨_, q1, by rw [HIN.out]; exact q2, q3, Kept.refl _ _ _⟩
            have HRN := run_any w2.heap.size g l.length cap (E + 1) M U ⟨nats l, 0, []⟩ wd Af cf f B (by omega) (by omega) hfew hf2 hfl hcf ⟨by omega, hE⟩ hM hU (Nat.le_trans (div_few hUM) (by omega)) (by simp) HOK.out HOKF.out hFd hatd
            simp only [Int.natCast_add, Int.natCast_one] at HRN
            have HR5 := Lib.hid (HEND.out (E + 1))
            have HE5 := Lib.hid (HEQ.out (E + 1))
            generalize runEnd (E + 1) M U ⟨nats l, 0, []⟩ f = s5 at *
            have HRN' := Lib.hid HRN
            clear HRN hatd q1 q2 q3
            obtain ⟨i1, i2⟩ := kd9.cells
            obtain ⟨i3, i4⟩ := rcells (w := wd) rfl xd9
            go_wp2_with fail
            refine HRN'.out.mono ?_
            rintro e' w5 ⟨rfl, hat5⟩
            obtain ⟨dv5, z1, z2, z3, z4⟩ := hat5
            have HZ := Lib.hid (show RunAt w2.heap.size g l.length cap s5 w9 w5 from ⟨dv5, z1, z2, z3, q4.trans z4⟩)
            obtain ⟨s1, s2, s3⟩ := z1.cells
            have hD5 : IR w5 g Dr (ints (rightC l')) := hDd.below (z4.to (show g ≤ w2.heap.size by omega))
            have hRC : ∀ j (h : j < (rightC l').length), (rightC l')[j] < 4194304 := fun j h => by
              simp only [rightC, List.getElem_map]
              exact code_lt _
            have HRA := Lib.hid (readAs_len (some ⟨g, 0, none⟩) Dr cap ck l.length l'.length s5.C (rightC l') w5.heap.size w5 HR5.out.len (rightC_len l') hfew HSAME.out HR5.out.codes hRC z2.ir (hD5.lift (Nat.le_of_lt z2.lt)))
            rw [← HE5.out] at HRA
            clear i1 i2 i3 i4 z1 z2 z3 hRC hD5 HRN'
            have bw5 : Below w.heap.size w w5 := bx9.trans ((HZ.out.choose_spec.2.2.2.to (show g ≤ w2.heap.size by omega)).mono (by omega))
            have HW5 := Lib.hid bw5
            clear bw5
            cases hk : ok (E + 1) with
            | true =>
              rw [hk] at HRA
              have HR1 : Hid (R = (((E : Int) + 1), true, 0)) := Lib.hid (by
                have e0 := slow_yes HFAR.out hk
                rw [HR.out, ← HN.out, e0]
                rfl)
              clear hk
              go_wp2_with fail
              refine HRA.out.mono ?_
              rintro e' w6 ⟨rfl, rfl⟩
              go_wp2_with fail
              refine bodyPost_ret (v := .tuple #[.int .i64 ((E : Int) + 1), .bool true, .int .i64 0]) (by simp [results, Try.results39, go_sem]) rfl ?_
              rw [HR1.out]
              exact ⟨rfl, HW5.out⟩
            | false =>
              rw [hk] at HRA
              have HN1 := Lib.hid ((slow_no HFAR.out hk).symm.trans HN.out)
              clear hk
              go_wp2_with fail
              refine HRA.out.mono ?_
              rintro e' w6 ⟨rfl, rfl⟩
              by_cases hEU : E ≤ U
              · rw [Nat.min_eq_left hEU] at HN1
                have hEU' : (E : Int) ≤ (U : Int) := by omega
                have hmin : min (E : Int) (U : Int) = (E : Int) := Int.min_eq_left hEU'
                go_wp2_with fail
                refine ⟨⟨E, by omega, ?_, HN1.out, s5, HR5.out, HZ.out⟩, ?_⟩
                · rfl
                · first | (simp [intOf]; done) | (simp [intOf]; omega)
              · rw [Nat.min_eq_right (by omega)] at HN1
                have hEU' : (U : Int) ≤ (E : Int) := by omega
                have hmin : min (E : Int) (U : Int) = (U : Int) := Int.min_eq_right hEU'
                go_wp2_with fail
                refine ⟨⟨U, by omega, ?_, HN1.out, s5, HR5.out, HZ.out⟩, ?_⟩
                · rfl
                · first | (simp [intOf]; done) | (simp [intOf]; omega)
  · rw [if_neg hP] at HR
    have hne : (P != 0) = true := by simpa using hP
    clear hnm
    go_enter Try.func39, Try.ntmps39
    go_upto_region 1 with fail
    rw [HW0.out]
    go_wp2_with fail
    refine HCC.out.mono ?_
    rintro e' w1 ⟨rfl, hb1⟩
    have hb2 := b0.trans (hb1.mono (by omega))
    go_wp2_with fail
    refine bodyPost_ret (v := .tuple #[.int .i64 0, .bool false, .int .i64 P]) (by simp [results, Try.results39, go_sem]) rfl ?_
    rw [HR.out]
    exact ⟨rfl, hb2⟩
end Go.Proofs.Yteelepjhlhifhaa
