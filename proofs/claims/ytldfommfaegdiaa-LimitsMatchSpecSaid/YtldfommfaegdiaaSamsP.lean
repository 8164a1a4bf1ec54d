/- the program's CheckSamples. -/
import Derived.Test.YtldfommfaegdiaaLimsP
import Derived.StillTailTactics
namespace Go.Proofs.Ytldfommfaegdiaa
open Go.RowKit

attribute [local go_sem] setCell_draws alloc_draws
def cmpI (a b : Int) : Int := if a < b then -1 else if b < a then 1 else 0
def cmpS (a b : ByteArray) : Int := if Op.bytesLess a.toList b.toList = true then -1 else if (Op.bytesLess a.toList b.toList || a.toList == b.toList) = false then 1 else 0
def ordS (q x : Sam) : Int := if cmpI q.t x.t ≠ 0 then cmpI q.t x.t else cmpS q.p x.p
theorem ord_bad (q x : Sam) : samBad q x = decide (0 ≤ ordS q x) := by
  have ht := less_tri q.p.toList x.p.toList
  unfold samBad ordS cmpI cmpS leN
  rw [← ht]
  by_cases h1 : q.t < x.t
  · have e1 : decide (x.t < q.t) = false := decide_eq_false (by omega)
    have e2 : (x.t == q.t) = false := beq_eq_false_iff_ne.2 (by omega)
    rw [e1, e2]
    simp [h1]
  · by_cases h2 : x.t < q.t
    · have e1 : decide (x.t < q.t) = true := decide_eq_true h2
      rw [e1]
      simp [h1, h2]
    · have e1 : decide (x.t < q.t) = false := decide_eq_false h2
      have e2 : (x.t == q.t) = true := beq_iff_eq.2 (by omega)
      rw [e1, e2]
      simp only [h1, h2]
      cases Op.bytesLess q.p.toList x.p.toList <;> cases q.p.toList == x.p.toList <;> simp
set_option maxHeartbeats 400000 in
theorem compareI_any (a b : Int) (w : World) :
    Calls Try.prog 51 #[.int .i64 a, .int .i64 b] w fun e w' => e = .returned (.int .i64 (cmpI a b)) ∧ w = w' := by
  unfold cmpI
  by_cases h1 : a < b
  · rw [if_pos h1]
    go_enter Try.func51, Try.ntmps51
    go_wp2
    go_ret
    exact ⟨rfl, rfl⟩
  · rw [if_neg h1]
    by_cases h2 : b < a
    · rw [if_pos h2]
      go_enter Try.func51, Try.ntmps51
      go_wp2
      go_ret
      exact ⟨rfl, rfl⟩
    · rw [if_neg h2]
      go_enter Try.func51, Try.ntmps51
      go_wp2
      go_ret
      exact ⟨rfl, rfl⟩
set_option maxHeartbeats 400000 in
theorem compareS_any (a b : ByteArray) (w : World) :
    Calls Try.prog 52 #[.string a, .string b] w fun e w' => e = .returned (.int .i64 (cmpS a b)) ∧ w = w' := by
  have hself : (!(a.toList == a.toList)) = false := by simp
  have hself2 : (!(b.toList == b.toList)) = false := by simp
  unfold cmpS
  by_cases h1 : Op.bytesLess a.toList b.toList = true
  · rw [if_pos h1]
    go_enter Try.func52, Try.ntmps52
    go_wp2
    go_ret
    exact ⟨rfl, rfl⟩
  · have h3 : Op.bytesLess a.toList b.toList = false := by simpa using h1
    rw [if_neg h1]
    by_cases h2 : (Op.bytesLess a.toList b.toList || a.toList == b.toList) = false
    · rw [if_pos h2]
      have h4 : (a.toList == b.toList) = false := by rw [h3] at h2; simpa using h2
      clear h1 h2
      go_enter Try.func52, Try.ntmps52
      go_wp2
      go_ret
      exact ⟨rfl, rfl⟩
    · rw [if_neg h2]
      have h4 : (a.toList == b.toList) = true := by rw [h3] at h2; simpa using h2
      clear h1 h2
      go_enter Try.func52, Try.ntmps52
      go_wp2
      go_ret
      exact ⟨rfl, rfl⟩
set_option maxHeartbeats 1000000 in
theorem or_any (a b : Int) (g : Nat) (w : World) (h0 : w.cell? ⟨g, 0, none⟩ = some (.int .i64 a)) (h1 : w.cell? ⟨g, 1, none⟩ = some (.int .i64 b)) :
    Calls Try.prog 50 #[.slice (some ⟨g, 0, none⟩) 2 2] w fun e w' => e = .returned (.int .i64 (if a ≠ 0 then a else b)) ∧ w = w' := by
  obtain ⟨r, hr⟩ : ∃ r, r = if a ≠ 0 then a else b := ⟨_, rfl⟩
  rw [← hr]
  have HR := Lib.hid hr
  clear hr
  by_cases ha : a = 0
  · by_cases hb : b = 0
    · have HRE : Hid (r = 0) := Lib.hid (by rw [HR.out, if_neg (by simp [ha]), hb])
      subst ha hb
      go_enter Try.func50, Try.ntmps50
      go_wp2_with fail
      refine wp_loop_rounds 3 ?_
      rw [rounds_succ]
      go_wp2_with fail
      rw [rounds_succ]
      go_wp2_with fail
      rw [rounds_succ]
      go_wp2_with fail
      go_ret
      exact ⟨ret_int HRE.out.symm, rfl⟩
    · have HRE : Hid (r = b) := Lib.hid (by rw [HR.out, if_neg (by simp [ha])])
      have db : (b != 0) = true := by simpa using hb
      subst ha
      clear hb
      go_enter Try.func50, Try.ntmps50
      go_wp2_with fail
      refine wp_loop_rounds 2 ?_
      rw [rounds_succ]
      go_wp2_with fail
      rw [rounds_succ]
      go_wp2_with fail
      go_ret
      exact ⟨ret_int HRE.out.symm, rfl⟩
  · have HRE : Hid (r = a) := Lib.hid (by rw [HR.out, if_pos ha])
    have da : (a != 0) = true := by simpa using ha
    clear ha
    go_enter Try.func50, Try.ntmps50
    go_wp2_with fail
    refine wp_loop_rounds 1 ?_
    rw [rounds_succ]
    go_wp2_with fail
    go_ret
    exact ⟨ret_int HRE.out.symm, rfl⟩
def samV (t : Int) (p : ByteArray) (v : Int) : Value := .agg #[.int .i64 t, .string p, .int .i64 v]
set_option maxRecDepth 100000 in
set_option maxHeartbeats 2000000 in
theorem inOrder_any (q x : Sam) (w : World) :
    Calls Try.prog 33 #[samV q.t q.p q.v, samV x.t x.p x.v] w fun e w' => e = .returned (.int .i64 (ordS q x)) ∧ Below w.heap.size w w' := by
  have HR := Lib.hid (show ordS q x = if cmpI q.t x.t ≠ 0 then cmpI q.t x.t else cmpS q.p x.p from rfl)
  have H1 := Lib.hid (compareI_any q.t x.t)
  have H2 := Lib.hid (compareS_any q.p x.p)
  generalize ordS q x = r at *
  generalize cmpI q.t x.t = a at *
  generalize cmpS q.p x.p = b at *
  obtain ⟨qt, qp, qv⟩ := q
  obtain ⟨xt, xp, xv⟩ := x
  simp only at H1 H2
  unfold samV
  obtain ⟨W, hW⟩ : ∃ W, W = (w.alloc (.cells #[.int .i64 qt, .string qp, .int .i64 qv] 47)).alloc (.cells #[.int .i64 xt, .string xp, .int .i64 xv] 47) := ⟨_, rfl⟩
  have hbW : Below w.heap.size w W := by rw [hW]; exact ((Below.refl _ _).alloc (Nat.le_refl _) _).alloc (by simp) _
  have hzW : W.heap.size = w.heap.size + 2 := by rw [hW]; simp
  have b0 : W.cell? ⟨w.heap.size, 0, none⟩ = some (.int .i64 qt) := by rw [hW]; simp
  have b1 : W.cell? ⟨w.heap.size, 1, none⟩ = some (.string qp) := by rw [hW]; simp
  have c0 : W.cell? ⟨w.heap.size + 1, 0, none⟩ = some (.int .i64 xt) := by rw [hW]; simp
  have c1 : W.cell? ⟨w.heap.size + 1, 1, none⟩ = some (.string xp) := by rw [hW]; simp
  have HW := Lib.hid hW
  clear hW
  go_enter Try.func33, Try.ntmps33
  go_upto_region 1 with fail
  rw [← HW.out]
  refine wp_region_still_tail 10 (by kernel_rfl) (by kernel_rfl) ?_
  simp only [List.take_succ_cons, List.take_zero, List.drop_succ_cons, List.drop_zero]
  generalize hwd : ({ W with drawn := W.drawn + 1 } : World) = wd
  replace b0 : wd.cell? ⟨w.heap.size, 0, none⟩ = some (.int .i64 qt) := by rw [← hwd]; exact b0
  replace b1 : wd.cell? ⟨w.heap.size, 1, none⟩ = some (.string qp) := by rw [← hwd]; exact b1
  replace c0 : wd.cell? ⟨w.heap.size + 1, 0, none⟩ = some (.int .i64 xt) := by rw [← hwd]; exact c0
  replace c1 : wd.cell? ⟨w.heap.size + 1, 1, none⟩ = some (.string xp) := by rw [← hwd]; exact c1
  have hbd : Below w.heap.size w wd := by rw [← hwd]; exact hbW.drew
  clear hwd hbW hzW HW
  repeat still_step
  still_call ((H1.out wd).mono fun e w' ⟨h1, h2⟩ => ⟨h1, h2.symm⟩)
  repeat still_step
  still_call ((H2.out wd).mono fun e w' ⟨h1, h2⟩ => ⟨h1, h2.symm⟩)
  repeat still_step
  refine wpStill_nil ?_
  have ho := or_any a b wd.heap.size (wd.alloc (.cells #[.int .i64 a, .int .i64 b] 3)) (by simp) (by simp)
  rw [← HR.out] at ho
  have HO := Lib.hid ho
  clear ho
  go_wp2_with fail
  refine HO.out.mono ?_
  rintro e w3 ⟨rfl, rfl⟩
  go_wp2_with fail
  go_ret
  exact ⟨rfl, hbd.alloc hbd.size _⟩
/-- the head of the loops over samples -/
def SamAt (l : List Sam) (w : World) (i : Value) (wr : World) : Prop :=
  ∃ k : Nat, k ≤ l.length ∧ i = .int .i64 k ∧ chkG samF samBad none l = chkG samF samBad (prevO l k) (l.drop k) ∧ Below w.heap.size w wr
set_option maxRecDepth 100000 in
set_option maxHeartbeats 4000000 in
theorem p_CheckSamples_any (A : Option Addr) (l : List Sam) (c B : Nat) (w : World) (hB : B ≤ w.heap.size) (hll : l.length ≤ 9223372036854775807) (hps : ∀ x ∈ l, x.p.size ≤ 9223372036854775807) (h : SR Sam.cells w B A l) :
    Calls Try.prog 13 #[.slice A l.length c] w fun e w' => e = .returned (.int .i64 (samsF l)) ∧ Below w.heap.size w w' := by
  have HF := Lib.hid (show samsF l = if 5000 < l.length then 2 else chkG samF samBad none l from rfl)
  have HPS := Lib.hid hps
  clear hps
  by_cases h5 : 5000 < l.length
  · have i5 : (5000 : Int) < (l.length : Int) := by omega
    have hf : samsF l = 2 := by rw [HF.out, if_pos h5]
    rw [hf]
    clear hf HF
    go_enter Try.func13, Try.ntmps13
    go_wp2_with fail
    go_ret
    exact ⟨rfl, Below.refl _ _⟩
  · have i5 : (l.length : Int) ≤ 5000 := by omega
    have hf : samsF l = chkG samF samBad none l := by rw [HF.out, if_neg h5]
    rw [hf]
    obtain ⟨G, hG⟩ : ∃ G, G = chkG samF samBad none l := ⟨_, rfl⟩
    rw [← hG]
    have HG := Lib.hid hG
    have H := Lib.hid h
    clear hf HF hG h
    go_enter Try.func13, Try.ntmps13
    go_wp2_with fail
    go_loopw [10] (fun i wr => SamAt l w i wr) (fun i _ => l.length - (intOf i).toNat)
    case atStart => exact ⟨0, Nat.zero_le _, rfl, rfl, Below.refl _ _⟩
    case round =>
      obtain ⟨k, hk, rfl, hE, hbr⟩ := hrel
      have hzr := hbr.size
      by_cases hlt : k < l.length
      · obtain ⟨ad, hA, hbk, a0, a1, a2⟩ := sams_get (H.out.below (hbr.mono hB)) k hlt
        have hi0 : (0 : Int) ≤ (k : Int) := by omega
        have hi1 : (k : Int) < (l.length : Int) := by omega
        have HPV : Hid (∀ J, k = J + 1 → ∃ q : Sam, l[J]? = some q ∧ ∀ w', Below wr.heap.size wr w' → w'.cell? (ad.add (J * 3)) = some (.int .i64 q.t) ∧ w'.cell? ⟨(ad.add (J * 3)).block, (ad.add (J * 3)).off + 1, none⟩ = some (.string q.p) ∧ w'.cell? ⟨(ad.add (J * 3)).block, (ad.add (J * 3)).off + 2, none⟩ = some (.int .i64 q.v)) := Lib.hid (fun J hJ => by
          refine ⟨l[J]'(by omega), List.getElem?_eq_getElem _, fun w' hb' => ?_⟩
          obtain ⟨ad', hA', -, d0, d1, d2⟩ := sams_get (H.out.below ((hbr.trans (hb'.mono hzr)).mono hB)) J (by omega)
          rw [hA] at hA'
          obtain rfl : ad = ad' := by injection hA'
          exact ⟨d0, d1, d2⟩)
        have HFX := Lib.hid (show samF l[k] = if decide (0 ≤ l[k].t ∧ l[k].t ≤ 1000000000000) = false then 1 else if isN l[k].p.data.toList = false then 5 else if valD l[k].v = false then 1 else 0 from rfl)
        have HOWN : Hid (samF l[k] ≠ 0 → G = samF l[k]) := Lib.hid (fun hh => by rw [HG.out, hE]; exact chk_own _ _ l k hlt hh)
        have HZ : Hid (samF l[k] = 0 → k = 0 → chkG samF samBad none l = chkG samF samBad (prevO l (k + 1)) (l.drop (k + 1))) := Lib.hid (fun hh hk0 => by subst hk0; rw [hE]; exact chk_zero _ _ l hlt hh)
        have HBD : Hid (∀ J q, k = J + 1 → l[J]? = some q → samF l[k] = 0 → samBad q l[k] = true → G = 8) := Lib.hid (fun J q hJ hq hh hb => by
          subst hJ
          have hJl : J < l.length := by omega
          rw [List.getElem?_eq_getElem hJl] at hq
          obtain rfl := Option.some.inj hq
          rw [HG.out, hE]
          exact chk_bad _ _ l J hlt hh hb)
        have HGD : Hid (∀ J q, k = J + 1 → l[J]? = some q → samF l[k] = 0 → samBad q l[k] = false → chkG samF samBad none l = chkG samF samBad (prevO l (k + 1)) (l.drop (k + 1))) := Lib.hid (fun J q hJ hq hh hb => by
          subst hJ
          have hJl : J < l.length := by omega
          rw [List.getElem?_eq_getElem hJl] at hq
          obtain rfl := Option.some.inj hq
          rw [hE]
          exact chk_good _ _ l J hlt hh hb)
        have HT := Lib.hid (within_any l[k].t 0 1000000000000)
        have HN := Lib.hid (fun w => isName_any l[k].p w (HPS.out _ (List.getElem_mem hlt)))
        have HV := Lib.hid (isValue_any l[k].v)
        have HIO := Lib.hid (fun q w => inOrder_any q l[k] w)
        have HOB := Lib.hid (fun q => ord_bad q l[k])
        subst hA
        clear hE
        generalize samF l[k] = F at *
        generalize isN l[k].p.data.toList = bN at *
        generalize valD l[k].v = bV at *
        generalize decide (0 ≤ l[k].t ∧ l[k].t ≤ 1000000000000) = bT at *
        generalize l[k] = x at *
        obtain ⟨t, p, v⟩ := x
        simp only at a0 a1 a2 HBD HGD HT HN HV
        unfold samV at HIO
        obtain ⟨W, hW⟩ : ∃ W, W = wr.alloc (.cells #[.int .i64 t, .string p, .int .i64 v] 47) := ⟨_, rfl⟩
        have hbW : Below wr.heap.size wr W := by rw [hW]; exact (Below.refl _ _).alloc (Nat.le_refl _) _
        have hzW : W.heap.size = wr.heap.size + 1 := by rw [hW]; simp
        have b0 : W.cell? ⟨wr.heap.size, 0, none⟩ = some (.int .i64 t) := by rw [hW]; simp
        have b1 : W.cell? ⟨wr.heap.size, 1, none⟩ = some (.string p) := by rw [hW]; simp
        have b2 : W.cell? ⟨wr.heap.size, 2, none⟩ = some (.int .i64 v) := by rw [hW]; simp
        have HW := Lib.hid hW
        clear hW
        go_upto_region 6 with fail
        rw [← HW.out]
        clear a0 a1 a2
        have hbw1 := hbr.trans (hbW.mono hzr)
        go_wp2_with fail
        refine (HT.out _).mono ?_
        rintro e w2 ⟨rfl, rfl⟩
        cases bT
        · have HF1 : Hid (F = 1) := Lib.hid (by rw [HFX.out, if_pos rfl])
          have HE2 : Hid (G = 1) := Lib.hid (by rw [HOWN.out (by rw [HF1.out]; simp), HF1.out])
          go_wp2_with fail
          go_ret
          exact ⟨ret_int HE2.out.symm, hbw1⟩
        · go_wp2_with fail
          refine (HN.out _).mono ?_
          rintro e w2 ⟨rfl, hb2⟩
          have c0 := (Below.at_ hb2 wr.heap.size (by omega) 0).trans b0
          have c1 := (Below.at_ hb2 wr.heap.size (by omega) 1).trans b1
          have c2 := (Below.at_ hb2 wr.heap.size (by omega) 2).trans b2
          have hbr2 := hbW.trans (hb2.mono (by omega))
          have hbw2 := hbr.trans (hbr2.mono hzr)
          have hzw2 := hb2.size
          clear b0 b1 b2 hbW hb2 HW hzW hbw1
          cases bN
          · have HF1 : Hid (F = 5) := Lib.hid (by rw [HFX.out, if_neg (by simp), if_pos rfl])
            have HE2 : Hid (G = 5) := Lib.hid (by rw [HOWN.out (by rw [HF1.out]; simp), HF1.out])
            go_wp2_with fail
            go_ret
            exact ⟨ret_int HE2.out.symm, hbw2⟩
          · go_wp2_with fail
            refine (HV.out _).mono ?_
            rintro e w3 ⟨rfl, rfl⟩
            cases bV
            · have HF1 : Hid (F = 1) := Lib.hid (by rw [HFX.out, if_neg (by simp), if_neg (by simp), if_pos rfl])
              have HE2 : Hid (G = 1) := Lib.hid (by rw [HOWN.out (by rw [HF1.out]; simp), HF1.out])
              go_wp2_with fail
              go_ret
              exact ⟨ret_int HE2.out.symm, hbw2⟩
            · have HF1 : Hid (F = 0) := Lib.hid (by rw [HFX.out, if_neg (by simp), if_neg (by simp), if_neg (by simp)])
              rcases Nat.eq_zero_or_pos k with hk0 | hk0
              · have HE2 := Lib.hid (HZ.out HF1.out hk0)
                have z0 : ¬ (0 : Int) < (k : Int) := by omega
                have z1 : decide (0 < k) = false := by simp; omega
                have z2 : decide ((0 : Int) < (k : Int)) = false := by simp; omega
                clear hk0
                go_wp2_with fail
                go_quiet (fail)
                go_wp2_with fail
                go_roundw
                case rel => exact ⟨k + 1, by omega, by go_num, HE2.out, below_draws hbw2 _⟩
                case measure => simp [intOf]; omega
              · obtain ⟨J, hJ⟩ : ∃ J, k = J + 1 := ⟨k - 1, by omega⟩
                obtain ⟨q, hq, hqc⟩ := HPV.out J hJ
                obtain ⟨d0, d1, d2⟩ := hqc w2 hbr2
                have HB1 := Lib.hid (HBD.out J q hJ hq HF1.out)
                have HB2 := Lib.hid (HGD.out J q hJ hq HF1.out)
                have HIQ := Lib.hid (HIO.out q)
                have HOQ := Lib.hid (HOB.out q)
                have z0 : (0 : Int) < (k : Int) := by omega
                have z1 : decide (0 < k) = true := by simp; omega
                have z2 : decide ((0 : Int) < (k : Int)) = true := by simp; omega
                have e1 : (k : Int) - 1 = (J : Int) := by omega
                have e2 : IntKind.i64.wrap (J : Int) = (J : Int) := IntWalk.i64_in _ (by omega)
                have e3 : IntKind.i64.wrap ((k : Int) - 1) = (J : Int) := by rw [e1]; exact e2
                have e4 : (0 : Int) ≤ (J : Int) := by omega
                have e5 : (J : Int) < (l.length : Int) := by omega
                clear hk0 hJ hq hqc HPV HBD HGD HZ HOWN
                obtain ⟨qt, qp, qv⟩ := q
                simp only at d0 d1 d2 HIQ
                go_wp2_with fail
                refine wp_region_still_tail 9 (by kernel_rfl) (by kernel_rfl) ?_
                simp only [List.take_succ_cons, List.take_zero, List.drop_succ_cons, List.drop_zero]
                generalize hwd : ({ w2 with drawn := w2.drawn + 1 } : World) = wd
                have hbwd : Below w.heap.size w wd := by rw [← hwd]; exact hbw2.drew
                replace c0 : wd.cell? ⟨wr.heap.size, 0, none⟩ = some (.int .i64 t) := by rw [← hwd]; exact c0
                replace c1 : wd.cell? ⟨wr.heap.size, 1, none⟩ = some (.string p) := by rw [← hwd]; exact c1
                replace c2 : wd.cell? ⟨wr.heap.size, 2, none⟩ = some (.int .i64 v) := by rw [← hwd]; exact c2
                replace d0 : wd.cell? (ad.add (J * 3)) = some (.int .i64 qt) := by rw [← hwd]; exact d0
                replace d1 : wd.cell? ⟨(ad.add (J * 3)).block, (ad.add (J * 3)).off + 1, none⟩ = some (.string qp) := by rw [← hwd]; exact d1
                replace d2 : wd.cell? ⟨(ad.add (J * 3)).block, (ad.add (J * 3)).off + 2, none⟩ = some (.int .i64 qv) := by rw [← hwd]; exact d2
                clear hwd
                repeat still_step
                refine wpStill_nil ?_
                generalize ordS ⟨qt, qp, qv⟩ ⟨t, p, v⟩ = O at *
                go_wp2_with fail
                refine (HIQ.out _).mono ?_
                rintro e w4 ⟨rfl, hb4⟩
                have hbw4 := hbwd.trans (hb4.mono hbwd.size)
                by_cases hO : 0 ≤ O
                · have HE2 := Lib.hid (HB1.out (by rw [HOQ.out]; exact decide_eq_true hO))
                  have dO : decide (0 ≤ O) = true := decide_eq_true hO
                  clear HB1 HB2
                  go_wp2_with fail
                  go_ret
                  exact ⟨ret_int HE2.out.symm, hbw4⟩
                · have HE2 := Lib.hid (HB2.out (by rw [HOQ.out]; exact decide_eq_false hO))
                  have dO : decide (0 ≤ O) = false := decide_eq_false hO
                  clear HB1 HB2
                  go_wp2_with fail
                  go_roundw
                  case rel => exact ⟨k + 1, by omega, by go_num, HE2.out, hbw4⟩
                  case measure => simp [intOf]; omega
      · obtain rfl : k = l.length := by omega
        have HE2 : Hid (G = 0) := Lib.hid (by rw [HG.out, hE]; exact chk_end _ _ l)
        clear hE
        go_wp2_with fail
        go_ret
        exact ⟨ret_int HE2.out.symm, hbr⟩
end Go.Proofs.Ytldfommfaegdiaa
