/- Whatever is lost, what is taken is a beginning of the queue, each once: the law CommandTakenInOrder answers true for every input. No condition. -/
import Derived.Test.YteikggieekhfkaaOrdMath
import Derived.Test.YteikggieekhfkaaBelowN
import Derived.Test.YteikggieekhfkaaRunP
import Derived.Test.YteikggieekhfkaaSame2
import Derived.Test.YteikggieekhfkaaOpenRow2
import Derived.Test.YteikggieekhfkaaClosed
namespace Go.Proofs.Yteikggieekhfkaa
open Go.ChangeShapes Go.WideShapes Go.ChangeAt Go.RowKit

attribute [local go_sem] setCell_draws alloc_draws
theorem QR.take {w : World} {B : Nat} {A : Option Addr} {q : List (List UInt8)} (h : QR w B A q) (n : Nat) : QR w B A (q.take n) := by
  obtain ⟨ds, h1, h2, h3⟩ := h
  refine ⟨ds.take n, by simp; omega, ?_, fun i hi hi' => ?_⟩
  · have h4 := Cells.front h2 n
    unfold SR
    rw [rcells_one] at h4 ⊢
    rw [List.map_take]
    exact h4
  · simp only [List.getElem_take]
    simp at hi hi'
    exact h3 i (by omega) (by omega)
theorem info50 : (Try.prog.info? 50).map (fun i => (i.zero, i.size, i.bytes)) = some (some (.agg #[.bool false, .bool false, .bool false, .bool false, .int .i64 0]), 5, 16) := by kernel_rfl
theorem elemBt : Elem 42 50 5 16 := by
  obtain ⟨i, h1, h2, h3, h4⟩ := info_parts info50
  exact ⟨Try.underlying42, i, _, h1, h2, h3, h4, rfl, by omega⟩
theorem bs_one (bs : List Bt) : ∀ u ∈ rcells Bt.cells bs, u.oneCell' = true := by
  intro u hu
  obtain ⟨b, -, hb⟩ := List.mem_flatMap.1 hu
  simp [Bt.cells] at hb
  rcases hb with rfl | rfl | rfl | rfl | rfl <;> rfl
/-- beats of the call's own -/
def OwnBt (w : World) (base : Nat) (v : Value) (bs : List Bt) : Prop := w.ownsRow base 50 5 v bs.length (rcells Bt.cells bs)
/-- bodies that may stand in a queue -/
def GoodQ (qs : List (List UInt8)) : Prop := ∀ x ∈ qs, 0 < x.length ∧ x.length ≤ 200
theorem good_bods {qs : List (List UInt8)} (h : GoodQ qs) : bodsS qs = 0 := bods_all qs fun i hi => by
  obtain ⟨h1, h2⟩ := h _ (List.getElem_mem hi)
  unfold bodS
  rw [if_neg (by omega), if_neg (by omega)]
/-- the ends of a run in order -/
theorem order_end {N0 : Int} {M : Nat} {wd : Int} {qs : List (List UInt8)} {bs : List Bt} (hN0 : 0 ≤ N0) (hN1 : N0 ≤ 255) (hM : M ≤ 99) (hw1 : 1 ≤ wd) (hw2 : wd ≤ 1 + (M : Int)) (hq : qs.length ≤ 60) (hg : GoodQ qs) (hb : ∀ b ∈ bs, b.room = 0) (hbl : bs.length ≤ 200) :
    ∃ x : LS, runR ⟨⟨N0, 4 + 2 * (M : Int), false, false, false, 0⟩, N0, (0 : Int).toNat, qs, wd, false, []⟩ (runC N0 (4 + 2 * (M : Int)) 0 N0 0 qs wd bs) bs = (x, 0) ∧
      x.tk = qs.take x.tk.length ∧ x.tk.length ≤ qs.length ∧ x.q.length ≤ qs.length ∧ qs.length - x.q.length ≤ x.tk.length ∧ x.st = false := by
  have hC : runC N0 (4 + 2 * (M : Int)) 0 N0 0 qs wd bs = 0 := by
    unfold runC bothS
    have h1 : brdS N0 (4 + 2 * (M : Int)) 0 = 0 := by
      unfold brdS
      rw [if_pos ⟨hN0, hN1⟩, if_pos (by rw [Int.tmod_eq_emod_of_nonneg (by omega)]; omega), if_pos (by omega), if_pos (by omega)]
    have h2 : gndS N0 0 qs wd = 0 := by
      unfold gndS
      rw [if_pos ⟨hN0, hN1⟩, if_pos (by omega), if_neg (by omega), if_pos (good_bods hg), if_pos (by omega)]
    have h3 : bs.all Bt.okB = true := List.all_eq_true.2 fun b hb' => by
      unfold Bt.okB
      rw [hb b hb']
      rfl
    rw [h1, if_pos rfl, h2, if_pos rfl, if_neg (by omega), if_pos h3]
  have h0 : Inv N0 (4 + 2 * (M : Int)) qs wd ⟨⟨N0, 4 + 2 * (M : Int), false, false, false, 0⟩, N0, (0 : Int).toNat, qs, wd, false, []⟩ 0 0 :=
    ⟨rfl, Nat.le_refl _, by simp, by simp, rfl, by simp only; omega, by simp only; omega, rfl, rfl, rfl, rfl, rfl, rfl, by simp; omega⟩
  obtain ⟨e0, a, t, hi⟩ := inv_run (by omega) (by omega) hq bs _ 0 0 hb h0
  refine ⟨(runS ⟨⟨N0, 4 + 2 * (M : Int), false, false, false, 0⟩, N0, (0 : Int).toNat, qs, wd, false, []⟩ bs).1, ?_, ?_⟩
  · unfold runR
    rw [if_neg (by simpa using hC), if_neg (by simpa using e0)]
    exact Prod.ext rfl e0
  · generalize (runS ⟨⟨N0, 4 + 2 * (M : Int), false, false, false, 0⟩, N0, (0 : Int).toNat, qs, wd, false, []⟩ bs).1 = x at hi
    have ht : t ≤ qs.length := by have := hi.ts; have := hi.aq; omega
    have htl : x.tk.length = t := by rw [hi.tk]; simp; omega
    refine ⟨by rw [htl]; exact hi.tk, by omega, by rw [hi.q]; simp, ?_, hi.st⟩
    rw [hi.q, htl, List.length_drop]
    have := hi.at'
    omega
/-- a row of bodies of one's own, with the room behind it -/
theorem OwnT.qr2 {w : World} {base B : Nat} {v : Value} {tk : List (List UInt8)} (h : OwnT w base B v tk) (hB : B ≤ w.heap.size) : ∃ A c, v = .slice A tk.length c ∧ QR w w.heap.size A tk ∧ tk.length ≤ c ∧ (A = none → c = 0) := by
  obtain ⟨ds, h1, h2, h3⟩ := h
  obtain ⟨A, c, rfl, hc, h5, h6, -⟩ := row_form h2
  exact ⟨A, c, rfl, ⟨ds, h1, hc, fun i hi hi' => ⟨(h3 i hi hi').1, (h3 i hi hi').2.lift hB⟩⟩, h5, h6⟩
set_option maxRecDepth 100000 in
set_option maxHeartbeats 8000000 in
theorem lawOrder_any (next window width : Int) (A : Option Addr) (q : List (List UInt8)) (c : Nat) (Al : Option Addr) (l : List Bt) (cl : Nat) (w : World) (hn : In64 next) (hwi : In64 window) (hwd : In64 width)
    (hql : q.length ≤ 9223372036854775807) (hll : l.length ≤ 9223372036854775807) (h : QR w w.heap.size A q) (hs : SR Bt.cells w w.heap.size Al l) :
    Calls Try.prog 6 #[.int .i64 next, .int .i64 window, .slice A q.length c, .int .i64 width, .slice Al l.length cl] w fun e w' => e = .returned (.bool true) ∧ Below w.heap.size w w' := by
  have HB1 : Hid (∀ w, Calls Try.prog 26 #[.int .i64 next, .int .i64 256] w fun e w' => e = .returned (.int .i64 (next % 256)) ∧ w = w') := Lib.hid fun w => belowN_any next 256 w (by omega) (by omega) hn
  have HB2 : Hid (∀ w, Calls Try.prog 26 #[.int .i64 window, .int .i64 100] w fun e w' => e = .returned (.int .i64 (window % 100)) ∧ w = w') := Lib.hid fun w => belowN_any window 100 w (by omega) (by omega) hwi
  obtain ⟨N0, hN0⟩ : ∃ N0, next % 256 = N0 := ⟨_, rfl⟩
  have hN01 : 0 ≤ N0 ∧ N0 ≤ 255 := by omega
  obtain ⟨M, hM⟩ : ∃ M : Nat, window % 100 = (M : Int) := ⟨(window % 100).toNat, by omega⟩
  have hM99 : M ≤ 99 := by omega
  rw [hN0] at HB1
  rw [hM] at HB2
  clear hN0 hM
  obtain ⟨Y, hY⟩ : ∃ Y, width % ((1 + M : Nat) : Int) = Y := ⟨_, rfl⟩
  have hY0 : 0 ≤ Y := by rw [← hY]; exact Int.emod_nonneg _ (by omega)
  have hY1 : Y < 1 + (M : Int) := by rw [← hY]; have := Int.emod_lt_of_pos width (show (0 : Int) < ((1 + M : Nat) : Int) by omega); omega
  obtain ⟨J, hJ⟩ : ∃ J : Int, J = 1 + (M : Int) := ⟨_, rfl⟩
  have HB3 : Hid (∀ w, Calls Try.prog 26 #[.int .i64 width, .int .i64 J] w fun e w' => e = .returned (.int .i64 Y) ∧ w = w') := Lib.hid fun w => by
    have := belowN_any width (1 + M) w (by omega) (by omega) hwd
    rw [hY, show ((1 + M : Nat) : Int) = J by omega] at this
    exact this
  obtain ⟨W, hW⟩ : ∃ W : Int, W = 4 + 2 * (M : Int) := ⟨_, rfl⟩
  obtain ⟨H, hH⟩ : ∃ H : Int, H = 2 + (M : Int) := ⟨_, rfl⟩
  obtain ⟨wd, hwdd⟩ : ∃ wd : Int, wd = 1 + Y := ⟨_, rfl⟩
  have v0 : IntKind.i64.wrap (2 * (M : Int)) = 2 * (M : Int) := IntWalk.i64_in _ (by omega)
  have v1 : IntKind.i64.wrap (4 + 2 * (M : Int)) = W := by rw [IntWalk.i64_in _ (by omega)]; omega
  have v1' : 4 + 2 * (M : Int) = W := hW.symm
  have v2 : W.tdiv 2 = H := by rw [Int.tdiv_eq_ediv_of_nonneg (by omega)]; omega
  have v3 : IntKind.i64.wrap H = H := IntWalk.i64_in _ (by omega)
  have v4 : IntKind.i64.wrap (H - 1) = J := by rw [IntWalk.i64_in _ (by omega)]; omega
  have v5 : IntKind.i64.wrap (1 + Y) = wd := by rw [IntWalk.i64_in _ (by omega)]; omega
  have V2 := Lib.hid v2
  have V3 := Lib.hid v3
  have V4 := Lib.hid v4
  have V5 := Lib.hid v5
  have hwd1 : 1 ≤ wd := by omega
  have hwd2 : wd ≤ 1 + (M : Int) := by omega
  have HWM := Lib.hid hW
  have hb1 := (Below.refl w.heap.size w).alloc (Nat.le_refl _) (.cells (uplC N0 W false false false 0) 23)
  have gU := Blk.new w (uplC N0 W false false false 0) 23
  obtain ⟨w1, hw1⟩ : ∃ w1, w.alloc (.cells (uplC N0 W false false false 0) 23) = w1 := ⟨_, rfl⟩
  rw [hw1] at hb1 gU
  unfold uplC at hw1
  have HW1 := Lib.hid hw1
  clear hw1 hW hH hwdd hJ hY v2 v3 v4 v5 hn hwi hwd
  go_enter Try.func6, Try.ntmps6
  go_upto_region 2 with (first | (go_at_call 26; with_reducible refine (HB1.out _).mono ?_; rintro e w' ⟨rfl, rfl⟩) | (go_at_call 26; with_reducible refine (HB2.out _).mono ?_; rintro e w' ⟨rfl, rfl⟩) | fail)
  rw [HW1.out]
  obtain ⟨u0, u1, -, -, -, -⟩ := blk_u gU
  have hUl := gU.lt
  have HSS := Lib.hid (fun (wx : World) (hb : Below w1.heap.size w1 wx) => (⟨(hb.cell hUl).trans u0, (hb.cell hUl).trans u1⟩ : wx.cell? ⟨w.heap.size, 0, none⟩ = some (.int .i64 N0) ∧ wx.cell? ⟨w.heap.size, 1, none⟩ = some (.int .i64 W)))
  have hbb : Below w1.heap.size w1 w1 := Below.refl _ _
  go_cut [12] (fun s12 wx => s12 = .pointer (some ⟨w1.heap.size, 0, none⟩) ∧ Blk wx w1.heap.size (grdC N0 0 (.slice none 0 0) wd false) 41 ∧ Below w1.heap.size w1 wx)
  case first =>
    have v2 := V2.out
    have v3 := V3.out
    have v4 := V4.out
    have v5 := V5.out
    go_region_held3 (fun wx => wx.cell? ⟨w.heap.size, 0, none⟩ = some (.int .i64 N0) ∧ wx.cell? ⟨w.heap.size, 1, none⟩ = some (.int .i64 W))
      (first | with_reducible exact HSS.out _ hbb | with_reducible exact HSS.out _ hbb.drew | with_reducible exact HSS.out _ (Below.alloc hbb hbb.size _) | with_reducible exact HSS.out _ (Below.drew (Below.alloc hbb hbb.size _)) | go_keep)
      (first
       | (go_at_call 26
          with_reducible refine (HB3.out _).mono ?_
          rintro e w3 ⟨rfl, rfl⟩))
    all_goals
      go_wp2_with fail
      go_meet
      first
      | exact ⟨rfl, Blk.new w1 (grdC N0 0 (.slice none 0 0) wd false) _, Below.alloc hbb hbb.size _⟩
      | exact ⟨rfl, Blk.new w1 (grdC N0 0 (.slice none 0 0) wd false) _, (Below.alloc hbb hbb.size _).drew⟩
  case rest =>
    obtain ⟨rfl, gG, hbc⟩ := hcut
    have BC := hb1.trans (hbc.mono hb1.size)
    have gU := gU.below hbc gU.lt
    have hqC := h.below BC
    have hsC := hs.below BC
    have hG := gG.lt
    clear HSS hbb hbc V2 V3 V4 V5 HB1 HB2 HB3 h hs u0 u1 HW1 v0 v1 v1'
    go_wp2_with fail
    go_loopw [41] (fun i wr => ∃ (j : Nat) (qs : List (List UInt8)) (TV : Value), j ≤ q.length ∧ i = .int .i64 j ∧ Blk wr w1.heap.size (grdC N0 0 TV wd false) 41 ∧ OwnT wr (w1.heap.size + 1) w.heap.size TV qs ∧ GoodQ qs ∧ qs.length ≤ j ∧ qs.length ≤ 60 ∧ Below w1.heap.size wc wr) (fun i _ => q.length - (intOf i).toNat)
    case atStart => exact ⟨0, [], _, Nat.zero_le _, rfl, gG, OwnT.nil _ _ _, (fun x hx => by simp at hx), Nat.le_refl _, by simp, Below.refl _ _⟩
    case round =>
      obtain ⟨j, qs, TV, hj, rfl, gr, tr, hgood, hlj, hl60, hbr⟩ := hrel
      by_cases hlt : j < q.length
      · obtain ⟨ad, X, k, hA, hbk, hc, hr⟩ := (hqC.below (hbr.mono (by omega))).get j hlt
        subst hA
        have hi0 : (0 : Int) ≤ (j : Int) := by omega
        have hi1 : (j : Int) < (q.length : Int) := by omega
        generalize q[j] = bd at *
        obtain ⟨NB, hNB⟩ : ∃ NB, bd.length = NB := ⟨_, rfl⟩
        rw [hNB] at hc
        have HNB := Lib.hid hNB
        by_cases h1 : j < 60
        · have i1 : (j : Int) < 60 := by omega
          by_cases h2 : 0 < bd.length
          · have i2 : (0 : Int) < (NB : Int) := by omega
            have i2n : 0 < NB := by omega
            by_cases h3 : bd.length ≤ 200
            · have i3 : (NB : Int) ≤ 200 := by omega
              have i3n : NB ≤ 200 := by omega
              have HGB := Lib.hid (And.intro h2 h3)
              clear h1 h2 h3 hNB
              obtain ⟨ds, d1, d2, d4⟩ := tr
              obtain ⟨g0, g1, g2, g3, g4⟩ := blk_g gr
              have f2 := gr.free 2
              have hgl := gr.lt
              have hown1 := World.ownsRow.alloc d2 (.cells #[.slice X NB k] 24)
              have HO1 := Lib.hid (fun k (hk : TV.ownBlock = some k) => (World.ownsRow.lt d2 k hk).1)
              have HB1 := Lib.hid ((Below.refl (w1.heap.size + 1) wr).alloc (by omega) (.cells #[.slice X NB k] 24))
              have GR := Lib.hid gr
              have HD1 := Lib.hid d1
              have HD4 := Lib.hid d4
              have HXZ := Lib.hid hr
              have hqs : qs.length ≤ 60 := hl60
              have HGD := Lib.hid hgood
              clear d1 d4 hr gr hgood
              go_wp2_with (first | (at_builtin; refine wpList_app _ rfl (.tmp 59) (.tmp 61) 39 24 1 24 rfl elemQ (w1.heap.size + 1) TV qs.length (rcells Bd.cells ds) rfl hown1 (wr.heap.size + 1) _ 1 1 (rcells Bd.cells [⟨X, NB, k⟩]) rfl rfl (Cells.fresh wr _ 24 _ _ rfl) (ds_one _) (by unfold maxLen; omega) (by omega) (by simp; omega) ?_; intro v3 w3 hown3 hgrow3 hat3; have hb3 : Below (w1.heap.size + 1) wr w3 := HB1.out.grown hgrow3 (by simp; omega) HO1.out; have g3 := GR.out.below hb3 (Nat.lt_succ_self _); obtain ⟨g30, g31, g32, g33, g34⟩ := blk_g g3; have f32 := g3.free 2; obtain ⟨A3, c3, hv3, -, -, -, -⟩ := row_form hown3; subst hv3) | fail)
              go_roundw
              case rel =>
                have hwB : Below w.heap.size wr w3 := hb3.mono (by omega)
                refine ⟨j + 1, qs ++ [bd], _, by omega, by go_num, g3.set1 2 _, OwnT.set (OwnT.snoc HD1.out hown3 HD4.out HNB.out.symm HXZ.out hwB hwB) (Nat.lt_succ_self _) (Nat.le_of_lt hUl), ?_, by simp; omega, by simp; omega, (hbr.trans (hb3.mono (Nat.le_succ _))).setCell (Nat.le_refl _) _⟩
                intro x hx
                rcases List.mem_append.1 hx with hx | hx
                · exact HGD.out x hx
                · obtain rfl := List.mem_singleton.1 hx
                  exact HGB.out
              case measure => simp [intOf]; omega
            · have i3 : ¬ (NB : Int) ≤ 200 := by omega
              clear h1 h2 h3 hNB
              go_wp2_with fail
              go_roundw
              case rel => exact ⟨j + 1, qs, TV, by omega, by go_num, gr, tr, hgood, by omega, hl60, hbr⟩
              case measure => simp [intOf]; omega
          · have i2 : ¬ (0 : Int) < (NB : Int) := by omega
            clear hNB
            obtain rfl : NB = 0 := by omega
            clear h1 h2 i2
            go_wp2_with fail
            go_roundw
            case rel => exact ⟨j + 1, qs, TV, by omega, by go_num, gr, tr, hgood, by omega, hl60, hbr⟩
            case measure => simp [intOf]; omega
        · have i1 : ¬ (j : Int) < 60 := by omega
          clear h1 hNB
          go_wp2_with fail
          go_roundw
          case rel => exact ⟨j + 1, qs, TV, by omega, by go_num, gr, tr, hgood, by omega, hl60, hbr⟩
          case measure => simp [intOf]; omega
      · obtain rfl : j = q.length := by omega
        have hw2 := Nat.le_of_lt hUl
        have hw2' : w.heap.size ≤ wr.heap.size := by have := hbr.size; omega
        have hUo : w.heap.size < wr.heap.size := by have := gr.lt; omega
        have BR := BC.trans (hbr.mono (by omega))
        have gUr := gU.below hbr hUl
        have hsr := hsC.below (hbr.mono (by omega))
        have TR := Lib.hid tr
        have GD := Lib.hid hgood
        have hgl := gr.lt
        clear hqC hsC gU gG hbr tr hgood
        go_wp2_with fail
        obtain ⟨wo, rfl⟩ : ∃ wo : World, wo = wr := ⟨_, rfl⟩
        go_loopw [15, 67] (fun u i wr => ∃ (j : Nat) (bs : List Bt), j ≤ l.length ∧ i = .int .i64 j ∧ OwnBt wr wo.heap.size u bs ∧ (∀ b ∈ bs, b.room = 0) ∧ bs.length ≤ j ∧ bs.length ≤ 200 ∧ Below wo.heap.size wo wr) (fun _ i _ => l.length - (intOf i).toNat)
        case atStart => exact ⟨0, [], Nat.zero_le _, rfl, wo.ownsRow_nil _ 50 5, (fun b hb => by simp at hb), Nat.le_refl _, by simp, Below.refl _ _⟩
        case round =>
          obtain ⟨j, bs, hj, rfl, ob, hrm, hlj2, hl200, hbr⟩ := hrel
          by_cases hlt : j < l.length
          · obtain ⟨ad, hAd, hbk, c0, c1, c2, c3, c4⟩ := bts_get (hsr.below (hbr.mono (by omega))) j hlt
            subst hAd
            have hi0 : (0 : Int) ≤ (j : Int) := by omega
            have hi1 : (j : Int) < (l.length : Int) := by omega
            generalize l[j] = t at *
            obtain ⟨ts, tl, tr, td, tm⟩ := t
            simp only at c0 c1 c2 c3 c4
            by_cases h1 : j < 200
            · have i1 : (j : Int) < 200 := by omega
              unfold OwnBt at ob
              have hown1 := World.ownsRow.alloc (World.ownsRow.alloc ob (.cells #[.bool ts, .bool tl, .bool tr, .bool td, .int .i64 0] 50)) (.cells #[.bool ts, .bool tl, .bool tr, .bool td, .int .i64 0] 50)
              have HO1 := Lib.hid (fun k (hk : u15.ownBlock = some k) => (World.ownsRow.lt ob k hk).1)
              have hbz := hbr.size
              have HBB := Lib.hid ((hbr.alloc hbz (.cells #[.bool ts, .bool tl, .bool tr, .bool td, .int .i64 0] 50)).alloc (by simp; omega) (.cells #[.bool ts, .bool tl, .bool tr, .bool td, .int .i64 0] 50))
              have HRM := Lib.hid hrm
              clear h1 hrm
              go_wp2_with (at_builtin; go_loud (refine wpList_app _ rfl (.tmp 75) (.tmp 77) 42 50 5 16 rfl elemBt wo.heap.size u15 bs.length (rcells Bt.cells bs) rfl hown1 (wr.heap.size + 1 + 1) _ 1 1 (rcells Bt.cells [⟨ts, tl, tr, td, 0⟩]) rfl rfl (by have h := Cells.fresh (wr.alloc (.cells #[.bool ts, .bool tl, .bool tr, .bool td, .int .i64 0] 50)) (rcells Bt.cells [⟨ts, tl, tr, td, 0⟩]) 50 (0, 0) _ rfl; rw [World.size_alloc] at h; exact h) (bs_one _) (by unfold maxLen; omega) (by omega) (by simp; omega) ?_); intro v3 w3 hown3 hgrow3 hat3)
              go_roundw
              case rel =>
                refine ⟨j + 1, bs ++ [⟨ts, tl, tr, td, 0⟩], by omega, by go_num, ?_, ?_, by simp; omega, by simp; omega, HBB.out.grown hgrow3 (by simp; omega) HO1.out⟩
                · unfold OwnBt
                  rw [List.length_append, show rcells Bt.cells (bs ++ [⟨ts, tl, tr, td, 0⟩]) = rcells Bt.cells bs ++ rcells Bt.cells [⟨ts, tl, tr, td, 0⟩] by simp [rcells]]
                  exact hown3
                · intro b hb
                  rcases List.mem_append.1 hb with hb | hb
                  · exact HRM.out b hb
                  · obtain rfl := List.mem_singleton.1 hb
                    rfl
              case measure => simp [intOf]; omega
            · have i1 : ¬ (j : Int) < 200 := by omega
              have hba := hbr.alloc hbr.size (.cells #[.bool ts, .bool tl, .bool tr, .bool td, .int .i64 tm] 50)
              have oba := World.ownsRow.alloc ob (.cells #[.bool ts, .bool tl, .bool tr, .bool td, .int .i64 tm] 50)
              clear h1
              go_wp2_with fail
              go_roundw
              case rel => exact ⟨j + 1, bs, by omega, by go_num, oba, hrm, by omega, hl200, hba⟩
              case measure => simp [intOf]; omega
          · obtain rfl : j = l.length := by omega
            clear hlt
            obtain ⟨A1, c1, rfl, hq1, hc1, hn1⟩ := TR.out.qr2 hw2'
            unfold OwnBt at ob
            obtain ⟨A2, c2, rfl, hb2, -, -, -⟩ := row_form ob
            have z0 := hbr.size
            have hqr : QR wr wr.heap.size A1 qs := (hq1.below hbr).lift z0
            have HR := Lib.hid (run_any N0 W false false false 0 N0 0 A1 qs c1 wd false A2 bs c2 wr.heap.size wr (Nat.le_refl _) (by omega) hc1 hn1 hqr hb2)
            have oe := order_end hN01.1 hN01.2 hM99 hwd1 hwd2 hl60 GD.out hrm hl200
            rw [← HWM.out] at oe
            obtain ⟨x, hx, t1, t2, t3, t4, t5⟩ := oe
            rw [hx] at HR
            clear hx
            obtain ⟨⟨yn, yv, yL, yR, yT, yk⟩, xf, xs, xq, xwd, xst, xtk⟩ := x
            simp only at t1 t2 t3 t4 t5
            subst t5
            have Q5 := Lib.hid (show xtk.length ≤ c1 by omega)
            have HR2 : Hid (Calls Try.prog 22 #[.agg #[.int .i64 N0, .int .i64 W, .bool false, .bool false, .bool false, .int .i64 0], .agg #[.int .i64 N0, .int .i64 0, .slice A1 qs.length c1, .int .i64 wd, .bool false], .slice A2 bs.length c2] wr fun e w' =>
                ∃ A c A' c', e = .returned (.tuple #[.agg #[.int .i64 yn, .int .i64 yv, .bool yL, .bool yR, .bool yT, .int .i64 yk], .agg #[.int .i64 xf, .int .i64 (xs : Int), .slice A xq.length c, .int .i64 xwd, .bool false], .slice A' xtk.length c', .int .i64 0]) ∧ QR w' w'.heap.size A xq ∧ QR w' w'.heap.size A' xtk ∧ Below wr.heap.size wr w') := Lib.hid HR.out
            have gG5 := gr.below hbr hgl
            have gU5 := gUr.below hbr hUo
            obtain ⟨a0, a1, a2, a3, a4, a5⟩ := blk_u gU5
            obtain ⟨b0, b1, b2, b3, b4⟩ := blk_g gG5
            have T1 := Lib.hid t1
            have HQR := Lib.hid hqr
            clear HR ob hb2 hq1 hc1 hqr t1 hrm
            go_upto_region 17 with fail
            go_cut [18, 19, 20, 21] (fun s18 s19 s20 s21 w6 => ∃ (G : Nat) (A5 : Option Addr) (c5 : Nat) (A6 : Option Addr) (c6 : Nat), s19 = .pointer (some ⟨G, 0, none⟩) ∧ s20 = .slice A6 xtk.length c6 ∧ s21 = .int .i64 0 ∧ Blk w6 G (grdC xf xs (.slice A5 xq.length c5) xwd false) 41 ∧ QR w6 w6.heap.size A6 xtk ∧ Below wr.heap.size wr w6)
            case first =>
              go_wp2_with (first | (go_at_call 22; refine (HR2.out).mono ?_; rintro e w5 ⟨A5, c5, A6, c6, rfl, h5, h6, hb5⟩) | fail)
              go_meet
              have B6 := fun a b => ((Below.refl w5.heap.size w5).alloc (Nat.le_refl _) a).alloc (show w5.heap.size ≤ (w5.alloc a).heap.size by simp) b
              exact ⟨_, A5, c5, A6, c6, rfl, rfl, rfl, Blk.snd w5 _ _ _, (h6.below (B6 _ _)).lift (B6 _ _).size, hb5.trans ((B6 _ _).mono hb5.size)⟩
            case rest =>
              obtain ⟨G, A5, c5, A6, c6, rfl, rfl, rfl, g6, h6, hb6⟩ := hcut
              have gG6 := gG5.below hb6 (by have := gG5.lt; omega)
              obtain ⟨e0, e1, e2, e3, e4⟩ := blk_g gG6
              obtain ⟨f0, f1, f2, f3, f4⟩ := blk_g g6
              have hA := ((HQR.out.below hb6).lift hb6.size).take xtk.length
              rw [← T1.out] at hA
              have hlen : ∀ x ∈ xtk, x.length ≤ 9223372036854775807 := by
                intro x hx
                rw [T1.out] at hx
                have := GD.out x (List.mem_of_mem_take hx)
                omega
              have HSB := Lib.hid (fun c => sameBodies_yes A6 A1 xtk c6 c _ _ (Nat.le_refl _) (by omega) hlen h6 hA)
              have q1 : ¬ (qs.length : Int) < (xtk.length : Int) := by omega
              have q2 : ¬ (qs.length : Int) < (xq.length : Int) := by omega
              have q3 : IntKind.i64.wrap ((qs.length : Int) - (xq.length : Int)) = (qs.length : Int) - (xq.length : Int) := IntWalk.i64_in _ (by omega)
              have q4 : (qs.length : Int) - (xq.length : Int) ≤ (xtk.length : Int) := by omega
              have q6 : xtk.length ≤ c1 := Q5.out
              have q5 : (xtk.length : Int) ≤ (c1 : Int) := by omega
              have b1 := BR.trans (hbr.mono BR.size)
              have b2 := b1.trans (hb6.mono b1.size)
              have HL1 := Lib.hid gG6.lt
              have HL2 := Lib.hid g6.lt
              clear HR2 h6 hA hlen gG6 g6 gG5 gU5 a0 a1 a2 a3 a4 a5 b0
              go_wp2_with (first | (go_at_call 25; go_loud (refine (HSB.out _).mono ?_; rintro e w7 ⟨rfl, hb7⟩; have e2 := (hb7.cell (by exact HL1.out)).trans e2; have f2 := (hb7.cell (by exact HL2.out)).trans f2; have f4 := (hb7.cell (by exact HL2.out)).trans f4)) | (go_at_call 21; refine (awake_any _).mono ?_; rintro e w8 ⟨rfl, hb8⟩) | fail)
              go_ret
              exact ⟨rfl, b2.trans ((hb7.trans (hb8.mono hb7.size)).mono b2.size)⟩

set_option maxHeartbeats 1600000 in
set_option maxRecDepth 100000 in
theorem order_lifted (os : Os) (started : os.Started) (H : Type) (enc : TypeId × Value → H) :
    ReturnsInHanded {} Try.checked os 6 .any (Rows.commandTakenInOrderSpec.pre6 enc Try.prog Try.f6 Rows.commandTakenInOrderRow.domain false) (Rows.commandTakenInOrderSpec.post enc Try.prog Try.f6 false true false false) := by
  refine returnsInHanded_of_change (C := Try.checked) own started (by kernel_rfl) Try.func6
    (ChangeSpec.witness6 (enc := enc) (C := Try.checked) false ⟨#[], #[.int .i64 0, .int .i64 0, .slice none 0 0, .int .i64 0, .slice none 0 0], []⟩ 8 (by kernel_rfl) (by kernel_rfl) (by kernel_rfl) (by kernel_rfl)) ?_
  intro W base args ds gs before hval0 hW _ _
  have hval : ∀ (j : Nat) t v, Try.f6.params[j]? = some t → args[j]? = some v → Value.okWide Try.prog W .any base t v := hval0
  have hW' := hW
  have hlt := fun x hx => hW'.lt x hx
  obtain ⟨p, q, hA0, hV, rfl, _, _⟩ := hW
  have hA : DataW.TrodAll enc Try.prog W 0 (fun _ => true) true Try.f6.params.toList args.toList ds p := hA0
  rw [Try.params6] at hA hval
  obtain ⟨v0, v1, v2, v3, v4, d0, d1, d2, d3, d4, p0, p1, p2, p3, p4, rfl, rfl, rfl, h0, h1, h2, h3, h4⟩ := trodAll_many5 hA
  obtain ⟨rfl, rfl⟩ := trodVars_none hV
  obtain ⟨n, rfl, rfl, rfl, wfn⟩ := open_int Try.underlying3 (hval 0 3 v0 rfl rfl) h0
  have hbn := bounds_i64 wfn
  obtain ⟨v, rfl, rfl, rfl, wfv⟩ := open_int Try.underlying3 (hval 1 3 v1 rfl rfl) h1
  have hbv := bounds_i64 wfv
  obtain ⟨Ab', lenb, capb, rfl⟩ := okWide_slice Try.underlying39 (hval 2 39 v2 rfl rfl)
  obtain ⟨nb, hnb⟩ := h2
  obtain ⟨Ab, cb, b, hvb, hlcb, hcb, hBb, hIb, hdb⟩ := open_bss (fun x hx => hlt x (by simp [hx])) hnb
  obtain ⟨u, rfl, rfl, rfl, wfu⟩ := open_int Try.underlying3 (hval 3 3 v3 rfl rfl) h3
  have hbu := bounds_i64 wfu
  obtain ⟨Al', lenl, capl, rfl⟩ := okWide_slice Try.underlying42 (hval 4 42 v4 rfl rfl)
  obtain ⟨nl, hnl⟩ := h4
  obtain ⟨Al, cl, l, hvl, hlcl, hcl, hBl, hIl, hdl⟩ := open_bts (fun x hx => hlt x (by simp [hx])) hnl
  rw [hvb] at hW' ⊢
  rw [hvl] at hW' ⊢
  refine (lawOrder_any n v u Ab b cb Al l cl W hbn hbv hbu (by have := hlcb; have := hcb; unfold maxLen at *; omega) (by have := hlcl; have := hcl; unfold maxLen at *; omega) hBb hBl).mono fun e W' ⟨he, hb⟩ => ?_
  subst he
  exact ⟨_, rfl, law_post (by decide +kernel) rfl rfl hW' rfl hb⟩

set_option maxRecDepth 100000 in
theorem order_closed : joinedFacts Try.prog 6 Try.f6 Rows.commandTakenInOrderSpec Rows.commandTakenInOrderRow = true :=
  closed_all (by as_aux_lemma => kernel_rfl) (by as_aux_lemma => kernel_rfl) (by as_aux_lemma => kernel_rfl) (by as_aux_lemma => kernel_rfl) (by as_aux_lemma => kernel_rfl) (by as_aux_lemma => kernel_rfl) (by as_aux_lemma => kernel_rfl) (by as_aux_lemma => kernel_rfl) (by as_aux_lemma => kernel_rfl) (by as_aux_lemma => kernel_rfl) (by as_aux_lemma => kernel_rfl) (by as_aux_lemma => kernel_rfl) (by as_aux_lemma => kernel_rfl) (by as_aux_lemma => kernel_rfl) (by as_aux_lemma => kernel_rfl) (by as_aux_lemma => kernel_rfl) (by as_aux_lemma => kernel_rfl) (by as_aux_lemma => kernel_rfl) pKeys (by as_aux_lemma => kernel_rfl) pLifts pMake (by as_aux_lemma => kernel_rfl) (by as_aux_lemma => kernel_rfl) (by as_aux_lemma => kernel_rfl) (by as_aux_lemma => kernel_rfl)

theorem order_holds : Rows.CommandTakenInOrderSaid :=
  OpenClaim.holds_of_wide 6 Try.f6 rfl rfl rfl rfl rfl rfl rfl ⟨rfl, rfl, rfl, rfl, rfl⟩ rfl rfl rfl rfl rfl (by kernel_rfl) Try.func6 order_closed
    (of_decide_eq_true (by kernel_rfl)) (by unfold Func.isWrapper; first | (rw [if_pos (by decide +kernel)]; kernel_rfl) | (rw [if_neg (by decide +kernel)]; exact ⟨rfl, rfl⟩))
    (fun os started H enc _ => order_lifted os started H enc)
#print axioms order_holds
end Go.Proofs.Yteikggieekhfkaa
