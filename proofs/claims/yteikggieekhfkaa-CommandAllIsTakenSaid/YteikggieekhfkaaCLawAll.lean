/- the law: with beats that lose nothing all is taken. -/
import Derived.Test.YteikggieekhfkaaNeedP
import Derived.Test.YteikggieekhfkaaCLawOrder
namespace Go.Proofs.Yteikggieekhfkaa
open Go.ChangeShapes Go.WideShapes Go.ChangeAt Go.RowKit

theorem need_full {N0 W wd : Int} {Q : List (List UInt8)} (hwd : 1 ≤ wd) (hQ : Q.length ≤ 60) : ∀ (m i : Nat), i ≤ Q.length → Q.length ≤ i + m → needS (fullS N0 W wd Q i) i m = ((Q.length : Int), true, 0)
  | 0, i, h, h' => by
    have : i = Q.length := by omega
    subst this
    exact need_none (by simp [fullS])
  | m + 1, i, h, h' => by
    by_cases he : i = Q.length
    · subst he
      exact need_none (by simp [fullS])
    · rw [needS, if_neg (by simp [fullS]; omega), full_beat hwd hQ (by omega), if_neg (by simp)]
      exact need_full hwd hQ m (i + 1) (by omega) (by omega)
/-- the ends of both -/
theorem all_end {N0 : Int} {M : Nat} {wd : Int} {qs : List (List UInt8)} (hN0 : 0 ≤ N0) (hN1 : N0 ≤ 255) (hM : M ≤ 99) (hw1 : 1 ≤ wd) (hw2 : wd ≤ 1 + (M : Int)) (hq : qs.length ≤ 60) (hg : GoodQ qs) :
    needR (bothS N0 (4 + 2 * (M : Int)) 0 N0 0 qs wd) 2000 ⟨⟨N0, 4 + 2 * (M : Int), false, false, false, 0⟩, N0, (0 : Int).toNat, qs, wd, false, []⟩ = ((qs.length : Int), true, 0) ∧
    runR ⟨⟨N0, 4 + 2 * (M : Int), false, false, false, 0⟩, N0, (0 : Int).toNat, qs, wd, false, []⟩ (runC N0 (4 + 2 * (M : Int)) 0 N0 0 qs wd (List.replicate qs.length fullB)) (List.replicate qs.length fullB) = (fullS N0 (4 + 2 * (M : Int)) wd qs qs.length, 0) := by
  have hB : bothS N0 (4 + 2 * (M : Int)) 0 N0 0 qs wd = 0 := by
    unfold bothS
    have h1 : brdS N0 (4 + 2 * (M : Int)) 0 = 0 := by
      unfold brdS
      rw [if_pos ⟨hN0, hN1⟩, if_pos (by rw [Int.tmod_eq_emod_of_nonneg (by omega)]; omega), if_pos (by omega), if_pos (by omega)]
    have h2 : gndS N0 0 qs wd = 0 := by
      unfold gndS
      rw [if_pos ⟨hN0, hN1⟩, if_pos (by omega), if_neg (by omega), if_pos (good_bods hg), if_pos (by omega)]
    rw [h1, if_pos rfl, h2]
  have hC : runC N0 (4 + 2 * (M : Int)) 0 N0 0 qs wd (List.replicate qs.length fullB) = 0 := by
    unfold runC
    rw [hB, if_pos rfl, if_neg (by simp; omega), if_pos]
    exact List.all_eq_true.2 fun b hb' => by
      obtain ⟨_, rfl⟩ := List.mem_replicate.1 hb'
      rfl
  rw [hB, hC, ← full_zero hN0 hN1]
  constructor
  · unfold needR
    rw [if_neg (by simp), if_neg (by simp)]
    exact need_full hw1 hq _ 0 (Nat.zero_le _) (by simp; omega)
  · unfold runR
    have := full_run (N0 := N0) (W := 4 + 2 * (M : Int)) hw1 hq qs.length 0 (by omega)
    rw [Nat.zero_add] at this
    rw [if_neg (by simp), this, if_neg (by simp)]
def zeroB : Bt := ⟨false, false, false, false, 0⟩
theorem made_beats (n : Nat) : (madeCells #[.bool false, .bool false, .bool false, .bool false, .int .i64 0] (n * 5)).toList = rcells Bt.cells (List.replicate n zeroB) := by
  apply List.ext_getElem?
  intro i
  by_cases hi : i < n * 5
  · have h1 : i / 5 < n := by omega
    have h3 : i % 5 < 5 := Nat.mod_lt _ (by omega)
    have hd : i / 5 * 5 + i % 5 = i := Nat.div_add_mod' i 5
    have hr := rcells_get Bt.five (List.replicate n zeroB) (i / 5) (i % 5) (by simpa using h1) h3
    rw [hd] at hr
    rw [hr]
    have hm : (madeCells #[Value.bool false, .bool false, .bool false, .bool false, .int .i64 0] (n * 5)).toList[i]? = some (#[Value.bool false, .bool false, .bool false, .bool false, .int .i64 0][i % 5]!) := by
      simp [madeCells, hi]
    rw [hm]
    simp only [List.getElem_replicate]
    have : i % 5 = 0 ∨ i % 5 = 1 ∨ i % 5 = 2 ∨ i % 5 = 3 ∨ i % 5 = 4 := by omega
    rcases this with e | e | e | e | e <;> rw [e] <;> rfl
  · rw [List.getElem?_eq_none (by simp [madeCells]; omega), List.getElem?_eq_none (by rw [rcells_len Bt.five]; simp; omega)]
theorem made_blk {w : World} {base g n : Nat} (h : w.ownsRow base 50 5 (.slice (some ⟨g, 0, none⟩) n n) n (madeCells #[.bool false, .bool false, .bool false, .bool false, .int .i64 0] (n * 5)).toList) :
    ∃ C : Array Value, Blk w g C 50 ∧ C.toList = rcells Bt.cells (List.replicate n zeroB) := by
  rcases h.2 with ⟨e, _⟩ | ⟨g', cap, cur, e, _, hg, _, _, hs, ht⟩
  · simp at e
  · simp only [Value.slice.injEq, Option.some.injEq, Addr.mk.injEq] at e
    obtain ⟨⟨rfl, _⟩, _, rfl⟩ := e
    refine ⟨cur, hg, ?_⟩
    rw [← made_beats, ← ht, List.take_of_length_le (by simp [hs])]
theorem set_beat {C : Array Value} {n j : Nat} (hj : j < n) (h : C.toList = rcells Bt.cells (List.replicate j fullB ++ List.replicate (n - j) zeroB)) :
    (((((C.setIfInBounds (j * 5) (.bool true)).setIfInBounds (j * 5 + 1) (.bool false)).setIfInBounds (j * 5 + 2) (.bool true)).setIfInBounds (j * 5 + 3) (.bool false)).setIfInBounds (j * 5 + 4) (.int .i64 0)).toList = rcells Bt.cells (List.replicate (j + 1) fullB ++ List.replicate (n - (j + 1)) zeroB) := by
  obtain ⟨m, rfl⟩ : ∃ m, n = j + (m + 1) := ⟨n - j - 1, by omega⟩
  rw [show j + (m + 1) - j = m + 1 by omega, List.replicate_succ] at h
  rw [show j + (m + 1) - (j + 1) = m by omega, List.replicate_succ', List.append_assoc]
  have hP : (rcells Bt.cells (List.replicate j fullB)).length = j * 5 := by rw [rcells_len Bt.five]; simp
  have h1 : rcells Bt.cells (List.replicate j fullB ++ zeroB :: List.replicate m zeroB) = rcells Bt.cells (List.replicate j fullB) ++ ([.bool false, .bool false, .bool false, .bool false, .int .i64 0] ++ rcells Bt.cells (List.replicate m zeroB)) := by
    simp [rcells, zeroB, Bt.cells]
  have h2 : rcells Bt.cells (List.replicate j fullB ++ ([fullB] ++ List.replicate m zeroB)) = rcells Bt.cells (List.replicate j fullB) ++ ([.bool true, .bool false, .bool true, .bool false, .int .i64 0] ++ rcells Bt.cells (List.replicate m zeroB)) := by
    simp [rcells, fullB, Bt.cells]
  rw [h1] at h
  rw [h2]
  simp only [Array.toList_setIfInBounds, h]
  generalize rcells Bt.cells (List.replicate j fullB) = P at *
  generalize rcells Bt.cells (List.replicate m zeroB) = S at *
  rw [List.set_append_right _ _ (by omega), List.set_append_right _ _ (by omega), List.set_append_right _ _ (by omega), List.set_append_right _ _ (by omega), List.set_append_right _ _ (by omega), hP,
    show j * 5 - j * 5 = 0 by omega, show j * 5 + 1 - j * 5 = 1 by omega, show j * 5 + 2 - j * 5 = 2 by omega, show j * 5 + 3 - j * 5 = 3 by omega, show j * 5 + 4 - j * 5 = 4 by omega]
  rfl
theorem beat_at {w : World} {g n j : Nat} {C : Array Value} (h : Blk w g C 50) (hj : j < n) (hC : C.toList = rcells Bt.cells (List.replicate j fullB ++ List.replicate (n - j) zeroB)) :
    w.cell? ⟨g, j * 5, none⟩ = some (.bool false) ∧ w.cell? ⟨g, j * 5 + 1, none⟩ = some (.bool false) ∧ w.cell? ⟨g, j * 5 + 2, none⟩ = some (.bool false) ∧ w.cell? ⟨g, j * 5 + 3, none⟩ = some (.bool false) ∧ w.cell? ⟨g, j * 5 + 4, none⟩ = some (.int .i64 0) := by
  have hk : ∀ k v, k < 5 → zeroB.cells[k]? = some v → C[j * 5 + k]? = some v := by
    intro k v hk hv
    rw [← Array.getElem?_toList, hC, rcells_get Bt.five _ j k (by simp; omega) hk, ← hv]
    simp
  exact ⟨h.cell _ _ (hk 0 _ (by omega) rfl), h.cell _ _ (hk 1 _ (by omega) rfl), h.cell _ _ (hk 2 _ (by omega) rfl), h.cell _ _ (hk 3 _ (by omega) rfl), h.cell _ _ (hk 4 _ (by omega) rfl)⟩
theorem blk_row {w : World} {g : Nat} {C : Array Value} {t : TypeId} {xs : List Value} (h : Blk w g C t) (hC : C.toList = xs) : Cells w w.heap.size (some ⟨g, 0, none⟩) xs := by
  refine .inr ⟨_, rfl, h.lt, fun j u hu => ?_⟩
  rw [show (⟨g, 0, none⟩ : Addr).add j = ⟨g, j, none⟩ by by_cases h : j = 0 <;> simp [Addr.add, h]]
  exact h.cell j u (by rw [← Array.getElem?_toList, hC]; exact hu)
set_option maxRecDepth 100000 in
set_option maxHeartbeats 8000000 in
theorem lawAll_any (next window width : Int) (A : Option Addr) (q : List (List UInt8)) (c : Nat) (w : World) (hn : In64 next) (hwi : In64 window) (hwd : In64 width)
    (hql : q.length ≤ 9223372036854775807) (h : QR w w.heap.size A q) :
    Calls Try.prog 7 #[.int .i64 next, .int .i64 window, .slice A q.length c, .int .i64 width] w fun e w' => e = .returned (.bool true) ∧ Below w.heap.size w w' := by
  have HB1 : Hid (∀ w, Calls Try.prog 26 #[.int .i64 next, .int .i64 256] w fun e w' => e = .returned (.int .i64 (next % 256)) ∧ w = w') := Lib.hid fun w => belowN_any next 256 w (by omega) (by omega) hn
  have HB2 : Hid (∀ w, Calls Try.prog 26 #[.int .i64 window, .int .i64 100] w fun e w' => e = .returned (.int .i64 (window % 100)) ∧ w = w') := Lib.hid fun w => belowN_any window 100 w (by omega) (by omega) hwi
  obtain ⟨N0, hN0⟩ : ∃ N0, next % 256 = N0 := ⟨_, rfl⟩
  have hN01 : 0 ≤ N0 ∧ N0 ≤ 255 := by omega
  obtain ⟨M, hM⟩ : ∃ M : Nat, window % 100 = (M : Int) := ⟨(window % 100).toNat, by omega⟩
  have hM99 : M ≤ 99 := by omega
  rw [hN0] at HB1
  rw [hM] at HB2
  clear hN0 hM
  obtain ⟨Y, hY⟩ : ∃ Y, width % ((1 + M : Nat) : Int) = Y := ⟨_, rfl⟩
  have hY0 : 0 ≤ Y := by rw [← hY]; exact Int.emod_nonneg _ (by omega)
  have hY1 : Y < 1 + (M : Int) := by rw [← hY]; have := Int.emod_lt_of_pos width (show (0 : Int) < ((1 + M : Nat) : Int) by omega); omega
  obtain ⟨J, hJ⟩ : ∃ J : Int, J = 1 + (M : Int) := ⟨_, rfl⟩
  have HB3 : Hid (∀ w, Calls Try.prog 26 #[.int .i64 width, .int .i64 J] w fun e w' => e = .returned (.int .i64 Y) ∧ w = w') := Lib.hid fun w => by
    have := belowN_any width (1 + M) w (by omega) (by omega) hwd
    rw [hY, show ((1 + M : Nat) : Int) = J by omega] at this
    exact this
  obtain ⟨W, hW⟩ : ∃ W : Int, W = 4 + 2 * (M : Int) := ⟨_, rfl⟩
  obtain ⟨H, hH⟩ : ∃ H : Int, H = 2 + (M : Int) := ⟨_, rfl⟩
  obtain ⟨wd, hwdd⟩ : ∃ wd : Int, wd = 1 + Y := ⟨_, rfl⟩
  have v0 : IntKind.i64.wrap (2 * (M : Int)) = 2 * (M : Int) := IntWalk.i64_in _ (by omega)
  have v1 : IntKind.i64.wrap (4 + 2 * (M : Int)) = W := by rw [IntWalk.i64_in _ (by omega)]; omega
  have v1' : 4 + 2 * (M : Int) = W := hW.symm
  have v2 : W.tdiv 2 = H := by rw [Int.tdiv_eq_ediv_of_nonneg (by omega)]; omega
  have v3 : IntKind.i64.wrap H = H := IntWalk.i64_in _ (by omega)
  have v4 : IntKind.i64.wrap (H - 1) = J := by rw [IntWalk.i64_in _ (by omega)]; omega
  have v5 : IntKind.i64.wrap (1 + Y) = wd := by rw [IntWalk.i64_in _ (by omega)]; omega
  have V2 := Lib.hid v2
  have V3 := Lib.hid v3
  have V4 := Lib.hid v4
  have V5 := Lib.hid v5
  have hwd1 : 1 ≤ wd := by omega
  have hwd2 : wd ≤ 1 + (M : Int) := by omega
  have HWM := Lib.hid hW
  have hb1 := (Below.refl w.heap.size w).alloc (Nat.le_refl _) (.cells (uplC N0 W false false false 0) 23)
  have gU := Blk.new w (uplC N0 W false false false 0) 23
  obtain ⟨w1, hw1⟩ : ∃ w1, w.alloc (.cells (uplC N0 W false false false 0) 23) = w1 := ⟨_, rfl⟩
  rw [hw1] at hb1 gU
  unfold uplC at hw1
  have HW1 := Lib.hid hw1
  clear hw1 hW hH hwdd hJ hY v2 v3 v4 v5 hn hwi hwd
  go_enter Try.func7, Try.ntmps7
  go_upto_region 2 with (first | (go_at_call 26; with_reducible refine (HB1.out _).mono ?_; rintro e w' ⟨rfl, rfl⟩) | (go_at_call 26; with_reducible refine (HB2.out _).mono ?_; rintro e w' ⟨rfl, rfl⟩) | fail)
  rw [HW1.out]
  obtain ⟨u0, u1, -, -, -, -⟩ := blk_u gU
  have hUl := gU.lt
  have HSS := Lib.hid (fun (wx : World) (hb : Below w1.heap.size w1 wx) => (⟨(hb.cell hUl).trans u0, (hb.cell hUl).trans u1⟩ : wx.cell? ⟨w.heap.size, 0, none⟩ = some (.int .i64 N0) ∧ wx.cell? ⟨w.heap.size, 1, none⟩ = some (.int .i64 W)))
  have hbb : Below w1.heap.size w1 w1 := Below.refl _ _
  go_cut [10] (fun s10 wx => s10 = .pointer (some ⟨w1.heap.size, 0, none⟩) ∧ Blk wx w1.heap.size (grdC N0 0 (.slice none 0 0) wd false) 41 ∧ Below w1.heap.size w1 wx)
  case first =>
    have v2 := V2.out
    have v3 := V3.out
    have v4 := V4.out
    have v5 := V5.out
    go_region_held3 (fun wx => wx.cell? ⟨w.heap.size, 0, none⟩ = some (.int .i64 N0) ∧ wx.cell? ⟨w.heap.size, 1, none⟩ = some (.int .i64 W))
      (first | with_reducible exact HSS.out _ hbb | with_reducible exact HSS.out _ hbb.drew | with_reducible exact HSS.out _ (Below.alloc hbb hbb.size _) | with_reducible exact HSS.out _ (Below.drew (Below.alloc hbb hbb.size _)) | go_keep)
      (first
       | (go_at_call 26
          with_reducible refine (HB3.out _).mono ?_
          rintro e w3 ⟨rfl, rfl⟩))
    all_goals
      go_wp2_with fail
      go_meet
      first
      | exact ⟨rfl, Blk.new w1 (grdC N0 0 (.slice none 0 0) wd false) _, Below.alloc hbb hbb.size _⟩
      | exact ⟨rfl, Blk.new w1 (grdC N0 0 (.slice none 0 0) wd false) _, (Below.alloc hbb hbb.size _).drew⟩
  case rest =>
    obtain ⟨rfl, gG, hbc⟩ := hcut
    have BC := hb1.trans (hbc.mono hb1.size)
    have gU := gU.below hbc gU.lt
    have hqC := h.below BC
    have hG := gG.lt
    clear HSS hbb hbc V2 V3 V4 V5 HB1 HB2 HB3 h u0 u1 HW1 v0 v1 v1'
    go_wp2_with fail
    go_loopw [11, 12, 40] (fun _ _ i wr => ∃ (j : Nat) (qs : List (List UInt8)) (TV : Value), j ≤ q.length ∧ i = .int .i64 j ∧ Blk wr w1.heap.size (grdC N0 0 TV wd false) 41 ∧ OwnT wr (w1.heap.size + 1) w.heap.size TV qs ∧ GoodQ qs ∧ qs.length ≤ j ∧ qs.length ≤ 60 ∧ Below w1.heap.size wc wr) (fun _ _ i _ => q.length - (intOf i).toNat)
    case atStart => exact ⟨0, [], _, Nat.zero_le _, rfl, gG, OwnT.nil _ _ _, (fun x hx => by simp at hx), Nat.le_refl _, by simp, Below.refl _ _⟩
    case round =>
      obtain ⟨j, qs, TV, hj, rfl, gr, tr, hgood, hlj, hl60, hbr⟩ := hrel
      by_cases hlt : j < q.length
      · obtain ⟨ad, X, k, hA, hbk, hc, hr⟩ := (hqC.below (hbr.mono (by omega))).get j hlt
        subst hA
        have hi0 : (0 : Int) ≤ (j : Int) := by omega
        have hi1 : (j : Int) < (q.length : Int) := by omega
        generalize q[j] = bd at *
        obtain ⟨NB, hNB⟩ : ∃ NB, bd.length = NB := ⟨_, rfl⟩
        rw [hNB] at hc
        have HNB := Lib.hid hNB
        by_cases h1 : j < 60
        · have i1 : (j : Int) < 60 := by omega
          by_cases h2 : 0 < bd.length
          · have i2 : (0 : Int) < (NB : Int) := by omega
            have i2n : 0 < NB := by omega
            by_cases h3 : bd.length ≤ 200
            · have i3 : (NB : Int) ≤ 200 := by omega
              have i3n : NB ≤ 200 := by omega
              have HGB := Lib.hid (And.intro h2 h3)
              clear h1 h2 h3 hNB
              obtain ⟨ds, d1, d2, d4⟩ := tr
              obtain ⟨g0, g1, g2, g3, g4⟩ := blk_g gr
              have f2 := gr.free 2
              have hgl := gr.lt
              have hown1 := World.ownsRow.alloc d2 (.cells #[.slice X NB k] 24)
              have HO1 := Lib.hid (fun k (hk : TV.ownBlock = some k) => (World.ownsRow.lt d2 k hk).1)
              have HB1 := Lib.hid ((Below.refl (w1.heap.size + 1) wr).alloc (by omega) (.cells #[.slice X NB k] 24))
              have GR := Lib.hid gr
              have HD1 := Lib.hid d1
              have HD4 := Lib.hid d4
              have HXZ := Lib.hid hr
              have hqs : qs.length ≤ 60 := hl60
              have HGD := Lib.hid hgood
              clear d1 d4 hr gr hgood
              go_wp2_with (first | (at_builtin; refine wpList_app _ rfl (.tmp 58) (.tmp 60) 39 24 1 24 rfl elemQ (w1.heap.size + 1) TV qs.length (rcells Bd.cells ds) rfl hown1 (wr.heap.size + 1) _ 1 1 (rcells Bd.cells [⟨X, NB, k⟩]) rfl rfl (Cells.fresh wr _ 24 _ _ rfl) (ds_one _) (by unfold maxLen; omega) (by omega) (by simp; omega) ?_; intro v3 w3 hown3 hgrow3 hat3; have hb3 : Below (w1.heap.size + 1) wr w3 := HB1.out.grown hgrow3 (by simp; omega) HO1.out; have g3 := GR.out.below hb3 (Nat.lt_succ_self _); obtain ⟨g30, g31, g32, g33, g34⟩ := blk_g g3; have f32 := g3.free 2; obtain ⟨A3, c3, hv3, -, -, -, -⟩ := row_form hown3; subst hv3) | fail)
              go_roundw
              case rel =>
                have hwB : Below w.heap.size wr w3 := hb3.mono (by omega)
                refine ⟨j + 1, qs ++ [bd], _, by omega, by go_num, g3.set1 2 _, OwnT.set (OwnT.snoc HD1.out hown3 HD4.out HNB.out.symm HXZ.out hwB hwB) (Nat.lt_succ_self _) (Nat.le_of_lt hUl), ?_, by simp; omega, by simp; omega, (hbr.trans (hb3.mono (Nat.le_succ _))).setCell (Nat.le_refl _) _⟩
                intro x hx
                rcases List.mem_append.1 hx with hx | hx
                · exact HGD.out x hx
                · obtain rfl := List.mem_singleton.1 hx
                  exact HGB.out
              case measure => simp [intOf]; omega
            · have i3 : ¬ (NB : Int) ≤ 200 := by omega
              clear h1 h2 h3 hNB
              go_wp2_with fail
              go_roundw
              case rel => exact ⟨j + 1, qs, TV, by omega, by go_num, gr, tr, hgood, by omega, hl60, hbr⟩
              case measure => simp [intOf]; omega
          · have i2 : ¬ (0 : Int) < (NB : Int) := by omega
            clear hNB
            obtain rfl : NB = 0 := by omega
            clear h1 h2 i2
            go_wp2_with fail
            go_roundw
            case rel => exact ⟨j + 1, qs, TV, by omega, by go_num, gr, tr, hgood, by omega, hl60, hbr⟩
            case measure => simp [intOf]; omega
        · have i1 : ¬ (j : Int) < 60 := by omega
          clear h1 hNB
          go_wp2_with fail
          go_roundw
          case rel => exact ⟨j + 1, qs, TV, by omega, by go_num, gr, tr, hgood, by omega, hl60, hbr⟩
          case measure => simp [intOf]; omega
      · obtain rfl : j = q.length := by omega
        have hw2 := Nat.le_of_lt hUl
        have hw2' : w.heap.size ≤ wr.heap.size := by have := hbr.size; omega
        have hUo : w.heap.size < wr.heap.size := by have := gr.lt; omega
        have BR := BC.trans (hbr.mono (by omega))
        have gUr := gU.below hbr hUl
        have TR := Lib.hid tr
        have GD := Lib.hid hgood
        have hgl := gr.lt
        have AE := Lib.hid (all_end hN01.1 hN01.2 hM99 hwd1 hwd2 hl60 hgood)
        rw [← HWM.out] at AE
        obtain ⟨A1, c1, rfl, hq1, hc1, hn1⟩ := tr.qr2 hw2'
        have HN := Lib.hid (needed_any N0 W false false false 0 N0 0 A1 qs c1 wd false 2000 wr.heap.size wr (Nat.le_refl _) (by omega) hc1 hn1 hq1)
        rw [AE.out.1] at HN
        unfold uplV grdV triV at HN
        simp only at HN
        obtain ⟨a0, a1, a2, a3, a4, a5⟩ := blk_u gUr
        obtain ⟨b0, b1, b2, b3, b4⟩ := blk_g gr
        have HQ1 := Lib.hid hq1
        clear hqC gU gG tr hgood hq1
        obtain ⟨i50, I1, I2, I3, I4⟩ := info_parts info50
        have HI1 := Lib.hid I1
        have HI2 := Lib.hid I2
        have HI3 := Lib.hid I3
        have HI4 := Lib.hid I4
        clear I1 I2 I3 I4
        have n0 : (0 : Int) ≤ (qs.length : Int) := by omega
        go_wp2_with (first | (go_at_call 27; refine (HN.out).mono ?_; rintro e w5 ⟨rfl, hb5⟩; have gr5 := gr.below hb5 hgl; have gU5 := gUr.below hb5 hUo; obtain ⟨a0, a1, a2, a3, a4, a5⟩ := blk_u gU5; obtain ⟨b0, b1, b2, b3, b4⟩ := blk_g gr5) | (at_make; go_loud (refine wpList_make_full _ rfl _ _ 42 rfl w5.heap.size 50 i50 _ 5 Try.underlying42 HI1.out HI2.out HI3.out .i64 .i64 _ _ qs.length rfl rfl rfl rfl (by rw [HI4.out]; omega) (by unfold maxLen; omega) (Nat.le_refl _) ?_); intro w6 hown6 hgrow6) | fail)
        obtain ⟨C0, hC0, hL0⟩ := made_blk (by exact hown6)
        have B6 : Below w5.heap.size w5 w6 := (Below.refl _ _).grown hgrow6 (Nat.le_refl _) (fun k hk => by cases hk)
        clear hown6 hgrow6 a0 a1 a2 a3 a4 a5 b0 b1 b2 b3 b4 HN n0
        obtain ⟨g, hg⟩ : ∃ g, w5.heap.size = g := ⟨_, rfl⟩
        obtain ⟨aL, haL⟩ : ∃ aL : Addr, aL = ⟨g, 0, none⟩ := ⟨_, rfl⟩
        rw [hg] at hC0
        rw [hg, ← haL]
        have HAL := Lib.hid haL
        have HG := Lib.hid hg
        have hsz5 : wr.heap.size ≤ g := by have := hb5.size; omega
        clear haL hg
        go_loopw [17, 88] (fun _ i wr => ∃ (j : Nat) (C : Array Value), j ≤ qs.length ∧ i = .int .i64 j ∧ Blk wr g C 50 ∧ C.toList = rcells Bt.cells (List.replicate j fullB ++ List.replicate (qs.length - j) zeroB) ∧ Below g w6 wr) (fun _ i _ => qs.length - (intOf i).toNat)
        case atStart => exact ⟨0, C0, Nat.zero_le _, rfl, hC0, by rw [hL0]; simp, Below.refl _ _⟩
        case round =>
          obtain ⟨j, C, hj, rfl, hbC, hCL, hbr2⟩ := hrel
          by_cases hlt2 : j < qs.length
          · obtain ⟨e0, e1, e2, e3, e4⟩ := beat_at hbC hlt2 hCL
            obtain ⟨O, hO⟩ : ∃ O, j * 5 = O := ⟨_, rfl⟩
            have hadd : aL.add (j * 5) = ⟨g, O, none⟩ := by
              rw [HAL.out, hO]
              by_cases h : O = 0 <;> simp [Addr.add, h]
            rw [hO] at e0 e1 e2 e3 e4
            have HO := Lib.hid hO
            have f0 := hbC.free O
            have f1 := hbC.free (O + 1)
            have f2 := hbC.free (O + 2)
            have f3 := hbC.free (O + 3)
            have f4 := hbC.free (O + 4)
            have hi0 : (0 : Int) ≤ (j : Int) := by omega
            have hi1 : (j : Int) < (qs.length : Int) := by omega
            have HCL := Lib.hid hCL
            have HBC := Lib.hid hbC
            clear hO hCL hbC
            go_wp2_with fail
            go_roundw
            case rel =>
              have hs5 := set_beat hlt2 HCL.out
              rw [HO.out] at hs5
              exact ⟨j + 1, _, hlt2, by go_num, ((((HBC.out.set1 _ _).set1 _ _).set1 _ _).set1 _ _).set1 _ _, hs5, five_at hbr2 (Nat.le_refl _) _ _ _ _ _ _ _ _ _ _⟩
            case measure => simp [intOf]; omega
          · obtain rfl : j = qs.length := by omega
            have B7 : Below w5.heap.size w5 wr := by
              rw [HG.out] at B6 ⊢
              exact B6.trans hbr2
            have B8 := hb5.trans (B7.mono hb5.size)
            have BW := BR.trans (B8.mono BR.size)
            have gr7 := gr5.below B7 gr5.lt
            have gU7 := gU5.below B7 gU5.lt
            have hqr := (HQ1.out.below B8).lift B8.size
            have hbs : SR Bt.cells wr wr.heap.size (some aL) (List.replicate qs.length fullB) := by
              rw [HAL.out]
              exact blk_row hbC (by rw [hCL, Nat.sub_self]; simp)
            have HR := Lib.hid (run_any N0 W false false false 0 N0 0 A1 qs c1 wd false (some aL) (List.replicate qs.length fullB) qs.length wr.heap.size wr (Nat.le_refl _) (by omega) hc1 hn1 hqr hbs)
            rw [AE.out.2] at HR
            rw [List.length_replicate] at HR
            have hfs : fullS N0 W wd qs qs.length = ⟨⟨(N0 + (qs.length : Int)) % 256, W, false, false, false, (qs.length : Int)⟩, (N0 + (qs.length : Int)) % 256, 0, [], wd, false, qs⟩ := by simp [fullS]
            rw [hfs] at HR
            obtain ⟨Z, hZ⟩ : ∃ Z, (N0 + (qs.length : Int)) % 256 = Z := ⟨_, rfl⟩
            rw [hZ] at HR
            have HR2 : Hid (Calls Try.prog 22 #[.agg #[.int .i64 N0, .int .i64 W, .bool false, .bool false, .bool false, .int .i64 0], .agg #[.int .i64 N0, .int .i64 0, .slice A1 qs.length c1, .int .i64 wd, .bool false], .slice (some aL) qs.length qs.length] wr fun e w' =>
                ∃ A c A' c', e = .returned (.tuple #[.agg #[.int .i64 Z, .int .i64 W, .bool false, .bool false, .bool false, .int .i64 (qs.length : Int)], .agg #[.int .i64 Z, .int .i64 0, .slice A 0 c, .int .i64 wd, .bool false], .slice A' qs.length c', .int .i64 0]) ∧ QR w' w'.heap.size A' qs ∧ Below wr.heap.size wr w') :=
              Lib.hid (HR.out.mono fun e w' h => by
                obtain ⟨A, c, A', c', he, _, h2, h3⟩ := h
                exact ⟨A, c, A', c', he, h2, h3⟩)
            obtain ⟨a0, a1, a2, a3, a4, a5⟩ := blk_u gU7
            obtain ⟨b0, b1, b2, b3, b4⟩ := blk_g gr7
            have HQR := Lib.hid hqr
            clear HR hqr hbs hZ hfs hCL hbC
            go_upto_region 18 with fail
            go_cut [18, 19, 20, 15] (fun s18 s19 s20 s15 w6 => ∃ (G : Nat) (A5 : Option Addr) (c5 : Nat) (A6 : Option Addr) (c6 : Nat), s19 = .pointer (some ⟨G, 0, none⟩) ∧ s20 = .slice A6 qs.length c6 ∧ s15 = .int .i64 0 ∧ Blk w6 G (grdC Z 0 (.slice A5 0 c5) wd false) 41 ∧ QR w6 w6.heap.size A6 qs ∧ Below wr.heap.size wr w6)
            case first =>
              go_wp2_with (first | (go_at_call 22; refine (HR2.out).mono ?_; rintro e w8 ⟨A5, c5, A6, c6, rfl, h6, hb8⟩) | fail)
              go_meet
              have B6 := fun a b => ((Below.refl w8.heap.size w8).alloc (Nat.le_refl _) a).alloc (show w8.heap.size ≤ (w8.alloc a).heap.size by simp) b
              exact ⟨_, A5, c5, A6, c6, rfl, rfl, rfl, Blk.snd w8 _ _ _, (h6.below (B6 _ _)).lift (B6 _ _).size, hb8.trans ((B6 _ _).mono hb8.size)⟩
            case rest =>
              obtain ⟨G, A5, c5, A6, c6, rfl, rfl, rfl, g6, h6, hb6⟩ := hcut
              have gG6 := gr7.below hb6 gr7.lt
              obtain ⟨e0, e1, e2, e3, e4⟩ := blk_g gG6
              obtain ⟨f0, f1, f2, f3, f4⟩ := blk_g g6
              have hA := (HQR.out.below hb6).lift hb6.size
              have hlen : ∀ x ∈ qs, x.length ≤ 9223372036854775807 := by
                intro x hx
                have := GD.out x hx
                omega
              have HSB := Lib.hid (sameBodies_yes A6 A1 qs c6 c1 _ _ (Nat.le_refl _) (by omega) hlen h6 hA)
              have b2' := BW.trans (hb6.mono BW.size)
              have HL1 := Lib.hid gG6.lt
              have HL2 := Lib.hid g6.lt
              clear HR2 h6 hA hlen gG6 g6 gr7 gU7 gr5 gU5 a0 a1 a2 a3 a4 a5 b0 b1 b2 b3 b4
              go_wp2_with (first | (go_at_call 25; go_loud (refine (HSB.out).mono ?_; rintro e w7 ⟨rfl, hb7⟩; have e2 := (hb7.cell (by exact HL1.out)).trans e2; have f2 := (hb7.cell (by exact HL2.out)).trans f2)) | (go_at_call 21; refine (awake_any _).mono ?_; rintro e w8 ⟨rfl, hb8⟩) | fail)
              go_ret
              exact ⟨rfl, b2'.trans ((hb7.trans (hb8.mono hb7.size)).mono b2'.size)⟩

set_option maxHeartbeats 1600000 in
set_option maxRecDepth 100000 in
theorem all_lifted (os : Os) (started : os.Started) (H : Type) (enc : TypeId × Value → H) :
    ReturnsInHanded {} Try.checked os 7 .any (Rows.commandAllIsTakenSpec.pre6 enc Try.prog Try.f7 Rows.commandAllIsTakenRow.domain false) (Rows.commandAllIsTakenSpec.post enc Try.prog Try.f7 false true false false) := by
  refine returnsInHanded_of_change (C := Try.checked) own started (by kernel_rfl) Try.func7
    (ChangeSpec.witness6 (enc := enc) (C := Try.checked) false ⟨#[], #[.int .i64 0, .int .i64 0, .slice none 0 0, .int .i64 0], []⟩ 8 (by kernel_rfl) (by kernel_rfl) (by kernel_rfl) (by kernel_rfl)) ?_
  intro W base args ds gs before hval0 hW _ _
  have hval : ∀ (j : Nat) t v, Try.f7.params[j]? = some t → args[j]? = some v → Value.okWide Try.prog W .any base t v := hval0
  have hW' := hW
  have hlt := fun x hx => hW'.lt x hx
  obtain ⟨p, q, hA0, hV, rfl, _, _⟩ := hW
  have hA : DataW.TrodAll enc Try.prog W 0 (fun _ => true) true Try.f7.params.toList args.toList ds p := hA0
  rw [Try.params7] at hA hval
  obtain ⟨v0, v1, v2, v3, d0, d1, d2, d3, p0, p1, p2, p3, rfl, rfl, rfl, h0, h1, h2, h3⟩ := trodAll_four hA
  obtain ⟨rfl, rfl⟩ := trodVars_none hV
  obtain ⟨n, rfl, rfl, rfl, wfn⟩ := open_int Try.underlying3 (hval 0 3 v0 rfl rfl) h0
  have hbn := bounds_i64 wfn
  obtain ⟨v, rfl, rfl, rfl, wfv⟩ := open_int Try.underlying3 (hval 1 3 v1 rfl rfl) h1
  have hbv := bounds_i64 wfv
  obtain ⟨Ab', lenb, capb, rfl⟩ := okWide_slice Try.underlying39 (hval 2 39 v2 rfl rfl)
  obtain ⟨nb, hnb⟩ := h2
  obtain ⟨Ab, cb, b, hvb, hlcb, hcb, hBb, hIb, hdb⟩ := open_bss (fun x hx => hlt x (by simp [hx])) hnb
  obtain ⟨u, rfl, rfl, rfl, wfu⟩ := open_int Try.underlying3 (hval 3 3 v3 rfl rfl) h3
  have hbu := bounds_i64 wfu
  rw [hvb] at hW' ⊢
  refine (lawAll_any n v u Ab b cb W hbn hbv hbu (by have := hlcb; have := hcb; unfold maxLen at *; omega) hBb).mono fun e W' ⟨he, hb⟩ => ?_
  subst he
  exact ⟨_, rfl, law_post (by decide +kernel) rfl rfl hW' rfl hb⟩

set_option maxRecDepth 100000 in
theorem all_closed : joinedFacts Try.prog 7 Try.f7 Rows.commandAllIsTakenSpec Rows.commandAllIsTakenRow = true :=
  closed_all (by as_aux_lemma => kernel_rfl) (by as_aux_lemma => kernel_rfl) (by as_aux_lemma => kernel_rfl) (by as_aux_lemma => kernel_rfl) (by as_aux_lemma => kernel_rfl) (by as_aux_lemma => kernel_rfl) (by as_aux_lemma => kernel_rfl) (by as_aux_lemma => kernel_rfl) (by as_aux_lemma => kernel_rfl) (by as_aux_lemma => kernel_rfl) (by as_aux_lemma => kernel_rfl) (by as_aux_lemma => kernel_rfl) (by as_aux_lemma => kernel_rfl) (by as_aux_lemma => kernel_rfl) (by as_aux_lemma => kernel_rfl) (by as_aux_lemma => kernel_rfl) (by as_aux_lemma => kernel_rfl) (by as_aux_lemma => kernel_rfl) pKeys (by as_aux_lemma => kernel_rfl) pLifts pMake (by as_aux_lemma => kernel_rfl) (by as_aux_lemma => kernel_rfl) (by as_aux_lemma => kernel_rfl) (by as_aux_lemma => kernel_rfl)

theorem all_holds : Rows.CommandAllIsTakenSaid :=
  OpenClaim.holds_of_wide 7 Try.f7 rfl rfl rfl rfl rfl rfl rfl ⟨rfl, rfl, rfl, rfl, rfl⟩ rfl rfl rfl rfl rfl (by kernel_rfl) Try.func7 all_closed
    (of_decide_eq_true (by kernel_rfl)) (by unfold Func.isWrapper; first | (rw [if_pos (by decide +kernel)]; kernel_rfl) | (rw [if_neg (by decide +kernel)]; exact ⟨rfl, rfl⟩))
    (fun os started H enc _ => all_lifted os started H enc)
#print axioms all_holds
end Go.Proofs.Yteikggieekhfkaa
