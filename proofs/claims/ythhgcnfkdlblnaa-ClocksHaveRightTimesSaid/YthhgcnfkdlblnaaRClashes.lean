/- Clashes of the reference. -/
import Derived.Test.YthhgcnfkdlblnaaRWindow
namespace Go.Proofs.Ythhgcnfkdlblnaa
open Go.RowKit

/-- the heads of the loops of the reference's Clashes -/
def RClashAt (s f : Int) (l : List Mk) (w : World) (v i : Value) (wr : World) : Prop :=
  ∃ k : Nat, k ≤ l.length ∧ i = .int .i64 k ∧ OwnI wr (w.heap.size + 1) v (clashTo s f l k) ∧ Below (w.heap.size + 1) (boxed s f w) wr
def RClashIn (s f : Int) (l : List Mk) (x : Mk) (v : Value) (acc : List Int) (w : World) (b i : Value) (wr : World) : Prop :=
  ∃ k : Nat, k ≤ l.length ∧ i = .int .i64 k ∧ b = .bool ((l.take k).any (badP s f x)) ∧ OwnI wr (w.heap.size + 1) v acc ∧ Below (w.heap.size + 1) (boxed s f w) wr
set_option maxRecDepth 100000 in
set_option maxHeartbeats 4000000 in
theorem rclashes_any (s f : Int) (A : Option Addr) (c : Nat) (l : List Mk) (w : World) (hl : l.length ≤ 9223372036854775807) (hA : MR w w.heap.size A l) :
    Calls Try.prog 36 #[cv s f, .slice A l.length c] w (TurnPost (clashesS s f l) w) := by
  have hc := fun (w' : World) (hb : Below w.heap.size w w') => rcheckBoth_any s f A c l w' hl ((hA.below hb).lift hb.size)
  by_cases h : ckB s f l = 0
  · obtain ⟨q1, q2⟩ := ckB_ok h
    obtain ⟨hs, hf, -⟩ := ckC_ok q1
    obtain ⟨hpos, h2000, hok, -⟩ := ckM_ok l q2
    clear q1 q2
    rw [clashesS_ok h]
    rw [h] at hc
    unfold TurnPost
    simp only
    have HC := Lib.hid hc
    have HRX := Lib.hid (fun (x y : Mk) (hx : x.ok) (hy : y.ok) (w' : World) => windowOf_any s f y x.t hs hf hy hx.1 w')
    have HOK := Lib.hid hok
    have HSELF := Lib.hid (fun (x : Mk) (hx : x.ok) => badP_self s f x hs hx)
    clear hc h hs hf hok
    obtain ⟨ad, rfl, had, -, -, -⟩ := hA.get 0 hpos
    clear hpos
    unfold cv at *
    go_enter Try.func36, Try.ntmps36
    go_wp2_with fail
    refine (HC.out _ (boxed_below s f w)).mono ?_
    rintro e w1 ⟨rfl, hb1⟩
    have hb2 : Below (w.heap.size + 1) (boxed s f w) w1 := hb1.mono (by rw [boxed_size]; omega)
    clear hb1 HC
    go_wp2_with fail
    go_loopw [7, 8] (fun v i wr => RClashAt s f l w v i wr) (fun _ i _ => l.length - (intOf i).toNat)
    case atStart => exact ⟨0, Nat.zero_le _, rfl, OwnI.nil _ _, hb2⟩
    case round =>
      obtain ⟨i, hi, rfl, hown, hb⟩ := hrel
      clear hb2
      by_cases hlt : i < l.length
      · obtain ⟨ad', hadd, -, c0, c1, c2⟩ := hA.get i hlt
        obtain rfl : ad = ad' := by injection hadd
        have hlen := clashTo_len s f l i
        have hG := Lib.hid (clashAt_get s f l i hlt)
        have HY := Lib.hid (fun h => clashTo_yes s f l i h)
        have HN := Lib.hid (fun h => clashTo_no s f l i h)
        generalize clashTo s f l i = acc at *
        have hxok := HOK.out _ (List.getElem_mem hlt)
        have HRY := Lib.hid (fun (y : Mk) (hy : y.ok) (w' : World) => HRX.out l[i] y hxok hy w')
        have HX : Hid (l[i] = l[i]) := Lib.hid rfl
        have HLX := Lib.hid (List.getElem?_eq_getElem hlt)
        generalize l[i] = x at *
        have HSX := Lib.hid (HSELF.out x hxok)
        obtain ⟨xt, xz, xo⟩ := x
        obtain ⟨⟨x1, x2⟩, ⟨x3, x4⟩, ⟨x5, x6⟩⟩ := hxok
        simp only at c0 c1 c2 HRY x1 x2 x3 x4 x5 x6
        have wS : IntKind.i64.wrap (xz - xo) = xz - xo := IntWalk.i64_in _ (by omega)
        have wT : IntKind.i64.wrap (xz + xo) = xz + xo := IntWalk.i64_in _ (by omega)
        clear hadd HX
        go_wp2_with fail
        go_loopw [9, 10] (fun b i wr => RClashIn s f l ⟨xt, xz, xo⟩ u7 acc w b i wr) (fun _ i _ => l.length - (intOf i).toNat)
        case atStart => exact ⟨0, Nat.zero_le _, rfl, by simp, hown, hb⟩
        case round =>
          obtain ⟨k, hk, rfl, rfl, hown, hb⟩ := hrel
          by_cases hkl : k < l.length
          · have hbw := boxed_all hb
            have hAr := hA.below hbw
            obtain ⟨ad', hadd, -, d0, d1, d2⟩ := hAr.get k hkl
            obtain rfl : ad = ad' := by injection hadd
            obtain ⟨fa, fb⟩ := boxed_cells hb
            have e0 := (hbw.cell (p := ad.add (i * 3)) (by rw [add_block]; omega)).trans c0
            have e1 := (Below.at_ hbw (ad.add (i * 3)).block (by rw [add_block]; omega) _).trans c1
            have e2 := (Below.at_ hbw (ad.add (i * 3)).block (by rw [add_block]; omega) _).trans c2
            have hz1 : w.heap.size < wr.heap.size := by have := hb.size; rw [boxed_size] at this; omega
            have HRC := Lib.hid (HRY.out l[k] (HOK.out _ (List.getElem_mem hkl)))
            have HT := Lib.hid (any_take_one (badP s f ⟨xt, xz, xo⟩) l k hkl)
            have HBP : Hid (badP s f ⟨xt, xz, xo⟩ l[k] = decide ((reachF s f l[k] xt).2 < xz - xo ∨ xz + xo < (reachF s f l[k] xt).1)) := Lib.hid rfl
            have HKI : Hid (k = i → badP s f ⟨xt, xz, xo⟩ l[k] = false) := Lib.hid (fun e => by
              have := HLX.out
              rw [← e, List.getElem?_eq_getElem hkl] at this
              injection this with this
              rw [this]
              exact HSX.out)
            clear hadd hAr
            generalize l[k] = m at *
            generalize hclv : (l.take k).any (badP s f ⟨xt, xz, xo⟩) = cl at *
            have HCL := Lib.hid hclv
            clear hclv
            obtain ⟨yt, yz, yo⟩ := m
            simp only at d0 d1 d2
            unfold mv ReachPost at HRC
            simp only at HRC
            generalize hrr : reachF s f ⟨yt, yz, yo⟩ xt = rr at *
            obtain ⟨r1, r2⟩ := rr
            simp only at HRC HBP
            have hS : ∀ w', Below wr.heap.size wr w' → (w'.cell? ⟨w.heap.size, 0, none⟩ = some (.int .i64 s) ∧ w'.cell? ⟨w.heap.size, 1, none⟩ = some (.int .i64 f) ∧ w'.cell? (ad.add (k * 3)) = some (.int .i64 yt) ∧ w'.cell? ⟨(ad.add (k * 3)).block, (ad.add (k * 3)).off + 1, none⟩ = some (.int .i64 yz) ∧ w'.cell? ⟨(ad.add (k * 3)).block, (ad.add (k * 3)).off + 2, none⟩ = some (.int .i64 yo) ∧ w'.cell? (ad.add (i * 3)) = some (.int .i64 xt)) := fun w' hw =>
              ⟨(Below.at_ hw _ (by omega) _).trans fa, (Below.at_ hw _ (by omega) _).trans fb, (hw.cell (by rw [add_block]; omega)).trans d0, (Below.at_ hw _ (by rw [add_block]; omega) _).trans d1, (Below.at_ hw _ (by rw [add_block]; omega) _).trans d2, (hw.cell (by rw [add_block]; omega)).trans e0⟩
            have HSS := Lib.hid hS
            clear hS
            go_wp2_with fail
            go_region_held3 (fun w' => w'.cell? ⟨w.heap.size, 0, none⟩ = some (.int .i64 s) ∧ w'.cell? ⟨w.heap.size, 1, none⟩ = some (.int .i64 f) ∧ w'.cell? (ad.add (k * 3)) = some (.int .i64 yt) ∧ w'.cell? ⟨(ad.add (k * 3)).block, (ad.add (k * 3)).off + 1, none⟩ = some (.int .i64 yz) ∧ w'.cell? ⟨(ad.add (k * 3)).block, (ad.add (k * 3)).off + 2, none⟩ = some (.int .i64 yo) ∧ w'.cell? (ad.add (i * 3)) = some (.int .i64 xt))
              (first | go_keep | exact HSS.out _ (by assumption))
              (first
               | (go_at_call 70
                  refine (carryB (B := wr.heap.size) (W0 := wr) (HRC.out _) ?_ ?_).mono ?_
                  · first | assumption | exact (Below.refl _ _).drew | exact Below.drew (by assumption)
                  · first | assumption | (simp; done)
                  rintro e w3 ⟨rfl, hb3, hs3⟩))
            have hb4 : Below (w.heap.size + 1) (boxed s f w) w3 := hb.trans (hb3.mono (by omega))
            have hown3 := hown.after hb3 (Nat.le_refl _)
            have e1 := (Below.at_ hb3 (ad.add (i * 3)).block (by rw [add_block]; omega) _).trans e1
            have e2 := (Below.at_ hb3 (ad.add (i * 3)).block (by rw [add_block]; omega) _).trans e2
            clear HSS HRC c0 c1 c2 d0 d1 d2 fa fb hb3 hs3 hb hown hrr e0
            rcases cl with _ | _
            · by_cases hki : k = i
              · have hne : ((k : Int) != (i : Int)) = false := by simp [hki]
                have HFIN : Hid (List.any (List.take (k + 1) l) (badP s f ⟨xt, xz, xo⟩) = false) := Lib.hid (by rw [HT.out, HKI.out hki]; rfl)
                have hki0 : (k : Int) = (i : Int) := by rw [hki]
                have HKK := Lib.hid hki
                clear HKI hki HT HCL HBP
                go_wp2_with fail
                go_quiet (fail)
                go_wp2_with fail
                go_roundw
                case rel => exact ⟨k + 1, by omega, by go_num, by rw [HFIN.out], hown3.after (below_draws (Below.refl w3.heap.size w3) _) (Nat.le_refl _), below_draws hb4 _⟩
                case measure => simp [intOf]; omega
              · have hne : ((k : Int) != (i : Int)) = true := by simp; omega
                have hki0 : ¬ (k : Int) = (i : Int) := by omega
                by_cases q1 : r2 < xz - xo
                · have t1 : decide (r2 < xz - xo) = true := by simpa using q1
                  have HFIN : Hid (List.any (List.take (k + 1) l) (badP s f ⟨xt, xz, xo⟩) = true) := Lib.hid (by rw [HT.out, HBP.out, Bool.false_or, decide_eq_true_eq]; exact .inl q1)
                  clear HKI HT HCL HBP
                  go_wp2_with fail
                  go_quiet (fail)
                  go_wp2_with fail
                  go_roundw
                  case rel => exact ⟨k + 1, by omega, by go_num, by rw [HFIN.out], hown3.after (below_draws (Below.refl w3.heap.size w3) _) (Nat.le_refl _), below_draws hb4 _⟩
                  case measure => simp [intOf]; omega
                · have t1 : decide (r2 < xz - xo) = false := by simpa using q1
                  by_cases q2 : xz + xo < r1
                  · have t2 : decide (xz + xo < r1) = true := by simpa using q2
                    have HFIN : Hid (List.any (List.take (k + 1) l) (badP s f ⟨xt, xz, xo⟩) = true) := Lib.hid (by rw [HT.out, HBP.out, Bool.false_or, decide_eq_true_eq]; exact .inr q2)
                    clear HKI HT HCL HBP
                    go_wp2_with fail
                    go_quiet (fail)
                    go_wp2_with fail
                    go_roundw
                    case rel => exact ⟨k + 1, by omega, by go_num, by rw [HFIN.out], hown3.after (below_draws (Below.refl w3.heap.size w3) _) (Nat.le_refl _), below_draws hb4 _⟩
                    case measure => simp [intOf]; omega
                  · have t2 : decide (xz + xo < r1) = false := by simpa using q2
                    have HFIN : Hid (List.any (List.take (k + 1) l) (badP s f ⟨xt, xz, xo⟩) = false) := Lib.hid (by rw [HT.out, HBP.out, Bool.false_or, decide_eq_false_iff_not]; exact fun h => h.elim q1 q2)
                    clear HKI HT HCL HBP
                    go_wp2_with fail
                    go_quiet (fail)
                    go_wp2_with fail
                    go_roundw
                    case rel => exact ⟨k + 1, by omega, by go_num, by rw [HFIN.out], hown3.after (below_draws (Below.refl w3.heap.size w3) _) (Nat.le_refl _), below_draws hb4 _⟩
                    case measure => simp [intOf]; omega
            · have HFIN : Hid (List.any (List.take (k + 1) l) (badP s f ⟨xt, xz, xo⟩) = true) := Lib.hid (by rw [HT.out]; rfl)
              clear HKI HT HCL HBP
              go_wp2_with fail
              go_quiet (fail)
              go_wp2_with fail
              go_roundw
              case rel => exact ⟨k + 1, by omega, by go_num, by rw [HFIN.out], hown3.after (below_draws (Below.refl w3.heap.size w3) _) (Nat.le_refl _), below_draws hb4 _⟩
              case measure => simp [intOf]; omega
          · obtain rfl : k = l.length := by omega
            have hCON : Hid ((l.take l.length).any (badP s f ⟨xt, xz, xo⟩) = clashAt s f l i) := Lib.hid (by rw [List.take_length, hG.out]; rfl)
            rw [hCON.out]
            have hbw := boxed_all hb
            have hbz := hb.size
            rw [boxed_size] at hbz
            generalize hcl : clashAt s f l i = cl at *
            clear hCON hG
            rcases cl with _ | _
            · have HYY := Lib.hid (HN.out rfl)
              clear hcl HN HY
              go_wp2_with fail
              go_roundw
              case rel => exact ⟨i + 1, by omega, by go_num, by rw [HYY.out]; exact hown, hb⟩
              case measure => simp [intOf]; omega
            · have HYY := Lib.hid (HY.out rfl)
              clear hcl HN HY
              go_wp2_with (first | (at_builtin; refine wpList_app _ rfl (.tmp 82) (.tmp 84) 22 3 1 8 rfl elemI (w.heap.size + 1) u7 acc.length (acc.map iv) rfl (World.ownsRow.alloc hown _) (wr.heap.size + 1) _ 1 1 ([(i : Int)].map iv) rfl rfl (Cells.fresh wr _ 3 _ _ rfl) (iv_one _) (by unfold maxLen; omega) (by omega) (by simp; omega) ?_; intro v3 w3 hown3 hgrow3 hat3) | fail)
              go_roundw
              case rel =>
                refine ⟨i + 1, by omega, by go_num, ?_, ?_⟩
                · rw [HYY.out]; exact OwnI.of hown3 rfl
                · exact (hb.alloc (by omega) _).grown hgrow3 (by simp; omega) (fun g hgv => (hown.lt g hgv).1)
              case measure => simp [intOf]; omega
      · obtain rfl : i = l.length := by omega
        go_wp2_with fail
        go_ret2
        exact ⟨_, rfl, hown.lower (by omega), boxed_all hb⟩
  · rw [clashesS_bad h]
    generalize ckB s f l = r at *
    have hne : (r != 0) = true := by simpa using h
    have HC := Lib.hid hc
    unfold TurnPost
    simp only
    clear hc h hA
    unfold cv at *
    go_enter Try.func36, Try.ntmps36
    go_wp2_with fail
    refine (HC.out _ (boxed_below s f w)).mono ?_
    rintro e w1 ⟨rfl, hb1⟩
    have hb2 : Below w.heap.size w w1 := boxed_trans hb1
    clear hb1
    go_wp2_with fail
    go_ret2
    exact ⟨_, rfl, OwnI.nil _ _, hb2⟩
end Go.Proofs.Ythhgcnfkdlblnaa
