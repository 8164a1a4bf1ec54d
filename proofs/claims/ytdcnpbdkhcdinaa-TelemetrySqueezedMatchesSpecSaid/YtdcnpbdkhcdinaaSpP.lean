/- the program's spread whole. -/
import Derived.Test.YtdcnpbdkhcdinaaSpN
import Derived.Deep.DeepCutAuto
import Derived.Deep.CutBlock
import Derived.Lib.SlBytesConst
namespace Go.Proofs.Ytdcnpbdkhcdinaa
open Go.RowKit

theorem below_box (K k : Nat) (w : World) (u : Value) : Below K w (w.setCell ⟨K, k, none⟩ u) := (Below.refl K w).setCell (p := ⟨K, k, none⟩) (Nat.le_refl K) u
def boxLen (w : World) (K : Nat) : Nat := match w.cell? ⟨K, 0, none⟩ with | some (.slice _ n _) => n | _ => 0
theorem BoxB.len {w : World} {K n c : Nat} {A : Option Addr} (h : BoxB w K (.slice A n c)) : boxLen w K = n := by unfold boxLen; rw [h.cell]
theorem if_some (c u : Nat) (ad : Addr) : ∃ ad', (if c = u then some ad else some (ad.add u)) = some ad' := by split <;> exact ⟨_, rfl⟩
/-- what spreading answers -/
def SpPost (b : List UInt8) (w : World) (e : Ending) (w' : World) : Prop :=
  ∃ (v : Value) (ok : Bool) (vs : List Int), e = .returned (.tuple #[v, .bool ok]) ∧ OwnI w' w.heap.size v vs ∧ Below w.heap.size w w' ∧ (∀ l, GoodB l b → ok = true ∧ vs = l) ∧ vs.length ≤ 65535
theorem SpPost.no {b : List UInt8} {w w' : World} (h : ∀ l, ¬ GoodB l b) (hb : Below w.heap.size w w') : SpPost b w (.returned (.tuple #[.slice none 0 0, .bool false])) w' :=
  ⟨_, _, [], rfl, OwnI.nil _ _, hb, fun l hl => absurd hl (h l), by simp⟩
set_option maxRecDepth 100000 in
set_option maxHeartbeats 8000000 in
theorem p_spread_any (A : Option Addr) (b : List UInt8) (c B : Nat) (w : World) (hB : B ≤ w.heap.size) (hbl : b.length ≤ 30000) (hbc : b.length ≤ c) (h : BR w B A b) :
    Calls Try.prog 43 #[.slice A b.length c] w (SpPost b w) := by
  obtain ⟨K, hK⟩ : ∃ K, w.heap.size = K := ⟨_, rfl⟩
  have b0 : Below K w (w.alloc (.cells #[.slice A b.length c] 23)) := (Below.refl _ _).alloc (by omega) _
  have hx0 : BoxB (w.alloc (.cells #[.slice A b.length c] 23)) K (.slice A b.length c) := by rw [← hK]; exact heap_newB w _
  have hr0 := (h.lift hB).below (by rw [hK]; exact b0)
  rw [hK] at hr0
  have hz0 : (w.alloc (.cells #[.slice A b.length c] 23)).heap.size = K + 1 := by simp [hK]
  obtain ⟨w0, hw0⟩ : ∃ w0, w.alloc (.cells #[.slice A b.length c] 23) = w0 := ⟨_, rfl⟩
  rw [hw0] at b0 hx0 hr0 hz0
  have HW0 := Lib.hid hw0
  have HK := Lib.hid hK
  have c0 := hx0.cell
  have f0 := hx0.free
  by_cases h2 : b.length < 2
  · have i2 : (b.length : Int) < 2 := by omega
    have HNO : Hid (∀ l, ¬ GoodB l b) := Lib.hid (fun l hl => by
      obtain ⟨-, -, e⟩ := good_parts hl
      rw [e, List.length_append, bigE_len] at h2
      omega)
    clear hw0 h hr0
    go_enter Try.func43, Try.ntmps43
    go_upto_region 1 with fail
    rw [HW0.out]
    go_wp2_with fail
    go_ret2
    exact SpPost.no HNO.out (by rw [hK]; exact b0)
  · have i2 : ¬ (b.length : Int) < 2 := by omega
    obtain ⟨ad, hA, hadl, -⟩ := hr0.get 0 (by omega)
    subst hA
    have HADL := Lib.hid hadl
    clear hadl
    have htl : (b.take 2).length = 2 := by simp; omega
    have hnm := number_any (some ad) c (b.take 2) K w0 (by omega) (hr0.front 2)
    rw [htl] at hnm
    have hmy := bigN_lt (b.take 2)
    rw [htl] at hmy
    have HGM : Hid (∀ l, GoodB l b → l.length = bigN (b.take 2)) := Lib.hid (fun l hl => (good_many hl).symm)
    generalize bigN (b.take 2) = many at *
    have hmy2 : many ≤ 65535 := by omega
    have HNM := Lib.hid hnm
    have HR0 := Lib.hid hr0
    have hc2 : 2 ≤ c := by omega
    have hlt0 := hx0.lt
    clear hw0 h hr0 hnm htl hmy
    go_enter Try.func43, Try.ntmps43
    go_upto_region 1 with fail
    rw [HW0.out]
    go_upto_region 4 with (first | (go_at_call 70; refine HNM.out.mono ?_; rintro e w' ⟨rfl, rfl⟩) | fail)
    go_cut [] from 19 to 20 (fun wx => ∃ ad1, BoxB wx K (.slice (some ad1) (b.length - 2) (c - 2)) ∧ BR wx K (some ad1) (b.drop 2) ∧ Below K w wx)
    case first =>
      by_cases hce : c = 2
      · subst hce
        go_wp2_with fail
        go_meet
        have he2 : b.length = 2 := by omega
        exact ⟨ad, by rw [he2]; exact hx0.set _, .inl (by simp; omega), b0.setCell (Nat.le_refl _) _⟩
      · go_wp2_with fail
        go_meet
        have hr := rest_row (c := c) (u := 2) (HR0.out) (by omega) hbc
        rw [if_neg hce] at hr
        have e : ad.add 2 = ⟨ad.block, ad.off + 2, none⟩ := by simp [Addr.add]
        rw [e] at hr
        exact ⟨_, hx0.set _, hr.other (fun ad' e' => by injection e' with e'; subst e'; have := HADL.out; show ad.block ≠ K; omega), b0.setCell (Nat.le_refl _) _⟩
    case rest =>
      obtain ⟨ad1, hx1, hr1, hb1⟩ := hcut
      have hlt1 := hx1.lt
      clear HR0 HADL HNM hx0 c0 f0 hlt0 HW0
      go_wp2_with fail
      go_loopw [6, 7] (fun s v wr => ∃ (acc : List Int) (value : Int) (adr : Addr) (rest : List UInt8) (cr : Nat), OwnI wr (K + 1) s acc ∧ v = .int .i64 value ∧ BoxB wr K (.slice (some adr) rest.length cr) ∧ BR wr K (some adr) rest ∧ rest.length ≤ cr ∧ rest.length ≤ 30000 ∧ acc.length ≤ many ∧
        (-(((30000 - rest.length : Nat) : Int) * 17179869184) ≤ value ∧ value ≤ ((30000 - rest.length : Nat) : Int) * 17179869184) ∧ ReadSo b acc value rest ∧ Below K w wr) (fun _ _ wr => boxLen wr K)
      case atStart =>
        have hdl : (b.drop 2).length = b.length - 2 := by simp
        exact ⟨[], 0, ad1, b.drop 2, c - 2, OwnI.nil _ _, rfl, by rw [hdl]; exact hx1, hr1, by omega, by omega, by simp, by omega, read_begin, hb1⟩
      case round =>
        obtain ⟨acc, value, adr, rest, cr, hO, rfl, hbx, hbr', hrc, hr30, hal, hvb, hso, hbw⟩ := hrel
        have c1 := hbx.cell
        have f1 := hbx.free
        have hKl := hbx.lt
        obtain ⟨A6, c6, hs6, -, -⟩ := hO.form9
        by_cases hmore : acc.length < many
        · have i1 : (acc.length : Int) < (many : Int) := by omega
          subst hs6
          have bA : Below wr.heap.size wr (wr.alloc (.cells #[.int .u8 128, .int .u8 0] 5 (2, 3))) := (Below.refl _ _).alloc (Nat.le_refl _) _
          have hmk : BR (wr.alloc (.cells #[.int .u8 128, .int .u8 0] 5 (2, 3))) (wr.heap.size + 1) (some ⟨wr.heap.size, 0, none⟩) [128, 0] := Cells.fresh wr _ 5 (2, 3) _ rfl
          have hbxA := hbx.below bA hKl
          have hbrA := hbr'.below (bA.mono (Nat.le_of_lt hKl))
          have hOA : OwnI (wr.alloc (.cells #[.int .u8 128, .int .u8 0] 5 (2, 3))) (K + 1) (.slice A6 acc.length c6) acc := World.ownsRow.alloc hO _
          have HLW := Lib.hid hbx.len
          have hcv := Lib.run_convert_bytes_const (P := Try.prog) wr 23 5 #[.int .u8 128, .int .u8 0] 2 2 Try.underlying23 Try.underlying5
          rw [show (#[Value.int .u8 128, Value.int .u8 0] : Array Value).size = 2 from rfl] at hcv
          by_cases hm : rest.take 2 = [128, 0]
          · have hl2 : 2 ≤ rest.length := by have := congrArg List.length hm; simp at this; omega
            have HCUT := Lib.hid (cut_yes adr (some ⟨wr.heap.size, 0, none⟩) rest cr 2 (wr.heap.size + 1) (wr.alloc (.cells #[.int .u8 128, .int .u8 0] 5 (2, 3))) (by omega) hrc (hbrA.lift (by omega)) hmk hm)
            obtain ⟨ad2, had2⟩ := if_some cr 2 adr
            rw [had2] at HCUT
            have hbr2 : BR wr K (some ad2) (rest.drop 2) := by rw [← had2]; exact rest_row hbr' hl2 hrc
            have hXl : (rest.drop 2).length = rest.length - 2 := by simp
            clear had2
            obtain ⟨wB, hwB⟩ : ∃ wB, (wr.setCell ⟨K, 0, none⟩ (.slice (some ad2) (rest.length - 2) (cr - 2))).alloc (.cells #[.int .u8 128, .int .u8 0] 5 (2, 3)) = wB := ⟨_, rfl⟩
            have bB : Below K wr wB := by rw [← hwB]; exact (below_box K 0 wr _).alloc (by simp; omega) _
            have hboxB : BoxB wB K (.slice (some ad2) (rest.drop 2).length (cr - 2)) := by rw [← hwB, hXl]; exact (hbx.set _).below ((Below.refl (K + 1) _).alloc (by simp; omega) _) (Nat.lt_succ_self K)
            have hbrB := hbr2.below bB
            have hOB : OwnI wB (K + 1) (.slice A6 acc.length c6) acc := by rw [← hwB]; exact World.ownsRow.alloc (hO.box (Nat.lt_succ_self K)) _
            have HNUM := Lib.hid (num_any K ad2 (rest.drop 2) (cr - 2) K wB (by rw [hXl]; omega) (by rw [hXl]; omega) hbrB hboxB)
            obtain ⟨gu1, gu2, gu3⟩ := unG_le 5 (rest.drop 2)
            obtain ⟨p, hp⟩ : ∃ p, unG 5 (rest.drop 2) = p := ⟨_, rfl⟩
            rw [hp] at HNUM gu1 gu2 gu3
            obtain ⟨n, u⟩ := p
            rw [hXl] at HNUM gu1
            simp only at HNUM gu1 gu2 gu3
            obtain ⟨ad3, had3⟩ := if_some (cr - 2) u ad2
            rw [had3] at HNUM
            have hr3 : BR wB K (some ad3) ((rest.drop 2).drop u) := by rw [← had3]; exact rest_row hbrB (by rw [hXl]; omega) (by rw [hXl]; omega)
            obtain ⟨wC, hwC⟩ : ∃ wC, wB.setCell ⟨K, 0, none⟩ (.slice (some ad3) ((rest.length - 2) - u) ((cr - 2) - u)) = wC := ⟨_, rfl⟩
            rw [hwC] at HNUM
            have bC : Below K wB wC := by rw [← hwC]; exact below_box K _ _ _
            have hdl : ((rest.drop 2).drop u).length = (rest.length - 2) - u := by rw [List.length_drop, hXl]
            have HDL := Lib.hid hdl
            have HBX : Hid (BoxB wC K (.slice (some ad3) ((rest.drop 2).drop u).length ((cr - 2) - u))) := Lib.hid (by rw [← hwC, hdl]; exact hboxB.set _)
            have HBR := Lib.hid (hr3.below bC)
            have HOC : Hid (OwnI wC (K + 1) (.slice A6 acc.length c6) acc) := Lib.hid (by rw [← hwC]; exact hOB.box (Nat.lt_succ_self K))
            have HBL := Lib.hid (hbw.trans (bB.trans bC))
            have HZC : Hid (K + 1 ≤ wC.heap.size) := Lib.hid (by have := bB.size; have := bC.size; omega)
            have HSO := Lib.hid (read_row hso hm n u hp)
            have HCAN := Lib.hid (fun l (hl : GoodB l b) => (read_can hso hl (by rw [HGM.out l hl]; exact hmore)).1 hm)
            rw [hp] at HCAN
            have HWB := Lib.hid hwB
            clear hso hm hp hwB hbrB hboxB hbr2 hr3 had3 bB bC hOB hO hbrA hbxA hOA hbr' hdl
            have HWC := Lib.hid hwC
            clear hwC
            go_wp2_with fail
            refine HCUT.out.mono ?_
            rintro e w' ⟨rfl, rfl⟩
            by_cases hu : 0 < u
            · rw [decide_eq_true hu] at HNUM
              by_cases hnm : n ≤ many - acc.length
              · have j1 : ¬ ((many : Int) - (acc.length : Int) < (n : Int)) := by omega
                have hrl : (rest.length - 2 - u : Nat) + 2 + u = rest.length := by omega
                go_wp2_with fail
                rw [HWB.out]
                refine (HNUM.out.mono (fun e w' h => (⟨h.1, h.2.symm⟩ : _ ∧ wC = w'))).mono ?_
                rintro e w' ⟨rfl, rfl⟩
                go_wp2_with fail
                go_loopw [6, 59] (fun s i wq => ∃ k : Nat, k ≤ n ∧ i = .int .i64 k ∧ OwnI wq (K + 1) s (acc ++ List.replicate k value) ∧ Below (K + 1) wC wq) (fun _ i _ => n - (intOf i).toNat)
                case atStart => exact ⟨0, Nat.zero_le _, rfl, by simpa using HOC.out, Below.refl _ _⟩
                case round =>
                  obtain ⟨k, hk, rfl, hO, hbq⟩ := hrel
                  have hzq := hbq.size
                  have hzC := HZC.out
                  by_cases hlt : k < n
                  · have i0 : (0 : Int) ≤ (k : Int) := by omega
                    have i1' : (k : Int) < (n : Int) := by omega
                    obtain ⟨L, hL⟩ : ∃ L, acc ++ List.replicate k value = L := ⟨_, rfl⟩
                    have hL2 : acc ++ List.replicate (k + 1) value = L ++ [value] := by rw [← hL, List.replicate_succ', List.append_assoc]
                    have hLl : L.length ≤ 200000 := by rw [← hL]; simp; omega
                    rw [hL] at hO
                    have HL2 := Lib.hid hL2
                    have HLB := Lib.hid (fun q (hq : u6.ownBlock = some q) => (World.ownsRow.lt hO q hq).1)
                    clear hL hL2
                    go_wp2_with (first
                      | (at_builtin; refine wpList_app _ rfl (.tmp 61) (.tmp 63) 22 3 1 8 rfl elemI (K + 1) u6 L.length (L.map iv) rfl (World.ownsRow.alloc hO _) (wr.heap.size + 1) _ 1 1 ([value].map iv) rfl rfl (Cells.fresh wr _ 3 _ _ rfl) (iv_one _) (by unfold maxLen; omega) (by omega) (by simp; omega) ?_; intro v7 w7 hown7 hgrow7 hat7)
                      | fail)
                    go_roundw
                    case rel => exact ⟨k + 1, by omega, by go_num, by rw [HL2.out]; exact OwnI.of hown7 rfl, (hbq.alloc (by omega) _).grown hgrow7 (by simp; omega) (fun q hq => HLB.out q hq)⟩
                    case measure => simp [intOf]; omega
                  · have hkn : k = n := by omega
                    have hboxq := HBX.out.below hbq (Nat.lt_succ_self K)
                    have hbrq := HBR.out.below (hbq.mono (Nat.le_succ K))
                    have hbel := HBL.out.trans (hbq.mono (Nat.le_succ K))
                    have hO2 : OwnI wr (K + 1) u6 (acc ++ List.replicate n value) := by subst hkn; exact hO
                    have HO2 := Lib.hid hO2
                    have HKN := Lib.hid hkn
                    clear hkn hO hO2
                    go_wp2_with fail
                    exact ⟨⟨acc ++ List.replicate n value, value, _, _, _, HO2.out, rfl, hboxq, hbrq, by rw [HDL.out]; omega, by rw [HDL.out]; omega, by simp; omega, by rw [HDL.out]; omega, HSO.out, hbel⟩, by rw [hboxq.len, HLW.out, HDL.out]; omega⟩
              · have j1 : (many : Int) - (acc.length : Int) < (n : Int) := by omega
                have HNO : Hid (∀ l, ¬ GoodB l b) := Lib.hid (fun l hl => by have := (HCAN.out l hl).2; rw [HGM.out l hl] at this; exact hnm this)
                go_wp2_with fail
                rw [HWB.out]
                refine (HNUM.out.mono (fun e w' h => (⟨h.1, h.2.symm⟩ : _ ∧ wC = w'))).mono ?_
                rintro e w' ⟨rfl, rfl⟩
                go_wp2_with fail
                go_ret2
                exact SpPost.no HNO.out (by rw [hK]; exact HBL.out)
            · rw [decide_eq_false hu] at HNUM
              have HNO : Hid (∀ l, ¬ GoodB l b) := Lib.hid (fun l hl => hu (HCAN.out l hl).1)
              go_wp2_with fail
              rw [HWB.out]
              refine (HNUM.out.mono (fun e w' h => (⟨h.1, h.2.symm⟩ : _ ∧ wC = w'))).mono ?_
              rintro e w' ⟨rfl, rfl⟩
              go_wp2_with fail
              go_ret2
              exact SpPost.no HNO.out (by rw [hK]; exact HBL.out)
          · have HCUT := Lib.hid (cut_no (some adr) (some ⟨wr.heap.size, 0, none⟩) rest cr 2 (wr.heap.size + 1) (wr.alloc (.cells #[.int .u8 128, .int .u8 0] 5 (2, 3))) (by omega) hrc (hbrA.lift (by omega)) hmk hm)
            have hbr2 := hbr'
            have hXl : rest.length = rest.length := rfl
            obtain ⟨wB, hwB⟩ : ∃ wB, (wr.setCell ⟨K, 0, none⟩ (.slice (some adr) rest.length cr)).alloc (.cells #[.int .u8 128, .int .u8 0] 5 (2, 3)) = wB := ⟨_, rfl⟩
            have bB : Below K wr wB := by rw [← hwB]; exact (below_box K 0 wr _).alloc (by simp; omega) _
            have hboxB : BoxB wB K (.slice (some adr) rest.length cr) := by rw [← hwB, hXl]; exact (hbx.set _).below ((Below.refl (K + 1) _).alloc (by simp; omega) _) (Nat.lt_succ_self K)
            have hbrB := hbr2.below bB
            have hOB : OwnI wB (K + 1) (.slice A6 acc.length c6) acc := by rw [← hwB]; exact World.ownsRow.alloc (hO.box (Nat.lt_succ_self K)) _
            have HNUM := Lib.hid (num_any K adr rest cr K wB (by rw [hXl]; omega) (by rw [hXl]; omega) hbrB hboxB)
            obtain ⟨gu1, gu2, gu3⟩ := unG_le 5 rest
            obtain ⟨p, hp⟩ : ∃ p, unG 5 rest = p := ⟨_, rfl⟩
            rw [hp] at HNUM gu1 gu2 gu3
            obtain ⟨n, u⟩ := p
            rw [hXl] at HNUM gu1
            simp only at HNUM gu1 gu2 gu3
            obtain ⟨ad3, had3⟩ := if_some cr u adr
            rw [had3] at HNUM
            have hr3 : BR wB K (some ad3) (rest.drop u) := by rw [← had3]; exact rest_row hbrB (by rw [hXl]; omega) (by rw [hXl]; omega)
            obtain ⟨wC, hwC⟩ : ∃ wC, wB.setCell ⟨K, 0, none⟩ (.slice (some ad3) (rest.length - u) (cr - u)) = wC := ⟨_, rfl⟩
            rw [hwC] at HNUM
            have bC : Below K wB wC := by rw [← hwC]; exact below_box K _ _ _
            have hdl : (rest.drop u).length = rest.length - u := by rw [List.length_drop, hXl]
            have HDL := Lib.hid hdl
            have HBX : Hid (BoxB wC K (.slice (some ad3) (rest.drop u).length (cr - u))) := Lib.hid (by rw [← hwC, hdl]; exact hboxB.set _)
            have HBR := Lib.hid (hr3.below bC)
            have HOC : Hid (OwnI wC (K + 1) (.slice A6 acc.length c6) acc) := Lib.hid (by rw [← hwC]; exact hOB.box (Nat.lt_succ_self K))
            have HBL := Lib.hid (hbw.trans (bB.trans bC))
            have HZC : Hid (K + 1 ≤ wC.heap.size) := Lib.hid (by have := bB.size; have := bC.size; omega)
            have HSO := Lib.hid (read_one hso hm (fun l hl => by rw [HGM.out l hl]; exact hmore) n u hp)
            have HCAN := Lib.hid (fun l (hl : GoodB l b) => (read_can hso hl (by rw [HGM.out l hl]; exact hmore)).2 hm)
            rw [hp] at HCAN
            have HWB := Lib.hid hwB
            clear hso hm hp hwB hbrB hboxB hbr2 hr3 had3 bB bC hOB hO hbrA hbxA hOA hbr' hdl
            have HWC := Lib.hid hwC
            clear hwC
            go_wp2_with fail
            refine HCUT.out.mono ?_
            rintro e w' ⟨rfl, rfl⟩
            by_cases hu : 0 < u
            · rw [decide_eq_true hu] at HNUM
              have hn34 : n < 34359738368 := by
                have h : 128 ^ 5 = 34359738368 := by decide
                omega
              have hsl := sgn_lt hn34
              have HSG := Lib.hid (signed_any n wC hn34)
              have hrl : (rest.length - u : Nat) + u = rest.length := by omega
              have hvb2 : -(((30000 - (rest.length - u) : Nat) : Int) * 17179869184) ≤ value + sgnN n ∧ value + sgnN n ≤ ((30000 - (rest.length - u) : Nat) : Int) * 17179869184 := by omega
              have hw1 : IntKind.i64.wrap (value + sgnN n) = value + sgnN n := IntWalk.i64_in _ (by omega)
              have hw2 : wrap64 (value + sgnN n) = value + sgnN n := IntWalk.wrap64_in _ (by omega)
              go_wp2_with fail
              rw [HWB.out]
              refine (HNUM.out.mono (fun e w' h => (⟨h.1, h.2.symm⟩ : _ ∧ wC = w'))).mono ?_
              rintro e w' ⟨rfl, rfl⟩
              go_wp2_with fail
              refine HSG.out.mono ?_
              rintro e w' ⟨rfl, rfl⟩
              generalize sgnN n = z at *
              obtain ⟨vz, hvz⟩ : ∃ vz, value + z = vz := ⟨_, rfl⟩
              rw [hvz] at hw1 hw2 hvb2 HSO
              go_wp2_with fail
              go_loopw [6, 59] (fun s i wq => ∃ k : Nat, k ≤ 1 ∧ i = .int .i64 k ∧ OwnI wq (K + 1) s (acc ++ List.replicate k vz) ∧ Below (K + 1) wC wq) (fun _ i _ => 1 - (intOf i).toNat)
              case atStart => exact ⟨0, Nat.zero_le _, rfl, by simpa using HOC.out, Below.refl _ _⟩
              case round =>
                obtain ⟨k, hk, rfl, hO, hbq⟩ := hrel
                have hzq := hbq.size
                have hzC := HZC.out
                by_cases hlt : k < 1
                · have i0 : (0 : Int) ≤ (k : Int) := by omega
                  have i1' : (k : Int) < 1 := by omega
                  obtain ⟨L, hL⟩ : ∃ L, acc ++ List.replicate k vz = L := ⟨_, rfl⟩
                  have hL2 : acc ++ List.replicate (k + 1) vz = L ++ [vz] := by rw [← hL, List.replicate_succ', List.append_assoc]
                  have hLl : L.length ≤ 200000 := by rw [← hL]; simp; omega
                  rw [hL] at hO
                  have HL2 := Lib.hid hL2
                  have HLB := Lib.hid (fun q (hq : u6.ownBlock = some q) => (World.ownsRow.lt hO q hq).1)
                  clear hL hL2
                  go_wp2_with (first
                    | (at_builtin; refine wpList_app _ rfl (.tmp 61) (.tmp 63) 22 3 1 8 rfl elemI (K + 1) u6 L.length (L.map iv) rfl (World.ownsRow.alloc hO _) (wr.heap.size + 1) _ 1 1 ([vz].map iv) rfl rfl (Cells.fresh wr _ 3 _ _ rfl) (iv_one _) (by unfold maxLen; omega) (by omega) (by simp; omega) ?_; intro v7 w7 hown7 hgrow7 hat7)
                    | fail)
                  go_roundw
                  case rel => exact ⟨k + 1, by omega, by go_num, by rw [HL2.out]; exact OwnI.of hown7 rfl, (hbq.alloc (by omega) _).grown hgrow7 (by simp; omega) (fun q hq => HLB.out q hq)⟩
                  case measure => simp [intOf]; omega
                · have hkn : k = 1 := by omega
                  have hboxq := HBX.out.below hbq (Nat.lt_succ_self K)
                  have hbrq := HBR.out.below (hbq.mono (Nat.le_succ K))
                  have hbel := HBL.out.trans (hbq.mono (Nat.le_succ K))
                  have hO2 : OwnI wr (K + 1) u6 (acc ++ List.replicate 1 vz) := by subst hkn; exact hO
                  have HO2 := Lib.hid hO2
                  have HKN := Lib.hid hkn
                  clear hkn hO hO2
                  go_wp2_with fail
                  exact ⟨⟨acc ++ List.replicate 1 vz, vz, _, _, _, HO2.out, rfl, hboxq, hbrq, by rw [HDL.out]; omega, by rw [HDL.out]; omega, by simp; omega, by rw [HDL.out]; exact hvb2, by simpa using HSO.out, hbel⟩, by rw [hboxq.len, HLW.out, HDL.out]; omega⟩
            · rw [decide_eq_false hu] at HNUM
              have HNO : Hid (∀ l, ¬ GoodB l b) := Lib.hid (fun l hl => hu (HCAN.out l hl))
              go_wp2_with fail
              rw [HWB.out]
              refine (HNUM.out.mono (fun e w' h => (⟨h.1, h.2.symm⟩ : _ ∧ wC = w'))).mono ?_
              rintro e w' ⟨rfl, rfl⟩
              go_wp2_with fail
              go_ret2
              exact SpPost.no HNO.out (by rw [hK]; exact HBL.out)
        · have i1 : ¬ (acc.length : Int) < (many : Int) := by omega
          have HEND := Lib.hid (read_end hso (fun l hl => by rw [HGM.out l hl]; omega))
          have HO := Lib.hid hO
          subst hs6
          clear hso hO
          go_wp2_with fail
          go_ret2
          rw [← hK] at hbw
          exact ⟨_, _, acc, rfl, HO.out.lower (by omega), hbw, fun l hl => ⟨rfl, HEND.out l hl⟩, by omega⟩
end Go.Proofs.Ytdcnpbdkhcdinaa
